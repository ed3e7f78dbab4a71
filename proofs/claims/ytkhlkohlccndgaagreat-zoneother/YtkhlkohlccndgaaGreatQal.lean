/- The contract of the document's FieldsOf. -/
import Derived.Test.YtkhlkohlccndgaaGreatQz
import Derived.Test.YtkhlkohlccndgaaGreatQae
set_option linter.unusedVariables false
set_option linter.unusedSimpArgs false
set_option maxRecDepth 100000
set_option maxHeartbeats 16000000
namespace Go.Proofs.YtkhlkohlccndgaaGreat
section
open Go.RowKit

theorem yV (s : ByteArray) (w : World) (hs : s.size ≤ 8000) :
  Calls Tryz.prog 184 #[.string s] w fun e w' => ∃ v, e = .returned (.tuple #[v, .int .i64 (Tx.fields (s.size + 1) 0 s.data.toList).2]) ∧ w'.ownsRow w.heap.size 9 1 v (Tx.fields (s.size + 1) 0 s.data.toList).1.length ((Tx.fields (s.size + 1) 0 s.data.toList).1.map ag) ∧ Below w.heap.size w w' := by
 obtain ⟨G, hG⟩ : ∃ G, Tx.fields (s.size + 1) 0 s.data.toList = G := ⟨_, rfl⟩
 obtain ⟨i0, hi, hz0, hz1, hz2⟩ := info_parts Tryz.EI
 have HG : Hid (Tx.Rel G [] (Tx.fields (s.size + 1) 0 (s.data.toList.drop 0))) := by
  show Tx.Rel _ _ _
  rw [List.drop_zero, hG]
  exact Tx.GH G (by rw [← hG]; exact Tx.CW _ _ _)
 rw [hG]
 clear hG
 go_enter Tryz.func184, Tryz.ntmps184
 go_wp2_with fail
 go_loopw [4, 5] (fun v a wr => ∃ (k : Nat) (out : List Tx.Bs), k ≤ s.size ∧ a = .int .i64 k ∧ out.length ≤ 12 ∧ wr.ownsRow w.heap.size 9 1 v out.length (out.map ag) ∧ Below w.heap.size w wr ∧ Hid (Tx.Rel G out (Tx.fields (s.size + 1) out.length (s.data.toList.drop k)))) (fun _ a _ => s.size - (intOf a).toNat)
 case atStart => exact ⟨0, [], by omega, rfl, by simp, World.ownsRow_nil _ _ _ _, q4B _ _, HG⟩
 case round =>
  obtain ⟨k, out, hk, rfl, ho, hown, hb, HS⟩ := hrel
  clear HG
  go_wp2_with fail
  go_loop [5] (fun a => ∃ j : Nat, k ≤ j ∧ j ≤ s.size ∧ a = .int .i64 j ∧ Hid (Tx.skip (s.data.toList.drop k) = Tx.skip (s.data.toList.drop j))) (fun a => s.size - (intOf a).toNat)
  case atStart => exact ⟨k, by omega, by omega, rfl, rfl⟩
  case round =>
   obtain ⟨j, j1, j2, rfl, SK⟩ := hrel
   by_cases hj : j < s.size
   ·obtain ⟨c, hc⟩ : ∃ c, s[j] = c := ⟨_, rfl⟩
    have DC : Hid (s.data.toList.drop j = c :: s.data.toList.drop (j + 1)) := by show _ = _; rw [fq s j hj, hc]
    have hjs : ((j : Int) == (s.size : Int)) = false := by simp; omega
    cases hg : Tx.gap c
    ·have HGp := hid hg
     have SK' : Hid (Tx.skip (s.data.toList.drop k) = c :: s.data.toList.drop (j + 1)) := by show _ = _; rw [SK.out, DC.out]; simp [Tx.skip, HGp.out]
     clear hg
     by_cases c35 : c = 35
     ·have G0 : Hid (G = (out, 0)) := Tx.EW HS.out (dU s k) (.inr ⟨_, by rw [SK'.out, c35]⟩)
      have e35 : ((c.toNat : Int) == 35) = true := by rw [c35]; rfl
      clear c35
      go_wp2_with (go_at_call 185; refine (bJ _ _).mono ?_; rintro e w9 ⟨rfl, rfl⟩; rw [HGp.out])
      go_ret2
      rw [G0.out]
      exact ⟨_, rfl, hown, hb⟩
     have C35 := hid c35
     have e35 : ((c.toNat : Int) == 35) = false := by have := gH c 35; simp at this; simp [this, c35]
     clear c35
     by_cases c34 : c = 34
     ·have C34 := hid c34
      have e34 : ((c.toNat : Int) == 34) = true := by rw [c34]; rfl
      clear c34
      go_wp2_with (go_at_call 185; refine (bJ _ _).mono ?_; rintro e w9 ⟨rfl, rfl⟩; rw [HGp.out])
      go_loop [5, 6] (fun a f => ∃ (i : Nat) (acc : Tx.Bs), j + 1 ≤ i ∧ i ≤ s.size ∧ a = .int .i64 i ∧ f = ag acc ∧ acc.length ≤ i ∧ Hid (Tx.tq (s.data.toList.drop (j + 1)) = (Tx.tq (s.data.toList.drop i)).map fun p => (acc ++ p.1, p.2))) (fun a _ => s.size - (intOf a).toNat)
      case atStart => exact ⟨j + 1, [], by omega, by omega, by go_num, rfl, by simp, by show _ = _; cases Tx.tq (s.data.toList.drop (j + 1)) <;> rfl⟩
      case round =>
       obtain ⟨i, acc, i1, i2, rfl, rfl, ia, TQ⟩ := hrel
       clear e34 e35 hjs hc
       by_cases hi' : i < s.size
       ·obtain ⟨d, hd⟩ : ∃ d, s[i] = d := ⟨_, rfl⟩
        have DD : Hid (s.data.toList.drop i = d :: s.data.toList.drop (i + 1)) := by show _ = _; rw [fq s i hi', hd]
        have his : ((i : Int) == (s.size : Int)) = false := by simp; omega
        by_cases d34 : d = 34
        ·have TQ' : Hid (Tx.tq (s.data.toList.drop (j + 1)) = some (acc, s.data.toList.drop (i + 1))) := by
          show _ = _; rw [TQ.out, DD.out, d34, Tx.LJ]; simp
         have e34 : ((d.toNat : Int) != 34) = false := by rw [d34]; rfl
         clear d34
         by_cases hn : i + 1 < s.size
         ·obtain ⟨g, hg⟩ : ∃ g, s[i + 1] = g := ⟨_, rfl⟩
          have DG : Hid (s.data.toList.drop (i + 1) = g :: s.data.toList.drop (i + 1 + 1)) := by show _ = _; rw [fq s (i + 1) hn, hg]
          have FE : Hid (Tx.field (c :: s.data.toList.drop (j + 1)) = if Tx.ends (s.data.toList.drop (i + 1)) = true then some (acc, s.data.toList.drop (i + 1)) else none) := by
           show _ = _; rw [C34.out, Tx.qg, TQ'.out]
          cases hgg : Tx.gap g
          ·have HG2 := hid hgg
           clear hgg
           by_cases g35 : g = 35
           ·have HF : Hid (Tx.field (c :: s.data.toList.drop (j + 1)) = some (acc, s.data.toList.drop (i + 1))) := by
             show _ = _; rw [FE.out, if_pos (by rw [DG.out, g35]; rfl)]
            have e35 : ((g.toNat : Int) != 35) = false := by rw [g35]; rfl
            clear g35
            by_cases hm : 24 < acc.length ∨ 12 < out.length + 1
            ·have G0 : Hid (G = ([], 2)) := Tx.ll HS.out (dU s k) SK'.out C35.out HF.out hm
             go_wp2_with (first | (go_at_call 185; refine (bJ _ _).mono ?_; rintro e w9 ⟨rfl, rfl⟩; rw [HG2.out]) | (at_builtin; refine wpList_append_own _ rfl _ _ 107 rfl w.heap.size 9 i0 (.string ⟨#[]⟩) 1 16 Tryz.underlying107 hi hz0 hz1 hz2 rfl (by decide) _ _ _ rfl (hown.alloc _) _ 1 1 [ag acc] rfl rfl (one_cell _ _) (by simp [Value.oneCell']) (by unfold maxLen; omega) (by omega) (by simp; have := hb.size; omega) ?_))
             intro v' w3 hown' hgrow _
             obtain ⟨hown2, hb2⟩ := gI hb.size hown hb hown' hgrow
             obtain ⟨g, cap, hv⟩ := bu hown'
             rw [hv]
             clear hown' hgrow hown2 hown
             rcases hm with hm | hm
             ·go_wp2
              go_ret2
              rw [G0.out]
              exact ⟨_, rfl, World.ownsRow_nil _ _ _ _, hb2⟩
             ·by_cases hm2 : 24 < acc.length
              all_goals
               go_wp2
               go_ret2
               rw [G0.out]
               exact ⟨_, rfl, World.ownsRow_nil _ _ _ _, hb2⟩
            ·have HR : Hid (Tx.Rel G (out ++ [acc]) (Tx.fields (s.size + 1) (out ++ [acc]).length (s.data.toList.drop (i + 1)))) := by
              have := Tx.lm HS.out (dU s k) SK'.out C35.out HF.out hm
              show Tx.Rel _ _ _
              simpa using this
             have hm1 : acc.length ≤ 24 := by omega
             have hm2 : out.length + 1 ≤ 12 := by omega
             clear hm
             go_wp2_with (first | (go_at_call 185; refine (bJ _ _).mono ?_; rintro e w9 ⟨rfl, rfl⟩; rw [HG2.out]) | (at_builtin; refine wpList_append_own _ rfl _ _ 107 rfl w.heap.size 9 i0 (.string ⟨#[]⟩) 1 16 Tryz.underlying107 hi hz0 hz1 hz2 rfl (by decide) _ _ _ rfl (hown.alloc _) _ 1 1 [ag acc] rfl rfl (one_cell _ _) (by simp [Value.oneCell']) (by unfold maxLen; omega) (by omega) (by simp; have := hb.size; omega) ?_))
             intro v' w3 hown' hgrow _
             obtain ⟨hown2, hb2⟩ := gI hb.size hown hb hown' hgrow
             obtain ⟨g, cap, hv⟩ := bu hown'
             rw [hv] at hown2 ⊢
             clear hown' hgrow hown
             go_wp2
             go_roundw
             case rel => exact ⟨i + 1, out ++ [acc], by omega, by go_num, by simp; omega, hown2, hb2, HR⟩
             case measure => simp [intOf]; omega

           ·have G0 : Hid (G = ([], 1)) := Tx.nE HS.out (dU s k) SK'.out C35.out (by rw [FE.out, if_neg (by rw [DG.out]; simp [Tx.ends, HG2.out, g35])])
            have e35 : ((g.toNat : Int) != 35) = true := by have := gH g 35; simp at this; simp [bne, this, g35]
            clear g35
            go_wp2_with (go_at_call 185; refine (bJ _ _).mono ?_; rintro e w9 ⟨rfl, rfl⟩; rw [HG2.out])
            go_ret2
            rw [G0.out]
            exact ⟨_, rfl, World.ownsRow_nil _ _ _ _, hb⟩
          ·have HG2 := hid hgg
           clear hgg
           have HF : Hid (Tx.field (c :: s.data.toList.drop (j + 1)) = some (acc, s.data.toList.drop (i + 1))) := by
            show _ = _; rw [FE.out, if_pos (by rw [DG.out]; simp [Tx.ends, HG2.out])]
           by_cases hm : 24 < acc.length ∨ 12 < out.length + 1
           ·have G0 : Hid (G = ([], 2)) := Tx.ll HS.out (dU s k) SK'.out C35.out HF.out hm
            go_wp2_with (first | (go_at_call 185; refine (bJ _ _).mono ?_; rintro e w9 ⟨rfl, rfl⟩; rw [HG2.out]) | (at_builtin; refine wpList_append_own _ rfl _ _ 107 rfl w.heap.size 9 i0 (.string ⟨#[]⟩) 1 16 Tryz.underlying107 hi hz0 hz1 hz2 rfl (by decide) _ _ _ rfl (hown.alloc _) _ 1 1 [ag acc] rfl rfl (one_cell _ _) (by simp [Value.oneCell']) (by unfold maxLen; omega) (by omega) (by simp; have := hb.size; omega) ?_))
            intro v' w3 hown' hgrow _
            obtain ⟨hown2, hb2⟩ := gI hb.size hown hb hown' hgrow
            obtain ⟨g, cap, hv⟩ := bu hown'
            rw [hv]
            clear hown' hgrow hown2 hown
            rcases hm with hm | hm
            ·go_wp2
             go_ret2
             rw [G0.out]
             exact ⟨_, rfl, World.ownsRow_nil _ _ _ _, hb2⟩
            ·by_cases hm2 : 24 < acc.length
             all_goals
              go_wp2
              go_ret2
              rw [G0.out]
              exact ⟨_, rfl, World.ownsRow_nil _ _ _ _, hb2⟩
           ·have HR : Hid (Tx.Rel G (out ++ [acc]) (Tx.fields (s.size + 1) (out ++ [acc]).length (s.data.toList.drop (i + 1)))) := by
             have := Tx.lm HS.out (dU s k) SK'.out C35.out HF.out hm
             show Tx.Rel _ _ _
             simpa using this
            have hm1 : acc.length ≤ 24 := by omega
            have hm2 : out.length + 1 ≤ 12 := by omega
            clear hm
            go_wp2_with (first | (go_at_call 185; refine (bJ _ _).mono ?_; rintro e w9 ⟨rfl, rfl⟩; rw [HG2.out]) | (at_builtin; refine wpList_append_own _ rfl _ _ 107 rfl w.heap.size 9 i0 (.string ⟨#[]⟩) 1 16 Tryz.underlying107 hi hz0 hz1 hz2 rfl (by decide) _ _ _ rfl (hown.alloc _) _ 1 1 [ag acc] rfl rfl (one_cell _ _) (by simp [Value.oneCell']) (by unfold maxLen; omega) (by omega) (by simp; have := hb.size; omega) ?_))
            intro v' w3 hown' hgrow _
            obtain ⟨hown2, hb2⟩ := gI hb.size hown hb hown' hgrow
            obtain ⟨g, cap, hv⟩ := bu hown'
            rw [hv] at hown2 ⊢
            clear hown' hgrow hown
            go_wp2
            go_roundw
            case rel => exact ⟨i + 1, out ++ [acc], by omega, by go_num, by simp; omega, hown2, hb2, HR⟩
            case measure => simp [intOf]; omega

         ·have HF : Hid (Tx.field (c :: s.data.toList.drop (j + 1)) = some (acc, s.data.toList.drop (i + 1))) := by
           show _ = _; rw [C34.out, Tx.qg, TQ'.out]; simp [jY s (i + 1) (by omega), Tx.ends]
          by_cases hm : 24 < acc.length ∨ 12 < out.length + 1
          ·have G0 : Hid (G = ([], 2)) := Tx.ll HS.out (dU s k) SK'.out C35.out HF.out hm
           go_wp2_with (first | (at_builtin; refine wpList_append_own _ rfl _ _ 107 rfl w.heap.size 9 i0 (.string ⟨#[]⟩) 1 16 Tryz.underlying107 hi hz0 hz1 hz2 rfl (by decide) _ _ _ rfl (hown.alloc _) _ 1 1 [ag acc] rfl rfl (one_cell _ _) (by simp [Value.oneCell']) (by unfold maxLen; omega) (by omega) (by simp; have := hb.size; omega) ?_))
           intro v' w3 hown' hgrow _
           obtain ⟨hown2, hb2⟩ := gI hb.size hown hb hown' hgrow
           obtain ⟨g, cap, hv⟩ := bu hown'
           rw [hv]
           clear hown' hgrow hown2 hown
           rcases hm with hm | hm
           ·go_wp2
            go_ret2
            rw [G0.out]
            exact ⟨_, rfl, World.ownsRow_nil _ _ _ _, hb2⟩
           ·by_cases hm2 : 24 < acc.length
            all_goals
             go_wp2
             go_ret2
             rw [G0.out]
             exact ⟨_, rfl, World.ownsRow_nil _ _ _ _, hb2⟩
          ·have HR : Hid (Tx.Rel G (out ++ [acc]) (Tx.fields (s.size + 1) (out ++ [acc]).length (s.data.toList.drop (i + 1)))) := by
            have := Tx.lm HS.out (dU s k) SK'.out C35.out HF.out hm
            show Tx.Rel _ _ _
            simpa using this
           have hm1 : acc.length ≤ 24 := by omega
           have hm2 : out.length + 1 ≤ 12 := by omega
           clear hm
           go_wp2_with (first | (at_builtin; refine wpList_append_own _ rfl _ _ 107 rfl w.heap.size 9 i0 (.string ⟨#[]⟩) 1 16 Tryz.underlying107 hi hz0 hz1 hz2 rfl (by decide) _ _ _ rfl (hown.alloc _) _ 1 1 [ag acc] rfl rfl (one_cell _ _) (by simp [Value.oneCell']) (by unfold maxLen; omega) (by omega) (by simp; have := hb.size; omega) ?_))
           intro v' w3 hown' hgrow _
           obtain ⟨hown2, hb2⟩ := gI hb.size hown hb hown' hgrow
           obtain ⟨g, cap, hv⟩ := bu hown'
           rw [hv] at hown2 ⊢
           clear hown' hgrow hown
           go_wp2
           go_roundw
           case rel => exact ⟨i + 1, out ++ [acc], by omega, by go_num, by simp; omega, hown2, hb2, HR⟩
           case measure => simp [intOf]; omega

        ·have D34 := hid d34
         have e34 : ((d.toNat : Int) != 34) = true := by have := gH d 34; simp at this; simp [bne, this, d34]
         clear d34
         cases ht : Tx.txt d
         ·have HT := hid ht
          clear ht
          have G0 : Hid (G = ([], 1)) := Tx.nE HS.out (dU s k) SK'.out C35.out (by rw [C34.out, Tx.qg, TQ.out, DD.out, Tx.LH _ _ D34.out HT.out]; rfl)
          go_wp2_with (go_at_call 206; refine (jk _ _).mono ?_; rintro e w9 ⟨rfl, rfl⟩; rw [HT.out])
          go_ret2
          rw [G0.out]
          exact ⟨_, rfl, World.ownsRow_nil _ _ _ _, hb⟩
         ·have HT := hid ht
          clear ht
          go_wp2_with (go_at_call 206; refine (jk _ _).mono ?_; rintro e w9 ⟨rfl, rfl⟩; rw [HT.out])
          go_round
          case rel => exact ⟨i + 1, acc ++ [s[i]], by omega, by omega, by go_num, by rw [Ca acc s i hi'], by simp; omega, by show _ = _; rw [TQ.out, DD.out, Tx.tq_go _ _ D34.out HT.out, hd]; cases Tx.tq (s.data.toList.drop (i + 1)) <;> simp⟩
          case measure => simp [intOf]; omega
       ·have G0 : Hid (G = ([], 1)) := Tx.nE HS.out (dU s k) SK'.out C35.out (by rw [C34.out, Tx.qg, TQ.out, jY s i (by omega)]; rfl)
        have his : ((i : Int) == (s.size : Int)) = true := by simp; omega
        go_wp2
        go_ret2
        rw [G0.out]
        exact ⟨_, rfl, World.ownsRow_nil _ _ _ _, hb⟩
     ·have C34 := hid c34
      have e34 : ((c.toNat : Int) == 34) = false := by have := gH c 34; simp at this; simp [this, c34]
      clear c34
      go_wp2_with (go_at_call 185; refine (bJ _ _).mono ?_; rintro e w9 ⟨rfl, rfl⟩; rw [HGp.out])
      go_loop [5, 6] (fun a f => ∃ (i : Nat) (acc : Tx.Bs), j ≤ i ∧ i ≤ s.size ∧ a = .int .i64 i ∧ f = ag acc ∧ acc.length ≤ i ∧ (j = i → acc = []) ∧ Hid (Tx.tu (s.data.toList.drop j) = (Tx.tu (s.data.toList.drop i)).map fun p => (acc ++ p.1, p.2))) (fun a _ => s.size - (intOf a).toNat)
      case atStart => exact ⟨j, [], by omega, by omega, by go_num, rfl, by simp, fun _ => rfl, by show _ = _; cases Tx.tu (s.data.toList.drop j) <;> rfl⟩
      case round =>
       obtain ⟨i, acc, i1, i2, rfl, rfl, ia, i0', TU⟩ := hrel
       have I0 := hid i0'
       clear e34 e35 hjs i0'
       by_cases hi' : i < s.size
       ·obtain ⟨d, hd⟩ : ∃ d, s[i] = d := ⟨_, rfl⟩
        have DD : Hid (s.data.toList.drop i = d :: s.data.toList.drop (i + 1)) := by show _ = _; rw [fq s i hi', hd]
        cases hgg : Tx.gap d
        ·have HG2 := hid hgg
         clear hgg
         by_cases d35 : d = 35
         ·have HF : Hid (Tx.field (c :: s.data.toList.drop (j + 1)) = some (acc, s.data.toList.drop i)) := by
           show _ = _; rw [Tx.nU _ _ C34.out, ← DC.out, TU.out, DD.out, Tx.JG _ _ (.inr d35)]; simp
          have hij : j < i := by
           rcases Nat.lt_or_ge j i with q | q
           ·exact q
           ·have e : j = i := by omega
            subst e
            exact absurd (hc.symm.trans hd |>.trans d35) C35.out
          have e35 : ((d.toNat : Int) != 35) = false := by rw [d35]; rfl
          clear d35 hc
          by_cases hm : 24 < acc.length ∨ 12 < out.length + 1
          ·have G0 : Hid (G = ([], 2)) := Tx.ll HS.out (dU s k) SK'.out C35.out HF.out hm
           go_wp2_with (first | (go_at_call 185; refine (bJ _ _).mono ?_; rintro e w9 ⟨rfl, rfl⟩; rw [HG2.out]) | (at_builtin; refine wpList_append_own _ rfl _ _ 107 rfl w.heap.size 9 i0 (.string ⟨#[]⟩) 1 16 Tryz.underlying107 hi hz0 hz1 hz2 rfl (by decide) _ _ _ rfl (hown.alloc _) _ 1 1 [ag acc] rfl rfl (one_cell _ _) (by simp [Value.oneCell']) (by unfold maxLen; omega) (by omega) (by simp; have := hb.size; omega) ?_))
           intro v' w3 hown' hgrow _
           obtain ⟨hown2, hb2⟩ := gI hb.size hown hb hown' hgrow
           obtain ⟨g, cap, hv⟩ := bu hown'
           rw [hv]
           clear hown' hgrow hown2 hown
           rcases hm with hm | hm
           ·go_wp2
            go_ret2
            rw [G0.out]
            exact ⟨_, rfl, World.ownsRow_nil _ _ _ _, hb2⟩
           ·by_cases hm2 : 24 < acc.length
            all_goals
             go_wp2
             go_ret2
             rw [G0.out]
             exact ⟨_, rfl, World.ownsRow_nil _ _ _ _, hb2⟩
          ·have HR : Hid (Tx.Rel G (out ++ [acc]) (Tx.fields (s.size + 1) (out ++ [acc]).length (s.data.toList.drop (i)))) := by
            have := Tx.lm HS.out (dU s k) SK'.out C35.out HF.out hm
            show Tx.Rel _ _ _
            simpa using this
           have hm1 : acc.length ≤ 24 := by omega
           have hm2 : out.length + 1 ≤ 12 := by omega
           clear hm
           go_wp2_with (first | (go_at_call 185; refine (bJ _ _).mono ?_; rintro e w9 ⟨rfl, rfl⟩; rw [HG2.out]) | (at_builtin; refine wpList_append_own _ rfl _ _ 107 rfl w.heap.size 9 i0 (.string ⟨#[]⟩) 1 16 Tryz.underlying107 hi hz0 hz1 hz2 rfl (by decide) _ _ _ rfl (hown.alloc _) _ 1 1 [ag acc] rfl rfl (one_cell _ _) (by simp [Value.oneCell']) (by unfold maxLen; omega) (by omega) (by simp; have := hb.size; omega) ?_))
           intro v' w3 hown' hgrow _
           obtain ⟨hown2, hb2⟩ := gI hb.size hown hb hown' hgrow
           obtain ⟨g, cap, hv⟩ := bu hown'
           rw [hv] at hown2 ⊢
           clear hown' hgrow hown
           go_wp2
           go_roundw
           case rel => exact ⟨i, out ++ [acc], by omega, by go_num, by simp; omega, hown2, hb2, HR⟩
           case measure => simp [intOf]; omega

         ·have D35 := hid d35
          have e35 : ((d.toNat : Int) != 35) = true := by have := gH d 35; simp at this; simp [bne, this, d35]
          clear d35 hc
          cases ht : Tx.txt d
          ·have HT := hid ht
           clear ht
           have G0 : Hid (G = ([], 1)) := Tx.nE HS.out (dU s k) SK'.out C35.out (by rw [Tx.nU _ _ C34.out, ← DC.out, TU.out, DD.out, Tx.Ei _ _ HG2.out D35.out (.inl HT.out)]; rfl)
           go_wp2_with (first | (go_at_call 185; refine (bJ _ _).mono ?_; rintro e w9 ⟨rfl, rfl⟩; rw [HG2.out]) | (go_at_call 206; refine (jk _ _).mono ?_; rintro e w9 ⟨rfl, rfl⟩; rw [HT.out]))
           go_ret2
           rw [G0.out]
           exact ⟨_, rfl, World.ownsRow_nil _ _ _ _, hb⟩
          ·have HT := hid ht
           clear ht
           by_cases d34 : d = 34
           ·have G0 : Hid (G = ([], 1)) := Tx.nE HS.out (dU s k) SK'.out C35.out (by rw [Tx.nU _ _ C34.out, ← DC.out, TU.out, DD.out, Tx.Ei _ _ HG2.out D35.out (.inr d34)]; rfl)
            have e34 : ((d.toNat : Int) == 34) = true := by rw [d34]; rfl
            clear d34
            go_wp2_with (first | (go_at_call 185; refine (bJ _ _).mono ?_; rintro e w9 ⟨rfl, rfl⟩; rw [HG2.out]) | (go_at_call 206; refine (jk _ _).mono ?_; rintro e w9 ⟨rfl, rfl⟩; rw [HT.out]))
            go_ret2
            rw [G0.out]
            exact ⟨_, rfl, World.ownsRow_nil _ _ _ _, hb⟩
           ·have D34 := hid d34
            have e34 : ((d.toNat : Int) == 34) = false := by have := gH d 34; simp at this; simp [this, d34]
            clear d34
            go_wp2_with (first | (go_at_call 185; refine (bJ _ _).mono ?_; rintro e w9 ⟨rfl, rfl⟩; rw [HG2.out]) | (go_at_call 206; refine (jk _ _).mono ?_; rintro e w9 ⟨rfl, rfl⟩; rw [HT.out]))
            go_round
            case rel => exact ⟨i + 1, acc ++ [s[i]], by omega, by omega, by go_num, by rw [Ca acc s i hi'], by simp; omega, fun q => by omega, by show _ = _; rw [TU.out, DD.out, Tx.KU _ _ HG2.out D35.out HT.out D34.out, hd]; cases Tx.tu (s.data.toList.drop (i + 1)) <;> simp⟩
            case measure => simp [intOf]; omega
        ·have HG2 := hid hgg
         have HF : Hid (Tx.field (c :: s.data.toList.drop (j + 1)) = some (acc, s.data.toList.drop i)) := by
          show _ = _; rw [Tx.nU _ _ C34.out, ← DC.out, TU.out, DD.out, Tx.JG _ _ (.inl hgg)]; simp
         have hij : j < i := by
          rcases Nat.lt_or_ge j i with q | q
          ·exact q
          ·have e : j = i := by omega
           subst e
           have e2 : c = d := hc.symm.trans hd
           rw [e2] at HGp
           rw [HGp.out] at hgg; cases hgg
         clear hgg hc
         by_cases hm : 24 < acc.length ∨ 12 < out.length + 1
         ·have G0 : Hid (G = ([], 2)) := Tx.ll HS.out (dU s k) SK'.out C35.out HF.out hm
          go_wp2_with (first | (go_at_call 185; refine (bJ _ _).mono ?_; rintro e w9 ⟨rfl, rfl⟩; rw [HG2.out]) | (at_builtin; refine wpList_append_own _ rfl _ _ 107 rfl w.heap.size 9 i0 (.string ⟨#[]⟩) 1 16 Tryz.underlying107 hi hz0 hz1 hz2 rfl (by decide) _ _ _ rfl (hown.alloc _) _ 1 1 [ag acc] rfl rfl (one_cell _ _) (by simp [Value.oneCell']) (by unfold maxLen; omega) (by omega) (by simp; have := hb.size; omega) ?_))
          intro v' w3 hown' hgrow _
          obtain ⟨hown2, hb2⟩ := gI hb.size hown hb hown' hgrow
          obtain ⟨g, cap, hv⟩ := bu hown'
          rw [hv]
          clear hown' hgrow hown2 hown
          rcases hm with hm | hm
          ·go_wp2
           go_ret2
           rw [G0.out]
           exact ⟨_, rfl, World.ownsRow_nil _ _ _ _, hb2⟩
          ·by_cases hm2 : 24 < acc.length
           all_goals
            go_wp2
            go_ret2
            rw [G0.out]
            exact ⟨_, rfl, World.ownsRow_nil _ _ _ _, hb2⟩
         ·have HR : Hid (Tx.Rel G (out ++ [acc]) (Tx.fields (s.size + 1) (out ++ [acc]).length (s.data.toList.drop (i)))) := by
           have := Tx.lm HS.out (dU s k) SK'.out C35.out HF.out hm
           show Tx.Rel _ _ _
           simpa using this
          have hm1 : acc.length ≤ 24 := by omega
          have hm2 : out.length + 1 ≤ 12 := by omega
          clear hm
          go_wp2_with (first | (go_at_call 185; refine (bJ _ _).mono ?_; rintro e w9 ⟨rfl, rfl⟩; rw [HG2.out]) | (at_builtin; refine wpList_append_own _ rfl _ _ 107 rfl w.heap.size 9 i0 (.string ⟨#[]⟩) 1 16 Tryz.underlying107 hi hz0 hz1 hz2 rfl (by decide) _ _ _ rfl (hown.alloc _) _ 1 1 [ag acc] rfl rfl (one_cell _ _) (by simp [Value.oneCell']) (by unfold maxLen; omega) (by omega) (by simp; have := hb.size; omega) ?_))
          intro v' w3 hown' hgrow _
          obtain ⟨hown2, hb2⟩ := gI hb.size hown hb hown' hgrow
          obtain ⟨g, cap, hv⟩ := bu hown'
          rw [hv] at hown2 ⊢
          clear hown' hgrow hown
          go_wp2
          go_roundw
          case rel => exact ⟨i, out ++ [acc], by omega, by go_num, by simp; omega, hown2, hb2, HR⟩
          case measure => simp [intOf]; omega

       ·have HF : Hid (Tx.field (c :: s.data.toList.drop (j + 1)) = some (acc, s.data.toList.drop i)) := by
         show _ = _; rw [Tx.nU _ _ C34.out, ← DC.out, TU.out, jY s i (by omega)]; simp [Tx.tu]
        have hij : j < i := by omega
        clear hc
        by_cases hm : 24 < acc.length ∨ 12 < out.length + 1
        ·have G0 : Hid (G = ([], 2)) := Tx.ll HS.out (dU s k) SK'.out C35.out HF.out hm
         go_wp2_with (first | (at_builtin; refine wpList_append_own _ rfl _ _ 107 rfl w.heap.size 9 i0 (.string ⟨#[]⟩) 1 16 Tryz.underlying107 hi hz0 hz1 hz2 rfl (by decide) _ _ _ rfl (hown.alloc _) _ 1 1 [ag acc] rfl rfl (one_cell _ _) (by simp [Value.oneCell']) (by unfold maxLen; omega) (by omega) (by simp; have := hb.size; omega) ?_))
         intro v' w3 hown' hgrow _
         obtain ⟨hown2, hb2⟩ := gI hb.size hown hb hown' hgrow
         obtain ⟨g, cap, hv⟩ := bu hown'
         rw [hv]
         clear hown' hgrow hown2 hown
         rcases hm with hm | hm
         ·go_wp2
          go_ret2
          rw [G0.out]
          exact ⟨_, rfl, World.ownsRow_nil _ _ _ _, hb2⟩
         ·by_cases hm2 : 24 < acc.length
          all_goals
           go_wp2
           go_ret2
           rw [G0.out]
           exact ⟨_, rfl, World.ownsRow_nil _ _ _ _, hb2⟩
        ·have HR : Hid (Tx.Rel G (out ++ [acc]) (Tx.fields (s.size + 1) (out ++ [acc]).length (s.data.toList.drop (i)))) := by
          have := Tx.lm HS.out (dU s k) SK'.out C35.out HF.out hm
          show Tx.Rel _ _ _
          simpa using this
         have hm1 : acc.length ≤ 24 := by omega
         have hm2 : out.length + 1 ≤ 12 := by omega
         clear hm
         go_wp2_with (first | (at_builtin; refine wpList_append_own _ rfl _ _ 107 rfl w.heap.size 9 i0 (.string ⟨#[]⟩) 1 16 Tryz.underlying107 hi hz0 hz1 hz2 rfl (by decide) _ _ _ rfl (hown.alloc _) _ 1 1 [ag acc] rfl rfl (one_cell _ _) (by simp [Value.oneCell']) (by unfold maxLen; omega) (by omega) (by simp; have := hb.size; omega) ?_))
         intro v' w3 hown' hgrow _
         obtain ⟨hown2, hb2⟩ := gI hb.size hown hb hown' hgrow
         obtain ⟨g, cap, hv⟩ := bu hown'
         rw [hv] at hown2 ⊢
         clear hown' hgrow hown
         go_wp2
         go_roundw
         case rel => exact ⟨i, out ++ [acc], by omega, by go_num, by simp; omega, hown2, hb2, HR⟩
         case measure => simp [intOf]; omega

    ·have HGp := hid hg
     clear hg
     go_wp2_with (go_at_call 185; refine (bJ _ _).mono ?_; rintro e w9 ⟨rfl, rfl⟩; rw [HGp.out])
     go_round
     case rel => exact ⟨j + 1, by omega, by omega, by go_num, by show _ = _; rw [SK.out, DC.out]; simp [Tx.skip, HGp.out]⟩
     case measure => simp [intOf]; omega
   ·have hj' : s.size = j := by omega
    have G0 : Hid (G = (out, 0)) := Tx.EW HS.out (dU s k) (.inl (by rw [SK.out, jY s j (by omega)]; rfl))
    go_wp2
    go_ret2
    rw [G0.out]
    exact ⟨_, rfl, hown, hb⟩
end
end Go.Proofs.YtkhlkohlccndgaaGreat
