/- The contract of the document's SplitOf. -/
import Derived.Test.YtkhlkohlccndgaaGreatQz
import Derived.Test.YtkhlkohlccndgaaGreatQal
import Derived.Test.YtkhlkohlccndgaaGreatQah
set_option linter.unusedVariables false
set_option linter.unusedSimpArgs false
set_option maxRecDepth 100000
set_option maxHeartbeats 16000000
namespace Go.Proofs.YtkhlkohlccndgaaGreat
section
open Go.RowKit

theorem zS (s : ByteArray) (w : World) (hs : 8000 < s.size) :
  Calls Tryz.prog 145 #[.string s] w fun e w' => e = .returned (.tuple #[.slice none 0 0, .int .i64 0, .int .i64 2]) ∧ w' = w := by
 go_enter Tryz.func145, Tryz.ntmps145
 go_wp2
 go_ret3
 exact ⟨rfl, rfl⟩

theorem yX (s : ByteArray) (w : World) (r : Tx.Bs) (hr : s.data.toList = r) (hs : r.length ≤ 8000) :
  Calls Tryz.prog 184 #[.string s] w fun e w' => ∃ v, e = .returned (.tuple #[v, .int .i64 (Tx.ky r).2]) ∧ w'.ownsRow w.heap.size 9 1 v (Tx.ky r).1.length ((Tx.ky r).1.map ag) ∧ Below w.heap.size w w' := by
 subst hr
 have e : s.data.toList.length = s.size := by simp
 have := yV s w (by omega)
 rw [show s.size = s.data.toList.length from e.symm] at this
 exact this
theorem Jq (L : List UInt8) (f i : Nat) (hf : f ≤ i) (hi : i ≤ L.length) (hno : ∀ c ∈ (L.drop f).take (i - f), c ≠ 10) (h10 : i < L.length → L[i]? = some 10) : Tx.rows (L.drop f) = (L.drop f).take (i - f) :: (if i < L.length then Tx.rows (L.drop (i + 1)) else []) := by
 have e : L.drop f = (L.drop f).take (i - f) ++ L.drop i := by
  have := (List.take_append_drop (i - f) (L.drop f)).symm
  rw [List.drop_drop, show f + (i - f) = i by omega] at this
  exact this
 by_cases h : i < L.length
 ·rw [if_pos h]
  have e2 : L.drop i = 10 :: L.drop (i + 1) := by
   rw [List.drop_eq_getElem_cons h]
   have := h10 h
   rw [q4G h] at this
   simp at this; rw [this]
  conv => lhs; rw [e, e2]
  exact Tx.yn _ _ hno
 ·rw [if_neg h]
  have e2 : L.drop i = [] := List.drop_eq_nil_of_le (by omega)
  conv => lhs; rw [e, e2, List.append_nil]
  exact Tx.yo _ hno
theorem zB (L : List UInt8) (f i : Nat) (hf : f ≤ i) (hi : i < L.length) (hno : ∀ c ∈ (L.drop f).take (i - f), c ≠ 10) (hc : L[i] ≠ 10) : ∀ c ∈ (L.drop f).take (i + 1 - f), c ≠ 10 := by
 intro c h
 rw [show i + 1 - f = (i - f) + 1 by omega, List.take_succ_eq_append_getElem (by simp; omega)] at h
 simp at h
 rcases h with h | h
 ·exact hno c h
 ·rw [h]
  simpa [show f + (i - f) = i by omega] using hc
theorem I5 (s : ByteArray) (f i : Nat) (hf : f < i) (hi : i ≤ s.size) : Tx.inner ((s.data.toList.drop f).take (i - f)) = Tx.gap (s[f]'(by omega)) := by
 rw [fq s f (by omega), show i - f = (i - f - 1) + 1 by omega]
 simp [Tx.inner]

theorem BO (s : ByteArray) (w : World) (hs : ¬ 8000 < s.size) :
  Calls Tryz.prog 145 #[.string s] w fun e w' => ∃ v, e = .returned (.tuple #[v, .int .i64 (Tx.split s.data.toList).number, .int .i64 (Tx.split s.data.toList).err]) ∧ gY w' w.heap.size v (Tx.split s.data.toList).lines ∧ Below w.heap.size w w' := by
 obtain ⟨T, hT⟩ : ∃ T, Tx.go 1 (Tx.rows s.data.toList) = T := ⟨_, rfl⟩
 have hs' : ¬ 8000 < s.data.toList.length := by simpa using hs
 have HT := hid hT
 have HL : Hid (Tx.jv T [] (Tx.go 1 (Tx.rows s.data.toList))) := by
  show Tx.jv _ _ _
  rw [hT]; exact Tx.DT T (by rw [← hT]; exact Tx.go_tidy _ _)
 clear hT
 obtain ⟨SP, hSP⟩ : ∃ SP, Tx.split s.data.toList = SP := ⟨_, rfl⟩
 rw [hSP]
 have HSP := hid hSP
 clear hSP
 obtain ⟨i0, hi, hz0, hz1, hz2⟩ := info_parts Tryz.IX
 go_enter Tryz.func145, Tryz.ntmps145
 go_wp2_with fail
 go_loopw [5, 6, 7, 8] (fun v a b c wr => ∃ (i f : Nat) (n : Int) (out : List Tx.Ln), f ≤ i ∧ i ≤ s.size + 1 ∧ 1 ≤ n ∧ n ≤ i + 1 ∧ a = .int .i64 f ∧ b = .int .i64 n ∧ c = .int .i64 i ∧ (out.length : Int) ≤ i ∧ gY wr w.heap.size v out ∧ Below w.heap.size w wr ∧
  Hid (if i ≤ s.size then (∀ c ∈ (s.data.toList.drop f).take (i - f), c ≠ 10) ∧ Tx.jv T out (Tx.go n (Tx.rows (s.data.toList.drop f))) else Tx.jv T out (Tx.go n []))) (fun _ _ _ c _ => s.size + 1 - (intOf c).toNat)
 case atStart => exact ⟨0, 0, 1, [], by omega, by omega, by omega, by omega, rfl, rfl, rfl, by simp, jM _ _, q4B _ _, by show ite _ _ _; rw [if_pos (by omega)]; exact ⟨by simp, by simpa using HL.out⟩⟩
 case round =>
  obtain ⟨i, f, n, out, h1, h2, n1, n2, rfl, rfl, rfl, ho, hown, hb, HR⟩ := hrel
  clear HL
  obtain ⟨va, vcap, rfl⟩ := nD hown
  by_cases hend : i = s.size + 1
  ·have hR : Tx.jv T out (Tx.go n []) := by have := HR.out; rw [if_neg (by omega)] at this; exact this
   have hT := Tx.Jk hR
   by_cases ho2 : 200 < out.length
   ·have S2 : Hid (SP = ⟨[], 0, 2⟩) := by show _ = _; rw [← HSP.out]; exact Tx.D6 hs' (HT.out.trans hT) ho2
    clear HR hR hT
    subst hend
    go_wp2
    go_ret3
    rw [S2.out]
    exact ⟨_, rfl, jM _ _, hb⟩
   ·have S2 : Hid (SP = ⟨out, 0, 0⟩) := by show _ = _; rw [← HSP.out]; exact Tx.Jy hs' (HT.out.trans hT) ho2
    clear HR hR hT
    subst hend
    go_wp2
    go_ret3
    rw [S2.out]
    exact ⟨_, rfl, hown, hb⟩
  have h2' : i ≤ s.size := by omega
  have HR' : Hid ((∀ c ∈ (s.data.toList.drop f).take (i - f), c ≠ 10) ∧ Tx.jv T out (Tx.go n (Tx.rows (s.data.toList.drop f)))) := by have := HR.out; rw [if_pos h2'] at this; exact this
  clear HR hend h2
  by_cases hgo : ∃ h : i < s.size, s[i] ≠ 10
  ·obtain ⟨hi2, hc⟩ := hgo
   have NF := hid (zB s.data.toList f i h1 (by simpa using hi2) HR'.out.1 hc)
   obtain ⟨c, hcc⟩ : ∃ c, s[i] = c := ⟨_, rfl⟩
   rw [hcc] at hc
   have e10 : ((c.toNat : Int) != 10) = true := by have := gH c 10; simp at this; simp [bne, this, hc]
   clear hc
   go_wp2
   go_roundw
   case rel => exact ⟨i + 1, f, n, out, by omega, by omega, by omega, by omega, rfl, rfl, by go_num, by omega, hown, hb, by show ite _ _ _; rw [if_pos (by omega)]; exact ⟨NF.out, HR'.out.2⟩⟩
   case measure => simp [intOf]; omega
  ·have hgo' : ∀ h : i < s.size, s[i] = 10 := by
    intro h
    by_cases q : s[i] = 10
    ·exact q
    ·exact absurd ⟨h, q⟩ hgo
   clear hgo
   obtain ⟨r, hr⟩ : ∃ r, (s.data.toList.drop f).take (i - f) = r := ⟨_, rfl⟩
   have RC : Hid (Tx.rows (s.data.toList.drop f) = r :: (if i < s.data.toList.length then Tx.rows (s.data.toList.drop (i + 1)) else [])) := by
    show _ = _
    rw [← hr]
    exact Jq s.data.toList f i h1 (by simpa using h2') HR'.out.1 (fun h => by rw [q4G h]; exact congrArg some (hgo' (by simpa using h)))
   have ER : Hid ((s.extract f i).data.toList = r) := by show _ = _; rw [Lib.extract_data, hr]
   have LR : r.length ≤ 8000 := by rw [← hr]; simp; omega
   have IR : Hid (∀ h : f < i, Tx.inner r = Tx.gap (s[f]'(by omega))) := by intro h; rw [← hr]; exact I5 s f i h h2'
   have NR : Hid (f = i → r = []) := by intro h; rw [← hr, h]; simp
   have HRr : Hid (Tx.jv T out (Tx.go n (r :: (if i < s.data.toList.length then Tx.rows (s.data.toList.drop (i + 1)) else [])))) := by show Tx.jv _ _ _; rw [← RC.out]; exact HR'.out.2
   clear hr HR' RC
   have NX : Hid (∀ out', Tx.jv T out' (Tx.go (n + 1) (if i < s.data.toList.length then Tx.rows (s.data.toList.drop (i + 1)) else [])) → (if i + 1 ≤ s.size then (∀ c ∈ (s.data.toList.drop (i + 1)).take (i + 1 - (i + 1)), c ≠ 10) ∧ Tx.jv T out' (Tx.go (n + 1) (Tx.rows (s.data.toList.drop (i + 1)))) else Tx.jv T out' (Tx.go (n + 1) []))) := by
    intro out' hq
    have e : s.data.toList.length = s.size := by simp
    by_cases h : i < s.size
    ·rw [if_pos (by omega)] at hq; rw [if_pos (by omega)]; exact ⟨by simp, hq⟩
    ·rw [if_neg (by omega)] at hq; rw [if_neg (by omega)]; exact hq
   by_cases hi2 : i < s.size
   all_goals
    first
     | (have e10 : (((s[i]'hi2).toNat : Int) != 10) = false := by rw [hgo' hi2]; rfl)
     | skip
    clear hgo'
    go_wp2_with fail
    refine (yX _ _ r ER.out LR).mono ?_
    rintro e w1 ⟨fv, rfl, hfv, hb1⟩
    obtain ⟨⟨fs, er⟩, hF⟩ : ∃ p, Tx.ky r = p := ⟨_, rfl⟩
    rw [hF] at hfv ⊢
    simp only at hfv ⊢
    have HF := hid hF
    clear hF
    obtain ⟨fa, fcap, rfl⟩ := aQ hfv
    have hb2 : Below w.heap.size w w1 := hb.trans (hb1.mono hb.size)
    have hown2 := ko hown hb1
    by_cases he : er = 0
    ·subst he
     by_cases h0 : fs = []
     ·subst h0
      have Q := hid (NX.out out (Tx.Gz HRr.out (by rw [HF.out]) (by rw [HF.out])))
      go_wp2
      go_roundw
      case rel => exact ⟨i + 1, i + 1, n + 1, out, by omega, by omega, by omega, by omega, by go_num, by go_num, by go_num, by omega, hown2, hb2, Q.out⟩
      case measure => simp [intOf]; omega
     ·have hfi : f < i := by
       rcases Nat.lt_or_ge f i with q | q
       ·exact q
       ·have := NR.out (by omega)
        rw [this, Tx.Jp] at HF
        exact absurd (congrArg Prod.fst HF.out).symm h0
      have Q := hid (NX.out _ (Tx.GD HRr.out (by rw [HF.out]) (by rw [HF.out]; exact h0)))
      have hl0 : 0 < fs.length := List.length_pos_iff.2 h0
      have IR' := hid (IR.out hfi)
      clear h0
      go_wp2_with fail
      refine (bJ _ _).mono ?_
      rintro e w2 ⟨rfl, rfl⟩
      rw [← IR'.out]
      obtain ⟨vs, hl, ho1, ho3⟩ := hown2
      go_wp2_with (at_builtin; refine wpList_append_own _ rfl _ _ 203 rfl w.heap.size 207 i0 (.agg #[.int .i64 0, .bool false, .slice none 0 0]) 3 40 Tryz.underlying203 hi hz0 hz1 hz2 rfl (by decide) _ _ _ rfl (ho1.alloc _) _ 1 1 [.int .i64 n, .bool (Tx.inner r), .slice fa fs.length fcap] rfl rfl (Cf _ _ _ _) (G7 _ _ _ _ _) (by unfold maxLen; omega) (by omega) (by simp; have := hb2.size; omega) ?_)
      intro v' w3 hown' hgrow _
      have hb3 : Below w.heap.size w w3 := Below.grown (hb2.alloc hb2.size _) hgrow (by simp; have := hb2.size; omega) (fun k hk => (ho1.lt k hk).1)
      have hown3 := zC (l := ⟨n, Tx.inner r, fs⟩) hl ho1 ho3 (gK hfv hb.size) hown' hgrow
      clear hown' hgrow ho1 ho3 hfv
      go_wp2
      go_roundw
      case rel => exact ⟨i + 1, i + 1, n + 1, _, by omega, by omega, by omega, by omega, by go_num, by go_num, by go_num, by simp; omega, hown3, hb3, by rw [HF.out] at Q; exact Q.out⟩
      case measure => simp [intOf]; omega
    ·have S2 : Hid (SP = ⟨[], n, er⟩) := by
      show _ = _
      rw [← HSP.out]
      refine Tx.GU hs' (HT.out.trans (Tx.Jl HRr.out (by rw [HF.out]; exact he))) ?_ |>.trans ?_
      ·rw [HF.out]; exact he
      ·rw [HF.out]
     have he' : (er != 0) = true := by simp [he]
     clear he
     go_wp2
     go_ret3
     rw [S2.out]
     exact ⟨_, rfl, jM _ _, hb2⟩
end
end Go.Proofs.YtkhlkohlccndgaaGreat
