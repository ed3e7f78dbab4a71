/- The contract of splitRow: the walk. -/
import Derived.Test.YtgnopbmcnadmdabDoorLnR
import Derived.Deep.DeepMust
import Derived.Deep.RegionHeldLaw
namespace Go.Proofs.YtgnopbmcnadmdabDoor
open Go.RowKit
set_option linter.unusedVariables false
set_option linter.unusedSimpArgs false

theorem step_field {ops : Array Oper} {o : Oper} {a : Act} {w : World} {K : Act → World → Prop} {Q : Exit → Act → World → Prop} {E : Prop}
    (hg : o.guard = none) (x : Operand) (t : TypeId) (hop : o.op = Op.call { callee := Callee.value (Operand.func 34), args := #[x], argTypes := #[t] })
    (vx : Value) (hx : a.eval x = vx) {v : Value} {C : World → Prop} (hc : Calls Tryd.prog 34 #[vx] w fun e w' => e = .returned v ∧ C w') (hK : ∀ w', C w' → K (a.put o.dst v) w') :
    if Region.wanted o (yielded ops a.tmps) = true then Oper.wp Tryd.prog o a w K Q else E := by
  have hw : Region.wanted o (yielded ops a.tmps) = true := by simp [Region.wanted, hg]
  rw [if_pos hw]
  unfold Oper.wp
  simp only [execOp, hop, resolve, invoke, Sem.run_bind, List.map_toArray, List.map_cons, List.map_nil, hx]
  have e : Oper.upon Tryd.prog o a K Q (.ok (.enter 34 #[vx]) w) := by
    rw [Oper.upon_enter]
    exact hc.mono (by rintro e w' ⟨rfl, h⟩; exact hK w' h)
  go_simp

set_option maxRecDepth 100000 in
set_option maxHeartbeats 4000000 in
theorem splitRow_any (n : Int) (s : ByteArray) (w : World) (hs : s.size ≤ 8000) :
    Calls Tryd.prog 24 #[.int .i64 n, .string s] w fun e w' => RowPost n s w e w' := by
  obtain ⟨G, hG⟩ : ∃ G, Tx.rowF s.data.toList = G := ⟨_, rfl⟩
  have HG : Hid (Tx.Rel G [] (Tx.fields (s.size + 1) 0 (s.data.toList.drop 0))) := by
    show Tx.Rel _ _ _
    have e : s.data.toList.length = s.size := by simp
    rw [List.drop_zero, ← hG, Tx.rowF, e]
    exact Tx.rel_start _ (Tx.fields_err _ _ _)
  unfold RowPost
  rw [hG]
  clear hG
  obtain ⟨i0, hi, hz0, hz1, hz2⟩ := info_parts Tryd.infoStr
  obtain ⟨inn, hin⟩ : ∃ b, Tx.inner s.data.toList = b := ⟨_, rfl⟩
  have IN' : Hid ((if h : 0 < s.size then Tx.gap s[0] else false) = inn) := by
    show _ = _
    rw [← hin]
    by_cases h : 0 < s.size
    · rw [dif_pos h]; have := drop_cons s 0 h; rw [List.drop_zero] at this; rw [this]; rfl
    · rw [dif_neg h]; have := drop_end s 0 (by omega); rw [List.drop_zero] at this; rw [this]; rfl
  rw [hin]
  clear hin
  by_cases h0 : 0 < s.size
  · have IG : Hid (Tx.gap s[0] = inn) := by have := IN'.out; rw [dif_pos h0] at this; exact this
    have hne : s.toList.isEmpty = false := by
      rw [ByteArray.toList_eq, List.isEmpty_eq_false_iff]; intro q
      have e : s.data.toList.length = s.size := by simp
      rw [q] at e; simp at e; omega
    go_enter Tryd.func24, Tryd.ntmps24
    go_wp2_with fail
    refine (isGap_is _ _ IG.out).mono ?_
    rintro e w9 ⟨rfl, rfl⟩
    go_wp2_with fail
    refine (skipGaps_any (w.heap.size + 1 + 1) 0 n s _ (rowst_init w n s inn).rdr (by omega) hs).mono ?_
    rintro e w1 ⟨rfl, k1, _, k1s, SK1, hR1, hG1⟩
    have ST : RowSt w w1 n s inn k1 [] (.slice none 0 0) := rowst_grown (rowst_init w n s inn) hG1 hR1
    have SKK := hid SK1
    clear SK1 hR1 hG1
    go_wp2_with fail
    go_loopg [] (s.size - k1) (fun g wr => ∃ (k0 k : Nat) (out : List Tx.Bs) (fv : Value), k ≤ s.size ∧ g = s.size - k ∧ out.length ≤ 12 ∧ RowSt w wr n s inn k out fv ∧ Hid (Tx.skip (s.data.toList.drop k0) = s.data.toList.drop k) ∧ Hid (Tx.Rel G out (Tx.fields (s.size + 1) out.length (s.data.toList.drop k0))))
    case atStart => exact ⟨0, k1, [], _, k1s, rfl, by simp, ST, SKK, HG⟩
    case round =>
      clear ST SKK HG IN'
      obtain ⟨k0, k, out, fv, k2, hg, ho, ST, SK, RL⟩ := hrel
      have Hg := hid hg
      have HST := hid ST
      obtain ⟨rdr, l0, l1, l2, fz, own, bel, sz⟩ := ST
      have HR := hid rdr
      obtain ⟨q0, q1, q2, q3, q4⟩ := rdr
      clear hg
      by_cases hend : k < s.size ∧ ∀ h : k < s.size, s[k] ≠ 35
      · obtain ⟨hlt, h35⟩ := hend
        have h35 := h35 hlt
        have AE : Hid ((if h : k < s.size then decide (s[k] = 35) else true) = false) := by show _ = _; rw [dif_pos hlt]; simp [h35]
        have DC : Hid (Tx.skip (s.data.toList.drop k0) = s[k] :: s.data.toList.drop (k + 1)) := by show _ = _; rw [SK.out, drop_cons s k hlt]
        have GP : Hid (Tx.gap s[k] = false) := Tx.skip_head _ _ _ DC.out
        have H35 := hid h35
        clear h35
        have FD : Hid (s.data.toList.drop k = s[k] :: s.data.toList.drop (k + 1)) := drop_cons s k hlt
        obtain ⟨fa, fcap, hfv⟩ := owns_shape0 own
        subst hfv
        cases hF : Tx.field (s.data.toList.drop k) with
        | none =>
          have FB : Hid (Tx.field (s.data.toList.drop k) = none) := hF
          have G0 : Hid (G = ([], 1)) := Tx.rel_form RL.out (drop_lt s k0) DC.out H35.out (by rw [← FD.out]; exact hF)
          clear hF
          go_wp2_with fail
          refine (atEnd_any _ k n s _ HR.out k2 hs AE.out).mono ?_
          rintro e w3 ⟨rfl, q, rfl⟩
          have ST3 := hid (rowst_drewN HST.out q)
          clear l0 l1 l2 fz own bel sz q0 q1 q2 q3 q4 HR HST
          generalize wr.drewN q = w3 at *
          have m2 := ST3.out.l2
          go_wp2_with fail
          go_region_with (go_at_call 34; go_must (refine (field_bad1 _ k n s _ (rdr_drewN ST3.out.rdr 1) hlt hs GP.out H35.out FB.out).mono ?_; rintro e w4 ⟨rfl, hG4⟩; refine left_over ⟨rfl, bad_below ST3.out hG4, .inr ⟨by rw [G0.out], by rw [G0.out]; decide⟩⟩ Tryd.prog ⟨#[], []⟩ w ?_))
          all_goals trivial

        | some p =>
          obtain ⟨acc, t⟩ := p
          by_cases hl : acc.length ≤ 24
          · have FO := hid hF
            clear hF
            go_wp2_with fail
            refine (atEnd_any _ k n s _ HR.out k2 hs AE.out).mono ?_
            rintro e w3 ⟨rfl, q, rfl⟩
            have ST3 := hid (rowst_drewN HST.out q)
            clear l0 l1 l2 fz own bel sz q0 q1 q2 q3 q4 HR HST
            generalize wr.drewN q = w3 at *
            have m2 := ST3.out.l2
            go_wp2_with fail
            go_region_law (first | (refine step_append_own rfl (.tmp 28) (.tmp 31) 27 rfl (w.heap.size + 1 + 1 + 1) 9 i0 (.string ⟨#[]⟩) 1 16 Tryd.underlying27 hi hz0 hz1 hz2 rfl (by decide) _ _ _ (by simp [Act.eval, Act.put]) (ST4.out.own.alloc _) _ 1 1 [strV acc] (by simp [Act.eval, Act.put]) rfl (one_cell _ _) (by simp [Value.oneCell']) (by unfold maxLen; omega) (by omega) (by have := ST4.out.sz; simp; omega) ?_; intro v' w6 hown' hgrow; obtain ⟨RS0, c2, f2⟩ := rowst_app ST4.out hown' ⟨hgrow.os, hgrow.tape, hgrow.output, hgrow.size, hgrow.block⟩; obtain ⟨g6, cap6, hv⟩ := owns_shape hown'; subst hv; have RS := hid RS0; clear RS0 hown' hgrow) | (refine step_field rfl (.tmp 29) 63 rfl _ (by simp [Act.eval, Act.put]) (field_ok _ k n s _ (rdr_drewN ST3.out.rdr 1) hlt hs GP.out H35.out FO.out hl) ?_; rintro w4 ⟨hG4, k', kk, k's, hR4, hd4⟩; have ST4 := hid (rowst_grown (rowst_drewN ST3.out 1) hG4 hR4); have p2 := ST4.out.l2; have p3 := fun o => rowst_l2_alloc ST4.out o; have D4 := hid hd4; clear hG4 hR4 hd4))
            all_goals
              go_wp2_with fail
              by_cases hm : out.length + 1 ≤ 12
              · have hm1 : decide ((out.length : Int) + 1 ≤ 12) = true := decide_eq_true (by omega)
                have RL9 : Hid (Tx.Rel G (out ++ [acc]) (Tx.fields (s.size + 1) (out ++ [acc]).length (s.data.toList.drop k'))) := by
                  have := Tx.rel_next RL.out (drop_lt s k0) DC.out H35.out (by rw [← FD.out]; exact FO.out) (by show ¬ (24 < acc.length ∨ 12 < out.length + 1); omega)
                  show Tx.Rel _ _ _
                  rw [D4.out]
                  simpa using this
                rw [hm1]
                refine (require_yes _ _ _).mono ?_
                rintro e w7 ⟨rfl, rfl⟩
                go_wp2_with fail
                refine (skipGaps_any (w.heap.size + 1 + 1) k' n s _ RS.out.rdr k's hs).mono ?_
                rintro e w8 ⟨rfl, k9, k9a, k9b, SK9, hR9, hG9⟩
                have ST9 := hid (rowst_grown RS.out hG9 hR9)
                have S9 := hid SK9
                clear SK9 hR9 hG9 m2 p2 p3 c2 f2
                go_wp2
                go_roundg (s.size - k9)
                case measure => have := Hg.out; omega
                case rel => exact ⟨k', k9, out ++ [acc], _, k9b, rfl, by simp; omega, ST9.out, S9, RL9⟩
              · have hm1 : decide ((out.length : Int) + 1 ≤ 12) = false := decide_eq_false (by omega)
                have G0 : Hid (G = ([], 2)) := Tx.rel_many RL.out (drop_lt s k0) DC.out H35.out (by rw [← FD.out]; exact FO.out) (.inr (by omega))
                rw [hm1]
                refine (require_no _ _ _).mono ?_
                rintro e w7 ⟨rfl, rfl⟩
                exact ⟨rfl, Below.trans ((Below.refl _ _).alloc (Nat.le_refl _) _) (RS.out.bel.mono (by omega)), .inr ⟨by rw [G0.out], by rw [G0.out]; decide⟩⟩

          · have FB : Hid (∃ acc t, Tx.field (s.data.toList.drop k) = some (acc, t) ∧ 24 < acc.length) := ⟨acc, t, hF, by omega⟩
            have G0 : Hid (G = ([], 2)) := Tx.rel_many RL.out (drop_lt s k0) DC.out H35.out (by rw [← FD.out]; exact hF) (.inl (by show 24 < acc.length; omega))
            clear hF
            go_wp2_with fail
            refine (atEnd_any _ k n s _ HR.out k2 hs AE.out).mono ?_
            rintro e w3 ⟨rfl, q, rfl⟩
            have ST3 := hid (rowst_drewN HST.out q)
            clear l0 l1 l2 fz own bel sz q0 q1 q2 q3 q4 HR HST
            generalize wr.drewN q = w3 at *
            have m2 := ST3.out.l2
            go_wp2_with fail
            go_region_with (go_at_call 34; go_must (refine (field_bad2 _ k n s _ (rdr_drewN ST3.out.rdr 1) hlt hs GP.out H35.out FB.out).mono ?_; rintro e w4 ⟨rfl, hG4⟩; refine left_over ⟨rfl, bad_below ST3.out hG4, .inr ⟨by rw [G0.out], by rw [G0.out]; decide⟩⟩ Tryd.prog ⟨#[], []⟩ w ?_))
            all_goals trivial

      · have AE : Hid ((if h : k < s.size then decide (s[k] = 35) else true) = true) := by
          show _ = _
          by_cases q : k < s.size
          · rw [dif_pos q]
            by_cases q2 : s[k] = 35
            · simp [q2]
            · exact absurd ⟨q, fun _ => q2⟩ hend
          · rw [dif_neg q]
        have G0 : Hid (G = (out, 0)) := by
          refine Tx.rel_end RL.out (drop_lt s k0) ?_
          rw [SK.out]
          by_cases q : k < s.size
          · right
            rw [drop_cons s k q]
            have := AE.out
            rw [dif_pos q] at this
            simp at this
            exact ⟨_, by rw [this]⟩
          · left; exact drop_end s k (by omega)
        clear hend
        obtain ⟨fa, fcap, hfv⟩ := owns_shape0 own
        subst hfv
        have r0 := bel.cell (p := ⟨w.heap.size, 0, none⟩) (by simp)
        have r1 := bel.cell (p := ⟨w.heap.size, 1, none⟩) (by simp)
        have r2 := bel.cell (p := ⟨w.heap.size, 2, none⟩) (by simp)
        have z0 := bel.frozen (p := ⟨w.heap.size, 0, none⟩) (by simp)
        have z1 := bel.frozen (p := ⟨w.heap.size, 1, none⟩) (by simp)
        have z2 := bel.frozen (p := ⟨w.heap.size, 2, none⟩) (by simp)
        simp at r0 r1 r2 z0 z1 z2
        go_wp2_with fail
        refine (atEnd_any _ k n s _ HR.out k2 hs AE.out).mono ?_
        rintro e w3 ⟨rfl, q, rfl⟩
        go_wp2
        refine bodyPost_ret (v := .agg #[.int .i64 n, .bool inn, .slice fa out.length fcap]) (by simp [results, Tryd.results24, go_sem, r0, r1, r2, z0, z1, z2, l0, l1, l2]) rfl ?_
        rw [G0.out]
        refine ⟨?_, .inl ⟨_, rfl, rfl, ?_⟩⟩
        · exact below_drewN (((Below.trans ((Below.refl _ _).alloc (Nat.le_refl _) _) (bel.mono (by omega))).setCell (by simp) _).setCell (by simp) _ |>.setCell (by simp) _) q
        · have nz : some w.heap.size ≠ Value.ownBlock (.slice fa out.length fcap) := fun z => by have := (own.lt _ z.symm).1; omega
          exact owns_base (owns_set (owns_set (owns_set own nz) nz) nz) (by omega)

  · have hi0 : inn = false := by have := IN'.out; rw [dif_neg h0] at this; exact this.symm
    subst hi0
    have hne : s.toList.isEmpty = true := by
      rw [ByteArray.toList_eq, List.isEmpty_iff]
      exact List.length_eq_zero_iff.1 (by have e : s.data.toList.length = s.size := by simp
                                          omega)
    go_enter Tryd.func24, Tryd.ntmps24
    go_wp2_with fail
    refine (skipGaps_any (w.heap.size + 1 + 1) 0 n s _ (rowst_init w n s false).rdr (by omega) hs).mono ?_
    rintro e w1 ⟨rfl, k1, _, k1s, SK1, hR1, hG1⟩
    have ST : RowSt w w1 n s false k1 [] (.slice none 0 0) := rowst_grown (rowst_init w n s false) hG1 hR1
    have SKK := hid SK1
    clear SK1 hR1 hG1
    go_wp2_with fail
    go_loopg [] (s.size - k1) (fun g wr => ∃ (k0 k : Nat) (out : List Tx.Bs) (fv : Value), k ≤ s.size ∧ g = s.size - k ∧ out.length ≤ 12 ∧ RowSt w wr n s false k out fv ∧ Hid (Tx.skip (s.data.toList.drop k0) = s.data.toList.drop k) ∧ Hid (Tx.Rel G out (Tx.fields (s.size + 1) out.length (s.data.toList.drop k0))))
    case atStart => exact ⟨0, k1, [], _, k1s, rfl, by simp, ST, SKK, HG⟩
    case round =>
      clear ST SKK HG IN'
      obtain ⟨k0, k, out, fv, k2, hg, ho, ST, SK, RL⟩ := hrel
      have Hg := hid hg
      have HST := hid ST
      obtain ⟨rdr, l0, l1, l2, fz, own, bel, sz⟩ := ST
      have HR := hid rdr
      obtain ⟨q0, q1, q2, q3, q4⟩ := rdr
      clear hg
      by_cases hend : k < s.size ∧ ∀ h : k < s.size, s[k] ≠ 35
      · exact absurd hend.1 (by omega)
      · have AE : Hid ((if h : k < s.size then decide (s[k] = 35) else true) = true) := by
          show _ = _
          by_cases q : k < s.size
          · rw [dif_pos q]
            by_cases q2 : s[k] = 35
            · simp [q2]
            · exact absurd ⟨q, fun _ => q2⟩ hend
          · rw [dif_neg q]
        have G0 : Hid (G = (out, 0)) := by
          refine Tx.rel_end RL.out (drop_lt s k0) ?_
          rw [SK.out]
          by_cases q : k < s.size
          · right
            rw [drop_cons s k q]
            have := AE.out
            rw [dif_pos q] at this
            simp at this
            exact ⟨_, by rw [this]⟩
          · left; exact drop_end s k (by omega)
        clear hend
        obtain ⟨fa, fcap, hfv⟩ := owns_shape0 own
        subst hfv
        have r0 := bel.cell (p := ⟨w.heap.size, 0, none⟩) (by simp)
        have r1 := bel.cell (p := ⟨w.heap.size, 1, none⟩) (by simp)
        have r2 := bel.cell (p := ⟨w.heap.size, 2, none⟩) (by simp)
        have z0 := bel.frozen (p := ⟨w.heap.size, 0, none⟩) (by simp)
        have z1 := bel.frozen (p := ⟨w.heap.size, 1, none⟩) (by simp)
        have z2 := bel.frozen (p := ⟨w.heap.size, 2, none⟩) (by simp)
        simp at r0 r1 r2 z0 z1 z2
        go_wp2_with fail
        refine (atEnd_any _ k n s _ HR.out k2 hs AE.out).mono ?_
        rintro e w3 ⟨rfl, q, rfl⟩
        go_wp2
        refine bodyPost_ret (v := .agg #[.int .i64 n, .bool false, .slice fa out.length fcap]) (by simp [results, Tryd.results24, go_sem, r0, r1, r2, z0, z1, z2, l0, l1, l2]) rfl ?_
        rw [G0.out]
        refine ⟨?_, .inl ⟨_, rfl, rfl, ?_⟩⟩
        · exact below_drewN (((Below.trans ((Below.refl _ _).alloc (Nat.le_refl _) _) (bel.mono (by omega))).setCell (by simp) _).setCell (by simp) _ |>.setCell (by simp) _) q
        · have nz : some w.heap.size ≠ Value.ownBlock (.slice fa out.length fcap) := fun z => by have := (own.lt _ z.symm).1; omega
          exact owns_base (owns_set (owns_set (owns_set own nz) nz) nz) (by omega)

end Go.Proofs.YtgnopbmcnadmdabDoor
