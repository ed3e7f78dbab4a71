/- The contract of wire's Decode. -/
import Derived.Test.YtombhnjmelidcaaWdH
import Derived.Test.YtombhnjmelidcaaWeG
namespace Go.Proofs.Ytombhnjmelidcaa
open Go.RowKit Go.Shelf
set_option linter.unusedVariables false
set_option linter.unusedSimpArgs false

theorem workEnters : ∀ args w, (callFunc 28 args).run Try.prog w = .ok (.enter 28 args) w := enters_of Try.func28 (by kernel_rfl) rfl
theorem short_sized {t : Tb.Tbl} (h : Short t) : Tb.Sized t := ⟨by have := h.ch; unfold maxLen; omega, by have := h.first; unfold maxLen; omega, fun c hc => by have := h.names c hc; unfold maxLen; omega⟩
/- is it just what some table is told by? -/
def Wr.Told (s : Tx.Bs) (t : Tb.Tbl) : Prop := Tb.tableE t = 0 ∧ Wr.encode t = s
theorem Wr.told_parse {s : Tx.Bs} {t : Tb.Tbl} (h : Wr.Told s t) : Wr.parse s = some t := by rw [← h.2]; exact Wr.parse_encode t h.1
theorem Wr.told_one {s : Tx.Bs} {t u : Tb.Tbl} (h : Wr.Told s t) (h' : Wr.Told s u) : t = u := by
  have a := Wr.told_parse h
  rw [Wr.told_parse h'] at a
  simpa using a.symm
def DecodeEnd (s : Tx.Bs) (w : World) (e : Ending) (w' : World) : Prop :=
  Below w.heap.size w w' ∧ ((∃ t cv, Wr.Told s t ∧ e = .returned (.tuple #[tbV t.first cv, .int .i64 0]) ∧ OwnCh w' w.heap.size cv t.ch ∧ Short t) ∨ ((∀ t, ¬ Wr.Told s t) ∧ e = .returned (.tuple #[tbV ⟨0, 0, []⟩ (.slice none 0 0), .int .i64 1])))
set_option maxRecDepth 100000 in
set_option maxHeartbeats 4000000 in
theorem pDecode_any (s : Tx.Bs) (w : World) (hs : s.length ≤ maxLen) :
    Calls Try.prog 11 #[strV s] w (DecodeEnd s w) := by
  obtain ⟨N, hN⟩ : ∃ N, w.heap.size = N := ⟨_, rfl⟩
  obtain ⟨W0, hW⟩ : ∃ W, ((w.alloc (.cells #[strV s] 9)).alloc (.cells #[.int .i64 0, .int .i64 0, .string ⟨#[]⟩, .slice none 0 0] 26)).alloc (.cells #[.int .i64 0, .int .i64 0, .string ⟨#[]⟩, .slice none 0 0] 26) = W := ⟨_, rfl⟩
  have HNN := hid hN
  have B0 : Hid (Below w.heap.size w W0) := by
    rw [← hW]; show Below _ _ _
    exact (((Below.refl _ _).alloc (by omega) _).alloc (by simp) _).alloc (by simp; omega) _
  have S0 : Hid (CellsAt W0 N [strV s]) := by rw [← hW, ← hN]; exact ca_alloc (ca_alloc (ca_new w [strV s] 9) _) _
  have R0 : Hid (CellsAt W0 (N + 1) (tbC ⟨0, 0, []⟩ (.slice none 0 0))) := by
    rw [← hW, ← hN]
    have := ca_alloc (ca_new (w.alloc (.cells #[strV s] 9)) (tbC ⟨0, 0, []⟩ (.slice none 0 0)) 26) (.cells #[.int .i64 0, .int .i64 0, .string ⟨#[]⟩, .slice none 0 0] 26)
    rw [World.size_alloc] at this
    exact this
  have T0 : Hid (CellsAt W0 (N + 1 + 1) (tbC ⟨0, 0, []⟩ (.slice none 0 0))) := by
    rw [← hW, ← hN]
    have := ca_new ((w.alloc (.cells #[strV s] 9)).alloc (.cells #[.int .i64 0, .int .i64 0, .string ⟨#[]⟩, .slice none 0 0] 26)) (tbC ⟨0, 0, []⟩ (.slice none 0 0)) 26
    rw [World.size_alloc, World.size_alloc] at this
    exact this
  obtain ⟨M, hM⟩ : ∃ M, W0.heap.size = M := ⟨_, rfl⟩
  have NM : N + 1 + 1 < M := by rw [← hM]; exact T0.out.1
  obtain ⟨U, hU⟩ : ∃ U, (W0.alloc (.cells #[.int .i64 0] 3)).alloc (.cells #[.int .i64 4] 28) = U := ⟨_, rfl⟩
  have bU : Below W0.heap.size W0 U := by rw [← hU]; exact ((Below.refl _ _).alloc (Nat.le_refl _) _).alloc (by simp) _
  have n0 : CellsAt U M [.int .i64 0] := by rw [← hU, ← hM]; exact ca_alloc (ca_new W0 [.int .i64 0] 3) _
  have n1 : CellsAt U (M + 1) [.int .i64 4] := by
    rw [← hU, ← hM]
    have := ca_new (W0.alloc (.cells #[.int .i64 0] 3)) [.int .i64 4] 28
    rw [World.size_alloc] at this
    exact this
  have n1lt : W0.heap.size + 1 < U.heap.size := by rw [hM]; exact n1.1
  have CW := work_any N (N + 1 + 1) s U (ca_below S0.out bU) (ca_below T0.out bU) hs
  have CA := attempt_of 28 (.pointer (some ⟨N, 0, none⟩)) (.pointer (some ⟨N + 1 + 1, 0, none⟩)) W0
    (fun w' => U.grownBy w' (some (N + 1 + 1)) ∧ ∃ t cv, Wr.parse s = some t ∧ CellsAt w' (N + 1 + 1) (tbC t.first cv) ∧ OwnCh w' U.heap.size cv t.ch ∧ Short t)
    (fun n e w' => U.grownBy w' (some (N + 1 + 1)) ∧ Wr.parse s = none ∧ n = 0 ∧ e = 1) workEnters (by
      rw [hU]
      refine Calls.mono CW ?_
      rintro x w' ⟨hg, hO⟩
      have m0 := ca_grown n0 hg (by omega)
      have m1 := ca_grown n1 hg (by omega)
      rw [hM]
      refine ⟨⟨m1.1, (ca_at m0 0 rfl).1, (ca_at m1 0 rfl).1, (ca_at m0 0 rfl).2, (ca_at m1 0 rfl).2⟩, ?_⟩
      rcases hO with ⟨t, cv, h1, h2, h3, h4, h5⟩ | ⟨h1, h2⟩
      · exact .inl ⟨h2, hg, t, cv, h1, h3, h4, h5⟩
      · exact .inr ⟨0, 1, h2, hg, h1, rfl, rfl⟩)
  rw [hM] at CA
  have HCA := hid CA
  have HBU := hid bU
  have HS := hid hs
  have HMM := hid hM
  clear CA CW n0 n1 bU hU hM hs T0
  go_enter Try.func11, Try.ntmps11
  go_wp2_with fail
  refine HCA.out.mono ?_
  rintro e w2 (⟨w1, ⟨hg, t, cv, hp, hT, hO, hSh⟩, rfl, rfl⟩ | ⟨n, e, w1, ⟨hg, hp, rfl, rfl⟩, rfl, rfl⟩)
  case inr =>
    have HNO : Hid (∀ t, ¬ Wr.Told s t) := fun t ht => by have := Wr.told_parse ht; rw [hp] at this; cases this
    obtain ⟨W2, hW2⟩ : ∃ W, (((w1.setCell ⟨M, 0, none⟩ (.int .i64 0)).setCell ⟨M + 1, 0, none⟩ (.int .i64 1)).alloc (.cells #[.int .i64 0, .int .i64 1] 84)).drew = W := ⟨_, rfl⟩
    have R2 : Hid (CellsAt W2 (N + 1) (tbC ⟨0, 0, []⟩ (.slice none 0 0))) := by
      rw [← hW2]
      exact ca_alloc (ca_far (ca_far (ca_grown (ca_below R0.out HBU.out) hg (by omega)) (by omega)) (by omega)) _
    have B2 : Hid (Below w.heap.size w W2) := by
      have q1 : Below w.heap.size w w1 := Below.grown (B0.out.trans (HBU.out.mono B0.out.size)) hg (Nat.le_trans B0.out.size HBU.out.size) (fun k hk => by cases hk; rw [HNN.out]; omega)
      rw [← hW2]
      exact below_drew' (Below.alloc (below_set (below_set q1 (by rw [HNN.out]; omega) _) (by rw [HNN.out]; omega) _) (by rw [HNN.out]; have := hg.size; have := HBU.out.size; rw [HMM.out] at this; simp; omega) _)
    rw [hW2]
    clear hW2 hg hp HCA R0 B0 HBU S0 hW hN
    obtain ⟨-, ⟨r0, r1, r2, r3⟩, ⟨f0, f1, f2, f3⟩, sr⟩ := res4' R2.out
    go_wp2
    refine bodyPost_ret (v := .tuple #[tbV ⟨0, 0, []⟩ (.slice none 0 0), .int .i64 1]) (by simp [results, Try.results11, go_sem, *]) rfl ⟨?_, .inr ⟨HNO.out, rfl⟩⟩
    repeat (refine below_set ?_ (by rw [HNN.out]; omega) _)
    exact B2.out
  case inl =>
    obtain ⟨ca, cc, rfl⟩ := owns_shape0 hO
    obtain ⟨W2, hW2⟩ : ∃ W, ((w1.setCell ⟨M, 0, none⟩ (.int .i64 0)).setCell ⟨M + 1, 0, none⟩ (.int .i64 0)).alloc (.cells #[.int .i64 0, .int .i64 0] 84) = W := ⟨_, rfl⟩
    have sU : M + 1 < U.heap.size := by rw [← HMM.out]; exact n1lt
    have R2 : Hid (CellsAt W2 (N + 1) (tbC ⟨0, 0, []⟩ (.slice none 0 0))) := by
      rw [← hW2]
      exact ca_alloc (ca_far (ca_far (ca_grown (ca_below R0.out HBU.out) hg (by omega)) (by omega)) (by omega)) _
    have S2 : Hid (CellsAt W2 N [strV s]) := by
      rw [← hW2]
      exact ca_alloc (ca_far (ca_far (ca_grown (ca_below S0.out HBU.out) hg (by omega)) (by omega)) (by omega)) _
    have T2 : Hid (CellsAt W2 (N + 1 + 1) (tbC t.first (.slice ca t.ch.length cc))) := by
      rw [← hW2]
      exact ca_alloc (ca_far (ca_far hT (by omega)) (by omega)) _
    have O2 : Hid (OwnCh W2 (N + 1 + 1 + 1) (.slice ca t.ch.length cc) t.ch) := by
      rw [← hW2]
      have ne : ∀ Y o, Y < U.heap.size → Value.ownBlock (.slice ca t.ch.length cc) ≠ some (⟨Y, o, none⟩ : Addr).block := fun Y o hY q => by have := (hO.lt _ q).1; simp only at this; omega
      exact owns_base (World.ownsRow.alloc (ownsRow_setCell_other (ownsRow_setCell_other hO (ne _ _ (by omega)) _) (ne _ _ (by omega)) _) _) (by omega)
    have B2 : Hid (Below w.heap.size w W2) := by
      have q1 : Below w.heap.size w w1 := Below.grown (B0.out.trans (HBU.out.mono B0.out.size)) hg (Nat.le_trans B0.out.size HBU.out.size) (fun k hk => by cases hk; rw [HNN.out]; omega)
      rw [← hW2]
      exact Below.alloc (below_set (below_set q1 (by rw [HNN.out]; omega) _) (by rw [HNN.out]; omega) _) (by rw [HNN.out]; have := hg.size; simp; omega) _
    rw [hW2]
    clear hW2 hg hT hO HCA R0 B0 HBU S0 hW hN
    obtain ⟨E, hE⟩ : ∃ E, Tb.tableE t = E := ⟨_, rfl⟩
    obtain ⟨EO, hEO⟩ : ∃ EO, Wr.encO t = EO := ⟨_, rfl⟩
    have C2 := hid (pEncode_any t _ W2 (ownCh_rd O2.out) (short_sized hSh))
    rw [hE, hEO] at C2
    obtain ⟨f, hf⟩ : ∃ f, t.first = f := ⟨_, rfl⟩
    obtain ⟨tn, htn⟩ : ∃ n, t.ch.length = n := ⟨_, rfl⟩
    rw [hf, htn] at C2 T2
    rw [htn] at O2
    have HNO : Hid ((¬ E = 0 ∨ ¬ EO = s) → ∀ u, ¬ Wr.Told s u) := fun q u hu => by
      have := Wr.told_parse hu
      rw [hp] at this
      simp at this
      subst this
      rcases q with q | q
      · exact q (hE.symm.trans hu.1)
      · exact q (by rw [← hEO, Wr.encO, if_pos hu.1]; exact hu.2)
    have HYES : Hid (E = 0 → EO = s → Wr.Told s t) := fun a b => ⟨hE.trans a, by rw [← b, ← hEO, Wr.encO, if_pos (hE.trans a)]⟩
    have HSH := hid hSh
    have Hf := hid hf
    clear hE hEO hf htn hp hSh
    obtain ⟨-, ⟨t0, t1, t2, t3⟩, -, st⟩ := res4' T2.out
    go_wp2_with fail
    refine C2.out.mono ?_
    rintro e w3 ⟨rfl, hb3⟩
    have R3 := hid (ca_below R2.out hb3)
    have S3 := hid (ca_below S2.out hb3)
    have T3 := hid (ca_below T2.out hb3)
    have O3 := hid (owns_below O2.out hb3)
    have B3 : Hid (Below w.heap.size w w3) := B2.out.trans (hb3.mono B2.out.size)
    clear R2 S2 T2 O2 B2 C2 hb3 t0 t1 t2 t3 st
    obtain ⟨-, ⟨t0, t1, t2, t3⟩, -, st⟩ := res4' T3.out
    obtain ⟨-, ⟨r0, r1, r2, r3⟩, ⟨f0, f1, f2, f3⟩, sr⟩ := res4' R3.out
    obtain ⟨s0, _⟩ := ca_at S3.out 0 rfl
    have ss := S3.out.1
    by_cases q1 : E = 0
    case neg =>
      have HN2 := hid (HNO.out (.inl q1))
      have q1' : (E != 0) = true := by simp [q1]
      clear HNO HYES
      go_wp2
      refine bodyPost_ret (v := .tuple #[tbV ⟨0, 0, []⟩ (.slice none 0 0), .int .i64 1]) (by simp [results, Try.results11, go_sem, *]) rfl ⟨?_, .inr ⟨HN2.out, rfl⟩⟩
      repeat (refine below_set ?_ (by rw [HNN.out]; omega) _)
      exact B3.out
    by_cases q2 : EO = s
    case neg =>
      have HN2 := hid (HNO.out (.inr q2))
      have q2' : (EO == s) = false := by simp [q2]
      have q2'' : (EO != s) = true := by simp [q2]
      have HQ := hid q2
      clear q2
      subst q1
      clear HNO HYES
      go_wp2
      refine bodyPost_ret (v := .tuple #[tbV ⟨0, 0, []⟩ (.slice none 0 0), .int .i64 1]) (by simp [results, Try.results11, go_sem, *]) rfl ⟨?_, .inr ⟨HN2.out, rfl⟩⟩
      repeat (refine below_set ?_ (by rw [HNN.out]; omega) _)
      exact B3.out
    have HT := hid (HYES.out q1 q2)
    clear HNO HYES
    subst q1 q2
    go_wp2
    refine bodyPost_ret (v := .tuple #[tbV f (.slice ca tn cc), .int .i64 0]) (by simp [results, Try.results11, go_sem, *]) rfl ⟨?_, .inl ⟨t, .slice ca tn cc, HT.out, by rw [Hf.out], ?_, HSH.out⟩⟩
    · repeat (refine below_set ?_ (by rw [HNN.out]; omega) _)
      exact B3.out
    · have ne : ∀ o, Value.ownBlock (.slice ca tn cc) ≠ some (⟨N + 1, o, none⟩ : Addr).block := by
        intro o q
        have := (O3.out.lt _ q).1
        simp only at this
        omega
      repeat (refine ownsRow_setCell_other ?_ (ne _) _)
      exact owns_base O3.out (by rw [HNN.out]; omega)
end Go.Proofs.Ytombhnjmelidcaa
