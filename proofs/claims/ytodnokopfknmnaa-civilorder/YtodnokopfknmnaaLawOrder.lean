/- Proved: for every two dates, civil.Days keeps the law CivilOrder (days stand in order just as dates do), at every input, on every schedule; no condition. -/
import Derived.Test.YtodnokopfknmnaaLawRow
namespace Go.Proofs.Ytodnokopfknmnaa
open Go.ChangeShapes Go.WideShapes Go.ChangeAt Go.RowKit Go.Joins

theorem order_fin {W w w1 w2 w3 : World} {o1 o2 : Obj} (hW : W = (w.alloc o1).alloc o2) (hb1 : Below W.heap.size W w1) (hb2 : Below w1.heap.size w1 w2) (hb3 : Below w2.heap.size w2 w3) : Below w.heap.size w w3 := by
  subst hW
  have s1 := hb1.size
  have s2 := hb2.size
  simp at s1
  exact Below.trans (Below.trans (Below.trans (((Below.refl _ _).alloc (Nat.le_refl _) _).alloc (by simp) _) (hb1.mono (by simp; omega))) (hb2.mono (by omega))) (hb3.mono (by omega))

theorem seven (y m d y' m' d' : Int) : (y < y') ∨ (y = y' ∧ m < m') ∨ (y = y' ∧ m = m' ∧ d < d') ∨ (y = y' ∧ m = m' ∧ d = d') ∨ (y' < y) ∨ (y = y' ∧ m' < m) ∨ (y = y' ∧ m = m' ∧ d' < d) := by omega

set_option maxHeartbeats 2000000 in
theorem order_walk (y m d y' m' d' : Int) (w : World) :
    Calls Try.prog 4 #[.agg #[.int .i64 y, .int .i64 m, .int .i64 d], .agg #[.int .i64 y', .int .i64 m', .int .i64 d']] w fun e w' => e = .returned (.bool true) ∧ Below w.heap.size w w' := by
  cases h : Cv.vldB y m d <;> cases h' : Cv.vldB y' m' d'
  · have H := hid h
    have H' := hid h'
    clear h h'
    go_enter Try.func4, Try.ntmps4
    go_wp2_with fail
    refine (days_no _ _ _ _ H.out).mono ?_
    rintro e w1 ⟨rfl, hb1⟩
    obtain ⟨hc1, hz1⟩ := bcell hb1
    go_wp2_with fail
    refine (days_no _ _ _ _ H'.out).mono ?_
    rintro e w2 ⟨rfl, hb2⟩
    go_wp2_with fail
    refine (begun_any _).mono ?_
    rintro e w3 ⟨rfl, hb3⟩
    go_wp2
    go_ret
    exact ⟨rfl, order_fin rfl hb1 hb2 hb3⟩
  · have H := hid h
    have H' := hid h'
    clear h h'
    go_enter Try.func4, Try.ntmps4
    go_wp2_with fail
    refine (days_no _ _ _ _ H.out).mono ?_
    rintro e w1 ⟨rfl, hb1⟩
    obtain ⟨hc1, hz1⟩ := bcell hb1
    go_wp2_with fail
    refine (days_yes _ _ _ _ H'.out).mono ?_
    rintro e w2 ⟨rfl, hb2⟩
    go_wp2_with fail
    refine (begun_any _).mono ?_
    rintro e w3 ⟨rfl, hb3⟩
    go_wp2
    go_ret
    exact ⟨rfl, order_fin rfl hb1 hb2 hb3⟩
  · have H := hid h
    have H' := hid h'
    clear h h'
    go_enter Try.func4, Try.ntmps4
    go_wp2_with fail
    refine (days_yes _ _ _ _ H.out).mono ?_
    rintro e w1 ⟨rfl, hb1⟩
    obtain ⟨hc1, hz1⟩ := bcell hb1
    go_wp2_with fail
    refine (days_no _ _ _ _ H'.out).mono ?_
    rintro e w2 ⟨rfl, hb2⟩
    go_wp2_with fail
    refine (begun_any _).mono ?_
    rintro e w3 ⟨rfl, hb3⟩
    go_wp2
    go_ret
    exact ⟨rfl, order_fin rfl hb1 hb2 hb3⟩
  · have ha := Cv.num_ahead h h'
    have ha' := Cv.num_ahead h' h
    have H := hid h
    have H' := hid h'
    clear h h'
    have key : Hid ((decide (Cv.num y m d < Cv.num y' m' d') = decide (y < y' ∨ y = y' ∧ (m < m' ∨ m = m' ∧ d < d'))) ∧ ((Cv.num y m d == Cv.num y' m' d') = decide (y = y' ∧ m = m' ∧ d = d'))) := by
      refine ⟨decide_eq_decide.2 ha, ?_⟩
      rw [Bool.eq_iff_iff]; simp
      constructor
      · intro e; exact Cv.num_inj H.out H'.out e
      · rintro ⟨rfl, rfl, rfl⟩; rfl
    clear ha ha'
    rcases seven y m d y' m' d' with c | ⟨rfl, c⟩ | ⟨rfl, rfl, c⟩ | ⟨rfl, rfl, rfl⟩ | c | ⟨rfl, c⟩ | ⟨rfl, rfl, c⟩
    all_goals
      have k1 := key.out.1
      have k2 := key.out.2
      clear key
      go_enter Try.func4, Try.ntmps4
      go_wp2_with fail
      refine (days_yes _ _ _ _ H.out).mono ?_
      rintro e w1 ⟨rfl, hb1⟩
      obtain ⟨hc1, hz1⟩ := bcell hb1
      go_wp2_with fail
      refine (days_yes _ _ _ _ H'.out).mono ?_
      rintro e w2 ⟨rfl, hb2⟩
      obtain ⟨hc2, hz2⟩ := bcell hb2
      have hs1 : w.heap.size + 1 < w1.heap.size := by have := hb1.size; simp at this; omega
      have hs2 : w.heap.size + 1 < w2.heap.size := Nat.lt_of_lt_of_le hs1 hb2.size
      have hs3 : w.heap.size < w1.heap.size := by omega
      have hs4 : w.heap.size < w2.heap.size := by omega
      go_wp2_with fail
      refine (begun_any _).mono ?_
      rintro e w3 ⟨rfl, hb3⟩
      obtain ⟨hc3, hz3⟩ := bcell hb3
      go_wp2
      go_ret
      refine ⟨ret_bool ?_, order_fin rfl hb1 hb2 hb3⟩
      clear hc1 hz1 hc2 hz2 hc3 hz3 hb1 hb2 hb3 k1 k2 H H'
      first | rfl | (simp; done) | (simp; omega)

set_option maxRecDepth 100000 in
theorem order_lifted (os : Os) (started : os.Started) (H : Type) (enc : TypeId × Value → H) :
    ReturnsInHanded {} Try.checked os 4 .any (Rows.civilOrderSpec.pre6 enc Try.prog Try.f4 Rows.civilOrderRow.domain false) (Rows.civilOrderSpec.post enc Try.prog Try.f4 false true false false) := by
  refine returnsInHanded_of_change (C := Try.checked) own started (by kernel_rfl) Try.func4
    (ChangeSpec.witness6 (enc := enc) (C := Try.checked) false ⟨#[], #[.agg #[.int .i64 0, .int .i64 0, .int .i64 0], .agg #[.int .i64 0, .int .i64 0, .int .i64 0]], []⟩ 8 (by kernel_rfl) (by kernel_rfl) (by kernel_rfl) (by kernel_rfl)) ?_
  intro W base args ds gs before hval0 hW hcnd _
  have hval : ∀ (j : Nat) t v, Try.f4.params[j]? = some t → args[j]? = some v → Value.okWide Try.prog W .any base t v := hval0
  have hW' := hW
  obtain ⟨p, q, hA0, hV, rfl, hfz, hnd⟩ := hW
  have hA : DataW.TrodAll enc Try.prog W 0 (fun _ => true) true Try.f4.params.toList args.toList ds p := hA0
  rw [Try.params4] at hA hval
  obtain ⟨v0, v1, d0, d1, p0, p1, rfl, rfl, rfl, h0, h1⟩ := trodAll_two hA
  obtain ⟨rfl, rfl⟩ := trodVars_none hV
  obtain ⟨⟨a, b, c, rfl⟩, lt0⟩ := open_date (hval 0 23 v0 rfl rfl) h0
  obtain ⟨⟨a', b', c', rfl⟩, lt1⟩ := open_date (hval 1 23 v1 rfl rfl) h1
  clear hA0 hval0
  refine (order_walk a b c a' b' c' W).mono fun e W' ⟨he, bel⟩ => ?_
  subst he
  exact ⟨_, rfl, _, _, _, [], _, [], hW', trodAll_mk1 (shut_bool Try.underlying4 _), trodAll_mk2 (date_stays h0 bel lt0) (date_stays h1 bel lt1), rfl, bel.frame _, fun h => by cases h⟩

theorem order_holds : Rows.CivilOrderSaid :=
  OpenClaim.holds_of_wide 4 Try.f4 rfl rfl rfl rfl rfl rfl rfl ⟨rfl, rfl, rfl, rfl, rfl⟩ rfl rfl rfl rfl rfl (by kernel_rfl) Try.func4 (by kernel_rfl)
    (of_decide_eq_true (by kernel_rfl)) (by unfold Func.isWrapper; first | (rw [if_pos (by decide +kernel)]; kernel_rfl) | (rw [if_neg (by decide +kernel)]; exact ⟨rfl, rfl⟩))
    (fun os started H enc _ => order_lifted os started H enc)
#print axioms order_holds
end Go.Proofs.Ytodnokopfknmnaa
