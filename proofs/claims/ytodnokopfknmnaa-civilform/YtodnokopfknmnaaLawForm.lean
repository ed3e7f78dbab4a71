/- Proved: for every year, month and form, civil.On, civil.Days and civil.Weekday keep the law CivilForm (the day of a form is of that weekday, and less than a week from where it is looked for), at every input, on every schedule; no condition. -/
import Derived.Test.YtodnokopfknmnaaLawRow
namespace Go.Proofs.Ytodnokopfknmnaa
open Go.ChangeShapes Go.WideShapes Go.ChangeAt Go.RowKit Go.Joins

theorem form_day {y m wk n a b c : Int} (h : Cv.onE y m 1 wk n = 0) (hv : Cv.vldB a b c = true) (hn : Cv.num a b c = Cv.tgt y m 1 wk n) : a = y ∧ b = m ∧ Cv.num a b c = Cv.num y m 1 + n - 1 := by
  obtain ⟨h1, _, _, h4, _, _⟩ := Cv.onE_zero h
  have f := Cv.fit_iff.1 h4
  have m' := Cv.mon_iff.1 h1
  have t : Cv.tgt y m 1 wk n = Cv.num y m 1 + n - 1 := by unfold Cv.tgt; simp
  have v : Cv.vldB y m n = true := Cv.vld_iff.2 (by omega)
  have e : Cv.num y m n = Cv.num y m 1 + n - 1 := by unfold Cv.num; omega
  have i := Cv.num_inj hv v (by omega)
  exact ⟨i.1, i.2.1, by omega⟩
theorem form_last {y m wk n a b c : Int} (h : Cv.onE y m 2 wk n = 0) (hv : Cv.vldB a b c = true) (hn : Cv.num a b c = Cv.tgt y m 2 wk n) : b = m ∧ 21 < c ∧ Cv.wd (Cv.num a b c) = wk := by
  obtain ⟨h1, _, _, h4, _, _⟩ := Cv.onE_zero h
  have f := Cv.fit_iff.1 h4
  have m' := Cv.mon_iff.1 h1
  have t : Cv.tgt y m 2 wk n = Cv.upto (Cv.num y m 1 + Cv.dim y m - 1) wk := by unfold Cv.tgt; simp
  have u := Cv.upto_bd (Cv.num y m 1 + Cv.dim y m - 1) wk (by omega) (by omega)
  have db := Cv.dim_bd y m
  obtain ⟨j, hj⟩ : ∃ j, j = Cv.num a b c - Cv.num y m 1 + 1 := ⟨_, rfl⟩
  have v : Cv.vldB y m j = true := Cv.vld_iff.2 (by omega)
  have e : Cv.num y m j = Cv.num y m 1 + j - 1 := by unfold Cv.num; omega
  have i := Cv.num_inj hv v (by omega)
  exact ⟨i.2.1, by omega, by rw [hn, t]; exact u.2.2⟩
theorem form_from {y m wk n a b c : Int} (h : Cv.onE y m 3 wk n = 0) (hn : Cv.num a b c = Cv.tgt y m 3 wk n) : Cv.num y m 1 + n - 1 ≤ Cv.num a b c ∧ Cv.num a b c < Cv.num y m 1 + n + 6 ∧ Cv.wd (Cv.num a b c) = wk := by
  obtain ⟨h1, _, _, h4, _, _⟩ := Cv.onE_zero h
  have f := Cv.fit_iff.1 h4
  have t : Cv.tgt y m 3 wk n = Cv.frm (Cv.num y m 1 + n - 1) wk := by unfold Cv.tgt; simp
  have u := Cv.frm_bd (Cv.num y m 1 + n - 1) wk (by omega) (by omega)
  exact ⟨by omega, by omega, by rw [hn, t]; exact u.2.2⟩
theorem form_to {y m wk n a b c : Int} (h : Cv.onE y m 4 wk n = 0) (hn : Cv.num a b c = Cv.tgt y m 4 wk n) : Cv.num a b c ≤ Cv.num y m 1 + n - 1 ∧ Cv.num y m 1 + n - 8 < Cv.num a b c ∧ Cv.wd (Cv.num a b c) = wk := by
  obtain ⟨h1, _, _, h4, _, _⟩ := Cv.onE_zero h
  have f := Cv.fit_iff.1 h4
  have t : Cv.tgt y m 4 wk n = Cv.upto (Cv.num y m 1 + n - 1) wk := by unfold Cv.tgt; simp
  have u := Cv.upto_bd (Cv.num y m 1 + n - 1) wk (by omega) (by omega)
  exact ⟨by omega, by omega, by rw [hn, t]; exact u.2.2⟩
theorem form_N {y m k wk n : Int} (h : Cv.onE y m k wk n = 0) : Cv.vldB y m 1 = true ∧ 0 ≤ n ∧ n ≤ 31 ∧ 1 ≤ k ∧ k ≤ 4 := by
  obtain ⟨h1, h2, h3, h4, _, _⟩ := Cv.onE_zero h
  have f := Cv.fit_iff.1 h4
  have db := Cv.dim_bd y m
  exact ⟨Cv.vld_one h1, by omega, by omega, h2, h3⟩

set_option maxHeartbeats 400000 in
theorem form_no (y m k wk n c : Int) (w : World) (h : Cv.onE y m k wk n = c) (h3 : c = 3 ∨ c = 7) :
    Calls Try.prog 8 #[.int .i64 y, .int .i64 m, .agg #[.int .i64 k, .int .i64 wk, .int .i64 n]] w fun e w' => e = .returned (.bool true) ∧ Below w.heap.size w w' := by
  have H := hid h
  clear h
  rcases h3 with rfl | rfl
  all_goals
    go_enter Try.func8, Try.ntmps8
    go_wp2_with fail
    refine (on_bad _ _ _ _ _ _ _ H.out (by omega)).mono ?_
    rintro e w1 ⟨rfl, hb1⟩
    obtain ⟨hc1, hz1⟩ := bcell hb1
    go_wp2_with fail
    refine (begun_any _).mono ?_
    rintro e w2 ⟨rfl, hb2⟩
    obtain ⟨hc2, hz2⟩ := bcell hb2
    have s1 := hb1.size
    have s2 := hb2.size
    simp at s1 s2
    go_wp2
    go_ret
    exact ⟨rfl, Below.trans (Below.alloc (Below.trans ((Below.refl _ _).alloc (Nat.le_refl _) _) (hb1.mono (by simp))) (by omega) _) (hb2.mono (by simp; omega))⟩

theorem form_fin {w w1 w2 w3 w4 : World} {o1 o2 : Obj} (hb1 : Below (w.alloc o1).heap.size (w.alloc o1) w1) (hb2 : Below (w1.alloc o2).heap.size (w1.alloc o2) w2) (hb3 : Below w2.heap.size w2 w3) (hb4 : Below w3.heap.size w3 w4) : Below w.heap.size w w4 := by
  have s1 := hb1.size
  have s2 := hb2.size
  have s3 := hb3.size
  simp at s1 s2
  exact Below.trans (Below.trans (Below.trans (Below.alloc (Below.trans ((Below.refl _ _).alloc (Nat.le_refl _) _) (hb1.mono (by simp))) (by omega) _) (hb2.mono (by simp; omega))) (hb3.mono (by omega))) (hb4.mono (by omega))

set_option maxHeartbeats 2000000 in
theorem form_1 (y m wk n : Int) (w : World) (h : Cv.onE y m 1 wk n = 0) :
    Calls Try.prog 8 #[.int .i64 y, .int .i64 m, .agg #[.int .i64 1, .int .i64 wk, .int .i64 n]] w fun e w' => e = .returned (.bool true) ∧ Below w.heap.size w w' := by
  have H := hid h
  obtain ⟨v1, n1, n2, _, _⟩ := form_N h
  have V1 := hid v1
  have nb1 := Cv.num_bd v1
  clear h v1
  go_enter Try.func8, Try.ntmps8
  go_wp2_with fail
  refine (on_good _ _ _ _ _ _ H.out).mono ?_
  rintro e w1 ⟨a, b, c, rfl, hv, hn, hb1⟩
  have nb := Cv.num_bd hv
  obtain ⟨rfl, rfl, q⟩ := form_day H.out hv hn
  have Q := hid q
  clear q
  have HV := hid hv
  clear hv hn
  obtain ⟨hc1, hz1⟩ := bcell hb1
  have s1 := hb1.size
  simp at s1
  have t1 : w.heap.size < w1.heap.size := by omega
  go_wp2_with fail
  refine (begun_any _).mono ?_
  rintro e w2 ⟨rfl, hb2⟩
  obtain ⟨hc2, hz2⟩ := bcell hb2
  have s2 := hb2.size
  simp at s2
  have t2 : w.heap.size < w2.heap.size := by omega
  have t2' : w1.heap.size < w2.heap.size := by omega
  go_wp2_with fail
  refine (days_yes _ _ _ _ HV.out).mono ?_
  rintro e w3 ⟨rfl, hb3⟩
  obtain ⟨hc3, hz3⟩ := bcell hb3
  have s3 := hb3.size
  have t3 : w.heap.size < w3.heap.size := by omega
  have t3' : w1.heap.size < w3.heap.size := by omega
  go_wp2_with fail
  refine (days_yes _ _ _ _ V1.out).mono ?_
  rintro e w4 ⟨rfl, hb4⟩
  obtain ⟨hc4, hz4⟩ := bcell hb4
  rw [Q.out]
  go_wp2
  go_ret
  exact ⟨rfl, form_fin hb1 hb2 hb3 hb4⟩

set_option maxHeartbeats 2000000 in
theorem form_2 (y m wk n : Int) (w : World) (h : Cv.onE y m 2 wk n = 0) :
    Calls Try.prog 8 #[.int .i64 y, .int .i64 m, .agg #[.int .i64 2, .int .i64 wk, .int .i64 n]] w fun e w' => e = .returned (.bool true) ∧ Below w.heap.size w w' := by
  have H := hid h
  obtain ⟨v1, n1, n2, _, _⟩ := form_N h
  have V1 := hid v1
  have nb1 := Cv.num_bd v1
  clear h v1
  go_enter Try.func8, Try.ntmps8
  go_wp2_with fail
  refine (on_good _ _ _ _ _ _ H.out).mono ?_
  rintro e w1 ⟨a, b, c, rfl, hv, hn, hb1⟩
  have nb := Cv.num_bd hv
  obtain ⟨rfl, q2, q3⟩ := form_last H.out hv hn
  have Q3 := hid q3
  clear q3
  have HV := hid hv
  clear hv hn
  obtain ⟨hc1, hz1⟩ := bcell hb1
  have s1 := hb1.size
  simp at s1
  have t1 : w.heap.size < w1.heap.size := by omega
  go_wp2_with fail
  refine (begun_any _).mono ?_
  rintro e w2 ⟨rfl, hb2⟩
  obtain ⟨hc2, hz2⟩ := bcell hb2
  have s2 := hb2.size
  simp at s2
  have t2 : w.heap.size < w2.heap.size := by omega
  have t2' : w1.heap.size < w2.heap.size := by omega
  go_wp2_with fail
  refine (days_yes _ _ _ _ HV.out).mono ?_
  rintro e w3 ⟨rfl, hb3⟩
  obtain ⟨hc3, hz3⟩ := bcell hb3
  have s3 := hb3.size
  have t3 : w.heap.size < w3.heap.size := by omega
  have t3' : w1.heap.size < w3.heap.size := by omega
  go_wp2_with fail
  refine (days_yes _ _ _ _ V1.out).mono ?_
  rintro e w4 ⟨rfl, hb4⟩
  obtain ⟨hc4, hz4⟩ := bcell hb4
  go_wp2_with fail
  go_quiet ((go_at_call 11; exact Calls.quiet_of_same (weekday_is _ _ _ Q3.out)))
  go_wp2
  go_ret
  exact ⟨rfl, below_drewN (form_fin hb1 hb2 hb3 hb4) _⟩

set_option maxHeartbeats 2000000 in
theorem form_3 (y m wk n : Int) (w : World) (h : Cv.onE y m 3 wk n = 0) :
    Calls Try.prog 8 #[.int .i64 y, .int .i64 m, .agg #[.int .i64 3, .int .i64 wk, .int .i64 n]] w fun e w' => e = .returned (.bool true) ∧ Below w.heap.size w w' := by
  have H := hid h
  obtain ⟨v1, n1, n2, _, _⟩ := form_N h
  have V1 := hid v1
  have nb1 := Cv.num_bd v1
  clear h v1
  go_enter Try.func8, Try.ntmps8
  go_wp2_with fail
  refine (on_good _ _ _ _ _ _ H.out).mono ?_
  rintro e w1 ⟨a, b, c, rfl, hv, hn, hb1⟩
  have nb := Cv.num_bd hv
  obtain ⟨q1, q2, q3⟩ := form_from H.out hn
  have Q3 := hid q3
  clear q3
  have HV := hid hv
  clear hv hn
  obtain ⟨hc1, hz1⟩ := bcell hb1
  have s1 := hb1.size
  simp at s1
  have t1 : w.heap.size < w1.heap.size := by omega
  go_wp2_with fail
  refine (begun_any _).mono ?_
  rintro e w2 ⟨rfl, hb2⟩
  obtain ⟨hc2, hz2⟩ := bcell hb2
  have s2 := hb2.size
  simp at s2
  have t2 : w.heap.size < w2.heap.size := by omega
  have t2' : w1.heap.size < w2.heap.size := by omega
  go_wp2_with fail
  refine (days_yes _ _ _ _ HV.out).mono ?_
  rintro e w3 ⟨rfl, hb3⟩
  obtain ⟨hc3, hz3⟩ := bcell hb3
  have s3 := hb3.size
  have t3 : w.heap.size < w3.heap.size := by omega
  have t3' : w1.heap.size < w3.heap.size := by omega
  go_wp2_with fail
  refine (days_yes _ _ _ _ V1.out).mono ?_
  rintro e w4 ⟨rfl, hb4⟩
  obtain ⟨hc4, hz4⟩ := bcell hb4
  go_wp2_with fail
  go_quiet ((go_at_call 11; exact Calls.quiet_of_same (weekday_is _ _ _ Q3.out)))
  go_wp2
  go_ret
  exact ⟨rfl, below_drewN (form_fin hb1 hb2 hb3 hb4) _⟩

set_option maxHeartbeats 2000000 in
theorem form_4 (y m wk n : Int) (w : World) (h : Cv.onE y m 4 wk n = 0) :
    Calls Try.prog 8 #[.int .i64 y, .int .i64 m, .agg #[.int .i64 4, .int .i64 wk, .int .i64 n]] w fun e w' => e = .returned (.bool true) ∧ Below w.heap.size w w' := by
  have H := hid h
  obtain ⟨v1, n1, n2, _, _⟩ := form_N h
  have V1 := hid v1
  have nb1 := Cv.num_bd v1
  clear h v1
  go_enter Try.func8, Try.ntmps8
  go_wp2_with fail
  refine (on_good _ _ _ _ _ _ H.out).mono ?_
  rintro e w1 ⟨a, b, c, rfl, hv, hn, hb1⟩
  have nb := Cv.num_bd hv
  obtain ⟨q1, q2, q3⟩ := form_to H.out hn
  have Q3 := hid q3
  clear q3
  have HV := hid hv
  clear hv hn
  obtain ⟨hc1, hz1⟩ := bcell hb1
  have s1 := hb1.size
  simp at s1
  have t1 : w.heap.size < w1.heap.size := by omega
  go_wp2_with fail
  refine (begun_any _).mono ?_
  rintro e w2 ⟨rfl, hb2⟩
  obtain ⟨hc2, hz2⟩ := bcell hb2
  have s2 := hb2.size
  simp at s2
  have t2 : w.heap.size < w2.heap.size := by omega
  have t2' : w1.heap.size < w2.heap.size := by omega
  go_wp2_with fail
  refine (days_yes _ _ _ _ HV.out).mono ?_
  rintro e w3 ⟨rfl, hb3⟩
  obtain ⟨hc3, hz3⟩ := bcell hb3
  have s3 := hb3.size
  have t3 : w.heap.size < w3.heap.size := by omega
  have t3' : w1.heap.size < w3.heap.size := by omega
  go_wp2_with fail
  refine (days_yes _ _ _ _ V1.out).mono ?_
  rintro e w4 ⟨rfl, hb4⟩
  obtain ⟨hc4, hz4⟩ := bcell hb4
  go_wp2_with fail
  go_quiet ((go_at_call 11; exact Calls.quiet_of_same (weekday_is _ _ _ Q3.out)))
  go_wp2
  go_ret
  exact ⟨rfl, below_drewN (form_fin hb1 hb2 hb3 hb4) _⟩

theorem form_walk (y : Int) (_ : (Lit.int .i64 y).wf = true) (m : Int) (_ : (Lit.int .i64 m).wf = true) (k wk n : Int) (w : World) :
    Calls Try.prog 8 #[.int .i64 y, .int .i64 m, .agg #[.int .i64 k, .int .i64 wk, .int .i64 n]] w fun e w' => e = .returned (.bool true) ∧ Below w.heap.size w w' := by
  by_cases h : Cv.onE y m k wk n = 0
  · obtain ⟨_, _, _, k1, k2⟩ := form_N h
    have : k = 1 ∨ k = 2 ∨ k = 3 ∨ k = 4 := by omega
    rcases this with rfl | rfl | rfl | rfl
    · exact form_1 y m wk n w h
    · exact form_2 y m wk n w h
    · exact form_3 y m wk n w h
    · exact form_4 y m wk n w h
  · have := Cv.onE_bd y m k wk n
    exact form_no y m k wk n _ w rfl (by omega)

set_option maxRecDepth 100000 in
theorem form_lifted (os : Os) (started : os.Started) (H : Type) (enc : TypeId × Value → H) :
    ReturnsInHanded {} Try.checked os 8 .any (Rows.civilFormSpec.pre6 enc Try.prog Try.f8 Rows.civilFormRow.domain false) (Rows.civilFormSpec.post enc Try.prog Try.f8 false true false false) := by
  refine returnsInHanded_of_change (C := Try.checked) own started (by kernel_rfl) Try.func8
    (ChangeSpec.witness6 (enc := enc) (C := Try.checked) false ⟨#[], #[.int .i64 0, .int .i64 0, .agg #[.int .i64 0, .int .i64 0, .int .i64 0]], []⟩ 8 (by kernel_rfl) (by kernel_rfl) (by kernel_rfl) (by kernel_rfl)) ?_
  intro W base args ds gs before hval0 hW hcnd _
  have hval : ∀ (j : Nat) t v, Try.f8.params[j]? = some t → args[j]? = some v → Value.okWide Try.prog W .any base t v := hval0
  have hW' := hW
  obtain ⟨p, q, hA0, hV, rfl, hfz, hnd⟩ := hW
  have hA : DataW.TrodAll enc Try.prog W 0 (fun _ => true) true Try.f8.params.toList args.toList ds p := hA0
  rw [Try.params8] at hA hval
  obtain ⟨v0, v1, v2, d0, d1, d2, p0, p1, p2, rfl, rfl, rfl, h0, h1, h2⟩ := trodAll_three hA
  obtain ⟨rfl, rfl⟩ := trodVars_none hV
  obtain ⟨a0, rfl, rfl, rfl, w0⟩ := open_int Try.underlying3 (hval 0 3 v0 rfl rfl) h0
  obtain ⟨a1, rfl, rfl, rfl, w1⟩ := open_int Try.underlying3 (hval 1 3 v1 rfl rfl) h1
  obtain ⟨⟨a2, b2, c2, rfl⟩, lt2⟩ := open_form (hval 2 38 v2 rfl rfl) h2
  clear hA0 hval0
  refine (form_walk a0 w0 a1 w1 a2 b2 c2 W).mono fun e W' ⟨he, bel⟩ => ?_
  subst he
  exact ⟨_, rfl, _, _, _, [], _, [], hW', trodAll_mk1 (shut_bool Try.underlying4 _), trodAll_mk3 (shut_int Try.underlying3 w0) (shut_int Try.underlying3 w1) (form_stays h2 bel lt2), rfl, bel.frame _, fun h => by cases h⟩

theorem form_holds : Rows.CivilFormSaid :=
  OpenClaim.holds_of_wide 8 Try.f8 rfl rfl rfl rfl rfl rfl rfl ⟨rfl, rfl, rfl, rfl, rfl⟩ rfl rfl rfl rfl rfl (by kernel_rfl) Try.func8 (by kernel_rfl)
    (of_decide_eq_true (by kernel_rfl)) (by unfold Func.isWrapper; first | (rw [if_pos (by decide +kernel)]; kernel_rfl) | (rw [if_neg (by decide +kernel)]; exact ⟨rfl, rfl⟩))
    (fun os started H enc _ => form_lifted os started H enc)
#print axioms form_holds
end Go.Proofs.Ytodnokopfknmnaa
