/- Proved: for every year, month and form, civil.On answers what the document says (the law CivilOn), at every input, on every schedule; no condition. -/
import Derived.Test.YtodnokopfknmnaaLawRow
import Derived.Test.YtodnokopfknmnaaRefD
namespace Go.Proofs.Ytodnokopfknmnaa
open Go.ChangeShapes Go.WideShapes Go.ChangeAt Go.RowKit Go.Joins
set_option linter.unusedVariables false
set_option linter.unusedSimpArgs false

theorem onE_of {y m k wk n : Int} (h : Cv.monB y m = true) (k1 : 1 ≤ k) (k2 : k ≤ 4) (hf : Cv.fitB k wk n (Cv.dim y m) = true) : Cv.onE y m k wk n = if Cv.tgt y m k wk n < -719162 ∨ 2932896 < Cv.tgt y m k wk n then 3 else 0 := by
  unfold Cv.onE
  rw [if_neg (by simp [h]), if_neg (by omega), if_neg (by simp [hf])]
theorem ron_good (y m k wk n : Int) (w : World) (h : Cv.onE y m k wk n = 0) :
    Calls Try.prog 20 #[.int .i64 y, .int .i64 m, .agg #[.int .i64 k, .int .i64 wk, .int .i64 n]] w fun e w' => ∃ a b c : Int, e = .returned (.tuple #[.agg #[.int .i64 a, .int .i64 b, .int .i64 c], .int .i64 0]) ∧ Cv.vldB a b c = true ∧ Cv.num a b c = Cv.tgt y m k wk n ∧ Below w.heap.size w w' := by
  obtain ⟨h1, k1, k2, hf, t1, t2⟩ := Cv.onE_zero h
  have fin : ∀ (e : Ending) (w' : World), (∃ a b c : Int, ∃ r : Int, e = .returned (.tuple #[.agg #[.int .i64 a, .int .i64 b, .int .i64 c], .int .i64 r]) ∧ ((r = 0 ∧ -719162 ≤ Cv.tgt y m k wk n ∧ Cv.tgt y m k wk n ≤ 2932896 ∧ Cv.vldB a b c = true ∧ Cv.num a b c = Cv.tgt y m k wk n) ∨ (r = 3 ∧ a = 0 ∧ b = 0 ∧ c = 0 ∧ (Cv.tgt y m k wk n < -719162 ∨ 2932896 < Cv.tgt y m k wk n))) ∧ Below w.heap.size w w') → ∃ a b c : Int, e = .returned (.tuple #[.agg #[.int .i64 a, .int .i64 b, .int .i64 c], .int .i64 0]) ∧ Cv.vldB a b c = true ∧ Cv.num a b c = Cv.tgt y m k wk n ∧ Below w.heap.size w w' := by
    rintro e w' ⟨a, b, c, r, he, q, hb⟩
    rcases q with ⟨rfl, _, _, hv, hn⟩ | ⟨_, _, _, _, q⟩
    · exact ⟨a, b, c, he, hv, hn, hb⟩
    · omega
  have kk : k = 1 ∨ k = 2 ∨ k = 3 ∨ k = 4 := by omega
  rcases kk with rfl | rfl | rfl | rfl
  · exact (ron_1 y m wk n w h1 hf).mono fin
  · exact (ron_2 y m wk n w h1 hf).mono fin
  · exact (ron_3 y m wk n w h1 hf).mono fin
  · exact (ron_4 y m wk n w h1 hf).mono fin
theorem ron_out (y m k wk n : Int) (w : World) (h1 : Cv.monB y m = true) (k1 : 1 ≤ k) (k2 : k ≤ 4) (hf : Cv.fitB k wk n (Cv.dim y m) = true) (ht : Cv.tgt y m k wk n < -719162 ∨ 2932896 < Cv.tgt y m k wk n) :
    Calls Try.prog 20 #[.int .i64 y, .int .i64 m, .agg #[.int .i64 k, .int .i64 wk, .int .i64 n]] w fun e w' => e = .returned (.tuple #[.agg #[.int .i64 0, .int .i64 0, .int .i64 0], .int .i64 3]) ∧ Below w.heap.size w w' := by
  have fin : ∀ (e : Ending) (w' : World), (∃ a b c : Int, ∃ r : Int, e = .returned (.tuple #[.agg #[.int .i64 a, .int .i64 b, .int .i64 c], .int .i64 r]) ∧ ((r = 0 ∧ -719162 ≤ Cv.tgt y m k wk n ∧ Cv.tgt y m k wk n ≤ 2932896 ∧ Cv.vldB a b c = true ∧ Cv.num a b c = Cv.tgt y m k wk n) ∨ (r = 3 ∧ a = 0 ∧ b = 0 ∧ c = 0 ∧ (Cv.tgt y m k wk n < -719162 ∨ 2932896 < Cv.tgt y m k wk n))) ∧ Below w.heap.size w w') → e = .returned (.tuple #[.agg #[.int .i64 0, .int .i64 0, .int .i64 0], .int .i64 3]) ∧ Below w.heap.size w w' := by
    rintro e w' ⟨a, b, c, r, he, q, hb⟩
    rcases q with ⟨_, _, _, _, _⟩ | ⟨rfl, rfl, rfl, rfl, q⟩
    · omega
    · exact ⟨he, hb⟩
  have kk : k = 1 ∨ k = 2 ∨ k = 3 ∨ k = 4 := by omega
  rcases kk with rfl | rfl | rfl | rfl
  · exact (ron_1 y m wk n w h1 hf).mono fin
  · exact (ron_2 y m wk n w h1 hf).mono fin
  · exact (ron_3 y m wk n w h1 hf).mono fin
  · exact (ron_4 y m wk n w h1 hf).mono fin
theorem ron_bad (y m k wk n c : Int) (w : World) (h : Cv.onE y m k wk n = c) (hc : c ≠ 0) :
    Calls Try.prog 20 #[.int .i64 y, .int .i64 m, .agg #[.int .i64 k, .int .i64 wk, .int .i64 n]] w fun e w' => e = .returned (.tuple #[.agg #[.int .i64 0, .int .i64 0, .int .i64 0], .int .i64 c]) ∧ Below w.heap.size w w' := by
  unfold Cv.onE at h
  by_cases h1 : Cv.monB y m = false
  · rw [if_pos h1] at h; subst h; exact ron_mon y m k wk n w h1
  rw [if_neg h1] at h
  have h1' : Cv.monB y m = true := by simpa using h1
  by_cases h2 : k < 1 ∨ 4 < k
  · rw [if_pos h2] at h; subst h; exact ron_kind y m k wk n w h1' h2
  rw [if_neg h2] at h
  by_cases h3 : Cv.fitB k wk n (Cv.dim y m) = false
  · rw [if_pos h3] at h; subst h
    have hf : ¬ (0 ≤ wk ∧ wk ≤ 6 ∧ (k = 2 ∧ n = 0 ∨ k ≠ 2 ∧ ¬ (k = 1 ∧ wk ≠ 0) ∧ 1 ≤ n ∧ n ≤ Cv.dim y m)) := fun q => by rw [Cv.fit_iff.2 q] at h3; cases h3
    by_cases a : ¬ (0 ≤ wk ∧ wk ≤ 6) ∨ (k = 1 ∧ wk ≠ 0)
    · exact ron_wk y m k wk n w h1' (by omega) (by omega) a
    by_cases b : k = 2
    · subst b; exact ron_last y m wk n w h1' (by omega) (by omega) (by omega)
    · exact ron_n y m k wk n w h1' (by omega) (by omega) (by omega) (by omega) b (by omega) (by omega)
  rw [if_neg h3] at h
  have h3' : Cv.fitB k wk n (Cv.dim y m) = true := by simpa using h3
  by_cases h4 : Cv.tgt y m k wk n < -719162 ∨ 2932896 < Cv.tgt y m k wk n
  · rw [if_pos h4] at h; subst h; exact ron_out y m k wk n w h1' (by omega) (by omega) h3' h4
  rw [if_neg h4] at h
  exact absurd h.symm hc

set_option maxHeartbeats 1000000 in
theorem on_law_bad (y m k wk n c : Int) (w : World) (h : Cv.onE y m k wk n = c) (h3 : c = 3 ∨ c = 7) :
    Calls Try.prog 6 #[.int .i64 y, .int .i64 m, .agg #[.int .i64 k, .int .i64 wk, .int .i64 n]] w fun e w' => e = .returned (.bool true) ∧ Below w.heap.size w w' := by
  have H := hid h
  clear h
  rcases h3 with rfl | rfl
  all_goals
    go_enter Try.func6, Try.ntmps6
    go_wp2_with fail
    refine (on_bad _ _ _ _ _ _ _ H.out (by omega)).mono ?_
    rintro e w1 ⟨rfl, hb1⟩
    obtain ⟨hc1, hz1⟩ := bcell hb1
    have s1 := hb1.size
    simp at s1
    have t1 : w.heap.size < w1.heap.size := by omega
    go_wp2_with fail
    refine (ron_bad _ _ _ _ _ _ _ H.out (by omega)).mono ?_
    rintro e w2 ⟨rfl, hb2⟩
    obtain ⟨hc2, hz2⟩ := bcell hb2
    have s2 := hb2.size
    simp at s2
    have t2 : w1.heap.size < w2.heap.size := by omega
    go_wp2_with fail
    refine (begun_any _).mono ?_
    rintro e w3 ⟨rfl, hb3⟩
    obtain ⟨hc3, hz3⟩ := bcell hb3
    have s3 := hb3.size
    simp at s3
    have t3 : w1.heap.size < w2.heap.size + 1 := by omega
    go_wp2
    go_ret
    exact ⟨rfl, Below.trans (Below.alloc (Below.trans (Below.alloc (Below.trans ((Below.refl _ _).alloc (Nat.le_refl _) _) (hb1.mono (by simp))) (by omega) _) (hb2.mono (by simp; omega))) (by omega) _) (hb3.mono (by simp; omega))⟩

set_option maxHeartbeats 1000000 in
theorem on_law_good (y m k wk n : Int) (w : World) (h : Cv.onE y m k wk n = 0) :
    Calls Try.prog 6 #[.int .i64 y, .int .i64 m, .agg #[.int .i64 k, .int .i64 wk, .int .i64 n]] w fun e w' => e = .returned (.bool true) ∧ Below w.heap.size w w' := by
  have H := hid h
  clear h
  go_enter Try.func6, Try.ntmps6
  go_wp2_with fail
  refine (on_good _ _ _ _ _ _ H.out).mono ?_
  rintro e w1 ⟨a, b, c, rfl, hv, hn, hb1⟩
  have HV := hid hv
  have HN := hid hn
  clear hv hn
  obtain ⟨hc1, hz1⟩ := bcell hb1
  have s1 := hb1.size
  simp at s1
  have t1 : w.heap.size < w1.heap.size := by omega
  go_wp2_with fail
  refine (ron_good _ _ _ _ _ _ H.out).mono ?_
  rintro e w2 ⟨a', b', c', rfl, hv, hn, hb2⟩
  obtain ⟨rfl, rfl, rfl⟩ := Cv.num_inj hv HV.out (hn.trans HN.out.symm)
  clear hv hn HV HN
  obtain ⟨hc2, hz2⟩ := bcell hb2
  have s2 := hb2.size
  simp at s2
  have t2 : w1.heap.size < w2.heap.size := by omega
  go_wp2_with fail
  refine (begun_any _).mono ?_
  rintro e w3 ⟨rfl, hb3⟩
  obtain ⟨hc3, hz3⟩ := bcell hb3
  have s3 := hb3.size
  simp at s3
  have t3 : w1.heap.size < w2.heap.size + 1 := by omega
  go_wp2
  go_ret
  exact ⟨rfl, Below.trans (Below.alloc (Below.trans (Below.alloc (Below.trans ((Below.refl _ _).alloc (Nat.le_refl _) _) (hb1.mono (by simp))) (by omega) _) (hb2.mono (by simp; omega))) (by omega) _) (hb3.mono (by simp; omega))⟩

theorem on_walk (y : Int) (_ : (Lit.int .i64 y).wf = true) (m : Int) (_ : (Lit.int .i64 m).wf = true) (k wk n : Int) (w : World) :
    Calls Try.prog 6 #[.int .i64 y, .int .i64 m, .agg #[.int .i64 k, .int .i64 wk, .int .i64 n]] w fun e w' => e = .returned (.bool true) ∧ Below w.heap.size w w' := by
  by_cases h : Cv.onE y m k wk n = 0
  · exact on_law_good y m k wk n w h
  · have := Cv.onE_bd y m k wk n
    exact on_law_bad y m k wk n _ w rfl (by omega)

set_option maxRecDepth 100000 in
theorem on_lifted (os : Os) (started : os.Started) (H : Type) (enc : TypeId × Value → H) :
    ReturnsInHanded {} Try.checked os 6 .any (Rows.civilOnSpec.pre6 enc Try.prog Try.f6 Rows.civilOnRow.domain false) (Rows.civilOnSpec.post enc Try.prog Try.f6 false true false false) := by
  refine returnsInHanded_of_change (C := Try.checked) own started (by kernel_rfl) Try.func6
    (ChangeSpec.witness6 (enc := enc) (C := Try.checked) false ⟨#[], #[.int .i64 0, .int .i64 0, .agg #[.int .i64 0, .int .i64 0, .int .i64 0]], []⟩ 8 (by kernel_rfl) (by kernel_rfl) (by kernel_rfl) (by kernel_rfl)) ?_
  intro W base args ds gs before hval0 hW hcnd _
  have hval : ∀ (j : Nat) t v, Try.f6.params[j]? = some t → args[j]? = some v → Value.okWide Try.prog W .any base t v := hval0
  have hW' := hW
  obtain ⟨p, q, hA0, hV, rfl, hfz, hnd⟩ := hW
  have hA : DataW.TrodAll enc Try.prog W 0 (fun _ => true) true Try.f6.params.toList args.toList ds p := hA0
  rw [Try.params6] at hA hval
  obtain ⟨v0, v1, v2, d0, d1, d2, p0, p1, p2, rfl, rfl, rfl, h0, h1, h2⟩ := trodAll_three hA
  obtain ⟨rfl, rfl⟩ := trodVars_none hV
  obtain ⟨a0, rfl, rfl, rfl, w0⟩ := open_int Try.underlying3 (hval 0 3 v0 rfl rfl) h0
  obtain ⟨a1, rfl, rfl, rfl, w1⟩ := open_int Try.underlying3 (hval 1 3 v1 rfl rfl) h1
  obtain ⟨⟨a2, b2, c2, rfl⟩, lt2⟩ := open_form (hval 2 38 v2 rfl rfl) h2
  clear hA0 hval0
  refine (on_walk a0 w0 a1 w1 a2 b2 c2 W).mono fun e W' ⟨he, bel⟩ => ?_
  subst he
  exact ⟨_, rfl, _, _, _, [], _, [], hW', trodAll_mk1 (shut_bool Try.underlying4 _), trodAll_mk3 (shut_int Try.underlying3 w0) (shut_int Try.underlying3 w1) (form_stays h2 bel lt2), rfl, bel.frame _, fun h => by cases h⟩

theorem on_holds : Rows.CivilOnSaid :=
  OpenClaim.holds_of_wide 6 Try.f6 rfl rfl rfl rfl rfl rfl rfl ⟨rfl, rfl, rfl, rfl, rfl⟩ rfl rfl rfl rfl rfl (by kernel_rfl) Try.func6 (by kernel_rfl)
    (of_decide_eq_true (by kernel_rfl)) (by unfold Func.isWrapper; first | (rw [if_pos (by decide +kernel)]; kernel_rfl) | (rw [if_neg (by decide +kernel)]; exact ⟨rfl, rfl⟩))
    (fun os started H enc _ => on_lifted os started H enc)
#print axioms on_holds
end Go.Proofs.Ytodnokopfknmnaa
