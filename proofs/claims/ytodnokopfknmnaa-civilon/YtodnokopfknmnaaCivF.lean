/- The contract of On. -/
import Derived.Test.YtodnokopfknmnaaCivE
namespace Go.Proofs.Ytodnokopfknmnaa
open Go.RowKit

set_option maxHeartbeats 1000000 in
theorem on_mon (y m k wk n : Int) (w : World) (h : Cv.monB y m = false) :
    Calls Try.prog 19 #[.int .i64 y, .int .i64 m, .agg #[.int .i64 k, .int .i64 wk, .int .i64 n]] w fun e w' => e = .returned (.tuple #[.agg #[.int .i64 0, .int .i64 0, .int .i64 0], .int .i64 3]) ∧ Below w.heap.size w w' := by
  have H := hid h
  clear h
  go_enter Try.func19, Try.ntmps19
  go_wp2_with (go_at_call 21; refine (isMonth_is _ _ _ H.out).mono ?_; rintro e w1 ⟨rfl, rfl⟩)
  refine bodyPost_ret (v := .tuple #[.agg #[.int .i64 0, .int .i64 0, .int .i64 0], .int .i64 3]) (by simp [results, Try.results19, go_sem]) rfl ⟨rfl, ?_⟩
  exact (((Below.refl _ _).alloc (Nat.le_refl _) _).alloc (by simp) _)

set_option maxHeartbeats 1000000 in
theorem on_kind (y m k wk n : Int) (w : World) (h : Cv.monB y m = true) (hk : k < 1 ∨ 4 < k) :
    Calls Try.prog 19 #[.int .i64 y, .int .i64 m, .agg #[.int .i64 k, .int .i64 wk, .int .i64 n]] w fun e w' => e = .returned (.tuple #[.agg #[.int .i64 0, .int .i64 0, .int .i64 0], .int .i64 7]) ∧ Below w.heap.size w w' := by
  have H := hid h
  clear h
  rcases hk with hk | hk
  all_goals
    go_enter Try.func19, Try.ntmps19
    go_wp2_with (go_at_call 21; refine (isMonth_is _ _ _ H.out).mono ?_; rintro e w1 ⟨rfl, rfl⟩)
    refine bodyPost_ret (v := .tuple #[.agg #[.int .i64 0, .int .i64 0, .int .i64 0], .int .i64 7]) (by simp [results, Try.results19, go_sem]) rfl ⟨rfl, ?_⟩
    exact (((Below.refl _ _).alloc (Nat.le_refl _) _).alloc (by simp) _)

theorem fits_is (k wk n len : Int) (w : World) {b : Bool} (h : Cv.fitB k wk n len = b) :
    Calls Try.prog 28 #[.agg #[.int .i64 k, .int .i64 wk, .int .i64 n], .int .i64 len] w fun e w' => e = .returned (.bool b) ∧ Below w.heap.size w w' := by
  subst h; exact fits_any k wk n len w

set_option maxHeartbeats 1000000 in
theorem on_fit (y m k wk n : Int) (w : World) (h : Cv.monB y m = true) (k1 : 1 ≤ k) (k2 : k ≤ 4) (hf : Cv.fitB k wk n (Cv.dim y m) = false) :
    Calls Try.prog 19 #[.int .i64 y, .int .i64 m, .agg #[.int .i64 k, .int .i64 wk, .int .i64 n]] w fun e w' => e = .returned (.tuple #[.agg #[.int .i64 0, .int .i64 0, .int .i64 0], .int .i64 3]) ∧ Below w.heap.size w w' := by
  have H := hid h
  have F := hid hf
  obtain ⟨m1, m2, m3, m4⟩ := Cv.mon_iff.1 h
  clear h hf
  go_enter Try.func19, Try.ntmps19
  go_wp2_with (go_at_call 21; refine (isMonth_is _ _ _ H.out).mono ?_; rintro e w1 ⟨rfl, rfl⟩)
  go_region_with (first | (go_at_call 22; refine (monthDays_any _ _ _ (by omega) (by omega)).mono ?_; rintro e w1 ⟨rfl, rfl⟩) | (go_at_call 28; refine (fits_is _ _ _ _ _ F.out).mono ?_; rintro e w2 ⟨rfl, hb⟩))
  all_goals
    obtain ⟨hc, hz⟩ := bcell hb
    have hs := hb.size
    simp at hs
    have hs1 : w.heap.size + 1 < w2.heap.size := by omega
    go_wp2
    refine bodyPost_ret (v := .tuple #[.agg #[.int .i64 0, .int .i64 0, .int .i64 0], .int .i64 3]) (by simp [results, Try.results19, go_sem, hc]) rfl ⟨rfl, ?_⟩
    refine Below.setCell (Below.setCell (Below.setCell (Below.trans ?_ (hb.mono (by simp; omega))) (by simp) _) (by simp) _) (by simp) _
    repeat (first | exact Below.refl _ _ | refine Below.drew ?_ | refine Below.alloc ?_ (by simp) _)

set_option maxHeartbeats 1000000 in
theorem on_out (y m k wk n : Int) (w : World) (h : Cv.monB y m = true) (k1 : 1 ≤ k) (k2 : k ≤ 4) (hf : Cv.fitB k wk n (Cv.dim y m) = true) (ht : Cv.tgt y m k wk n < -719162 ∨ 2932896 < Cv.tgt y m k wk n) :
    Calls Try.prog 19 #[.int .i64 y, .int .i64 m, .agg #[.int .i64 k, .int .i64 wk, .int .i64 n]] w fun e w' => e = .returned (.tuple #[.agg #[.int .i64 0, .int .i64 0, .int .i64 0], .int .i64 3]) ∧ Below w.heap.size w w' := by
  have H := hid h
  have F := hid hf
  have T := hid ht
  obtain ⟨m1, m2, m3, m4⟩ := Cv.mon_iff.1 h
  clear h hf ht
  go_enter Try.func19, Try.ntmps19
  go_wp2_with (go_at_call 21; refine (isMonth_is _ _ _ H.out).mono ?_; rintro e w1 ⟨rfl, rfl⟩)
  go_region_with (first | (go_at_call 22; refine (monthDays_any _ _ _ (by omega) (by omega)).mono ?_; rintro e w1 ⟨rfl, rfl⟩) | (go_at_call 28; refine (fits_is _ _ _ _ _ F.out).mono ?_; rintro e w2 ⟨rfl, hb⟩))
  all_goals
    obtain ⟨hc, hz⟩ := bcell hb
    have hs := hb.size
    simp at hs
    have hs1 : w.heap.size + 1 < w2.heap.size := by omega
    go_wp2_with fail
    refine (formDays_any _ _ _ _ _ _ H.out F.out).mono ?_
    rintro e w3 ⟨rfl, hb3⟩
    obtain ⟨hc3, hz3⟩ := bcell hb3
    have hs3 : w.heap.size + 1 < w3.heap.size := Nat.lt_of_lt_of_le hs1 hb3.size
    go_wp2_with fail
    refine (of_no _ _ T.out).mono ?_
    rintro e w4 ⟨rfl, hb4⟩
    obtain ⟨hc4, hz4⟩ := bcell hb4
    go_wp2
    refine bodyPost_ret (v := .tuple #[.agg #[.int .i64 0, .int .i64 0, .int .i64 0], .int .i64 3]) (by simp [results, Try.results19, go_sem, hc, hc3, hc4, hs1, hs3]) rfl ⟨rfl, ?_⟩
    refine Below.setCell (Below.setCell (Below.setCell (Below.trans (Below.trans (Below.trans ?_ (hb.mono (by simp; omega))) (hb3.mono (by omega))) (hb4.mono (by omega))) (by simp) _) (by simp) _) (by simp) _
    repeat (first | exact Below.refl _ _ | refine Below.drew ?_ | refine Below.alloc ?_ (by simp) _)

set_option maxHeartbeats 1000000 in
theorem on_good (y m k wk n : Int) (w : World) (h : Cv.onE y m k wk n = 0) :
    Calls Try.prog 19 #[.int .i64 y, .int .i64 m, .agg #[.int .i64 k, .int .i64 wk, .int .i64 n]] w fun e w' => ∃ a b c : Int, e = .returned (.tuple #[.agg #[.int .i64 a, .int .i64 b, .int .i64 c], .int .i64 0]) ∧ Cv.vldB a b c = true ∧ Cv.num a b c = Cv.tgt y m k wk n ∧ Below w.heap.size w w' := by
  obtain ⟨h, k1, k2, hf, t1, t2⟩ := Cv.onE_zero h
  have H := hid h
  have F := hid hf
  obtain ⟨m1, m2, m3, m4⟩ := Cv.mon_iff.1 h
  clear h hf
  go_enter Try.func19, Try.ntmps19
  go_wp2_with (go_at_call 21; refine (isMonth_is _ _ _ H.out).mono ?_; rintro e w1 ⟨rfl, rfl⟩)
  go_region_with (first | (go_at_call 22; refine (monthDays_any _ _ _ (by omega) (by omega)).mono ?_; rintro e w1 ⟨rfl, rfl⟩) | (go_at_call 28; refine (fits_is _ _ _ _ _ F.out).mono ?_; rintro e w2 ⟨rfl, hb⟩))
  all_goals
    obtain ⟨hc, hz⟩ := bcell hb
    have hs := hb.size
    simp at hs
    have hs1 : w.heap.size + 1 < w2.heap.size := by omega
    go_wp2_with fail
    refine (formDays_any _ _ _ _ _ _ H.out F.out).mono ?_
    rintro e w3 ⟨rfl, hb3⟩
    obtain ⟨hc3, hz3⟩ := bcell hb3
    have hs3 : w.heap.size + 1 < w3.heap.size := Nat.lt_of_lt_of_le hs1 hb3.size
    go_wp2_with fail
    refine (of_yes _ _ t1 t2).mono ?_
    rintro e w4 ⟨a, b, c, rfl, hv, hn, hb4⟩
    have HV := hid hv
    have HN := hid hn
    clear hv hn
    obtain ⟨hc4, hz4⟩ := bcell hb4
    go_wp2
    refine bodyPost_ret (v := .tuple #[.agg #[.int .i64 a, .int .i64 b, .int .i64 c], .int .i64 0]) (by simp [results, Try.results19, go_sem, hc, hc3, hc4, hs1, hs3]) rfl ⟨a, b, c, rfl, HV.out, HN.out, ?_⟩
    refine Below.setCell (Below.setCell (Below.setCell (Below.trans (Below.trans (Below.trans ?_ (hb.mono (by simp; omega))) (hb3.mono (by omega))) (hb4.mono (by omega))) (by simp) _) (by simp) _) (by simp) _
    repeat (first | exact Below.refl _ _ | refine Below.drew ?_ | refine Below.alloc ?_ (by simp) _)

theorem on_bad (y m k wk n c : Int) (w : World) (h : Cv.onE y m k wk n = c) (hc : c ≠ 0) :
    Calls Try.prog 19 #[.int .i64 y, .int .i64 m, .agg #[.int .i64 k, .int .i64 wk, .int .i64 n]] w fun e w' => e = .returned (.tuple #[.agg #[.int .i64 0, .int .i64 0, .int .i64 0], .int .i64 c]) ∧ Below w.heap.size w w' := by
  unfold Cv.onE at h
  by_cases h1 : Cv.monB y m = false
  · rw [if_pos h1] at h; subst h; exact on_mon y m k wk n w h1
  rw [if_neg h1] at h
  have h1' : Cv.monB y m = true := by simpa using h1
  by_cases h2 : k < 1 ∨ 4 < k
  · rw [if_pos h2] at h; subst h; exact on_kind y m k wk n w h1' h2
  rw [if_neg h2] at h
  by_cases h3 : Cv.fitB k wk n (Cv.dim y m) = false
  · rw [if_pos h3] at h; subst h; exact on_fit y m k wk n w h1' (by omega) (by omega) h3
  rw [if_neg h3] at h
  have h3' : Cv.fitB k wk n (Cv.dim y m) = true := by simpa using h3
  by_cases h4 : Cv.tgt y m k wk n < -719162 ∨ 2932896 < Cv.tgt y m k wk n
  · rw [if_pos h4] at h; subst h; exact on_out y m k wk n w h1' (by omega) (by omega) h3' h4
  rw [if_neg h4] at h
  exact absurd h.symm hc
end Go.Proofs.Ytodnokopfknmnaa
