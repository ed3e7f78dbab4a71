/- The contract of the document's OnOf. -/
import Derived.Test.YtodnokopfknmnaaRefB
namespace Go.Proofs.Ytodnokopfknmnaa
open Go.RowKit
set_option linter.unusedVariables false
set_option linter.unusedSimpArgs false

theorem fin2 {w : World} {o1 o2 : Obj} : Below w.heap.size w ((w.alloc o1).alloc o2) := ((Below.refl _ _).alloc (Nat.le_refl _) _).alloc (by simp) _

set_option maxHeartbeats 1000000 in
theorem ron_mon (y m k wk n : Int) (w : World) (h : Cv.monB y m = false) :
    Calls Try.prog 20 #[.int .i64 y, .int .i64 m, .agg #[.int .i64 k, .int .i64 wk, .int .i64 n]] w fun e w' => e = .returned (.tuple #[.agg #[.int .i64 0, .int .i64 0, .int .i64 0], .int .i64 3]) ∧ Below w.heap.size w w' := by
  have v : ¬ (1 ≤ y ∧ y ≤ 9999 ∧ 1 ≤ m ∧ m ≤ 12) := fun k => by rw [Cv.mon_iff.2 k] at h; cases h
  clear h
  by_cases a : 1 ≤ y ∧ y ≤ 9999
  · have B : Hid (decide (1 ≤ m ∧ m ≤ 12) = false) := decide_eq_false (by omega)
    have A : Hid (decide (1 ≤ y ∧ y ≤ 9999) = true) := decide_eq_true a
    clear v a
    go_enter Try.func20, Try.ntmps20
    go_wp2_with fail
    refine (between_is _ _ _ _ A.out).mono ?_
    rintro e w1 ⟨rfl, rfl⟩
    go_wp2_with fail
    refine (between_is _ _ _ _ B.out).mono ?_
    rintro e w1 ⟨rfl, rfl⟩
    go_wp2
    exact bodyPost_ret (v := .tuple #[.agg #[.int .i64 0, .int .i64 0, .int .i64 0], .int .i64 3]) (by simp [results, Try.results20, go_sem]) rfl ⟨rfl, fin2⟩
  · have A : Hid (decide (1 ≤ y ∧ y ≤ 9999) = false) := decide_eq_false a
    clear v a
    go_enter Try.func20, Try.ntmps20
    go_wp2_with fail
    refine (between_is _ _ _ _ A.out).mono ?_
    rintro e w1 ⟨rfl, rfl⟩
    go_wp2
    exact bodyPost_ret (v := .tuple #[.agg #[.int .i64 0, .int .i64 0, .int .i64 0], .int .i64 3]) (by simp [results, Try.results20, go_sem]) rfl ⟨rfl, fin2⟩

set_option maxHeartbeats 1000000 in
theorem ron_kind (y m k wk n : Int) (w : World) (h : Cv.monB y m = true) (hk : k < 1 ∨ 4 < k) :
    Calls Try.prog 20 #[.int .i64 y, .int .i64 m, .agg #[.int .i64 k, .int .i64 wk, .int .i64 n]] w fun e w' => e = .returned (.tuple #[.agg #[.int .i64 0, .int .i64 0, .int .i64 0], .int .i64 7]) ∧ Below w.heap.size w w' := by
  obtain ⟨m1, m2, m3, m4⟩ := Cv.mon_iff.1 h
  have A : Hid (decide (1 ≤ k ∧ k ≤ 4) = false) := decide_eq_false (by omega)
  clear h hk
  go_enter Try.func20, Try.ntmps20
  go_wp2_with fail
  refine (between_is _ _ _ _ (decide_eq_true ⟨m1, m2⟩)).mono ?_
  rintro e w1 ⟨rfl, rfl⟩
  go_wp2_with fail
  refine (between_is _ _ _ _ (decide_eq_true ⟨m3, m4⟩)).mono ?_
  rintro e w1 ⟨rfl, rfl⟩
  go_wp2_with fail
  refine (between_is _ _ _ _ A.out).mono ?_
  rintro e w1 ⟨rfl, rfl⟩
  go_wp2
  exact bodyPost_ret (v := .tuple #[.agg #[.int .i64 0, .int .i64 0, .int .i64 0], .int .i64 7]) (by simp [results, Try.results20, go_sem]) rfl ⟨rfl, fin2⟩

/- the ways on which a form does not fit -/
set_option maxHeartbeats 1000000 in
theorem ron_wk (y m k wk n : Int) (w : World) (h : Cv.monB y m = true) (k1 : 1 ≤ k) (k2 : k ≤ 4) (hw : ¬ (0 ≤ wk ∧ wk ≤ 6) ∨ (k = 1 ∧ wk ≠ 0)) :
    Calls Try.prog 20 #[.int .i64 y, .int .i64 m, .agg #[.int .i64 k, .int .i64 wk, .int .i64 n]] w fun e w' => e = .returned (.tuple #[.agg #[.int .i64 0, .int .i64 0, .int .i64 0], .int .i64 3]) ∧ Below w.heap.size w w' := by
  obtain ⟨m1, m2, m3, m4⟩ := Cv.mon_iff.1 h
  clear h
  by_cases a : 0 ≤ wk ∧ wk ≤ 6
  · have A : Hid (decide (0 ≤ wk ∧ wk ≤ 6) = true) := decide_eq_true a
    have b : k = 1 ∧ wk ≠ 0 := by omega
    obtain ⟨b1, b2⟩ := b
    have b1' : (k == 1) = true := by simp [b1]
    have b2' : (wk != 0) = true := by simp [b2]
    clear a hw b1 b2
    go_enter Try.func20, Try.ntmps20
    go_wp2_with fail
    refine (between_is _ _ _ _ (decide_eq_true ⟨m1, m2⟩)).mono ?_
    rintro e w1 ⟨rfl, rfl⟩
    go_wp2_with fail
    refine (between_is _ _ _ _ (decide_eq_true ⟨m3, m4⟩)).mono ?_
    rintro e w1 ⟨rfl, rfl⟩
    go_wp2_with fail
    refine (between_is _ _ _ _ (decide_eq_true ⟨k1, k2⟩)).mono ?_
    rintro e w1 ⟨rfl, rfl⟩
    go_wp2_with fail
    refine (between_is _ _ _ _ A.out).mono ?_
    rintro e w1 ⟨rfl, rfl⟩
    go_wp2
    exact bodyPost_ret (v := .tuple #[.agg #[.int .i64 0, .int .i64 0, .int .i64 0], .int .i64 3]) (by simp [results, Try.results20, go_sem]) rfl ⟨rfl, fin2⟩
  · have A : Hid (decide (0 ≤ wk ∧ wk ≤ 6) = false) := decide_eq_false a
    clear a hw
    go_enter Try.func20, Try.ntmps20
    go_wp2_with fail
    refine (between_is _ _ _ _ (decide_eq_true ⟨m1, m2⟩)).mono ?_
    rintro e w1 ⟨rfl, rfl⟩
    go_wp2_with fail
    refine (between_is _ _ _ _ (decide_eq_true ⟨m3, m4⟩)).mono ?_
    rintro e w1 ⟨rfl, rfl⟩
    go_wp2_with fail
    refine (between_is _ _ _ _ (decide_eq_true ⟨k1, k2⟩)).mono ?_
    rintro e w1 ⟨rfl, rfl⟩
    go_wp2_with fail
    refine (between_is _ _ _ _ A.out).mono ?_
    rintro e w1 ⟨rfl, rfl⟩
    go_wp2
    exact bodyPost_ret (v := .tuple #[.agg #[.int .i64 0, .int .i64 0, .int .i64 0], .int .i64 3]) (by simp [results, Try.results20, go_sem]) rfl ⟨rfl, fin2⟩
end Go.Proofs.Ytodnokopfknmnaa
