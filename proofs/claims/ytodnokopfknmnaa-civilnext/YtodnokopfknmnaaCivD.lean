/- Contracts of upTo, from, fits, formDays and On. -/
import Derived.Test.YtodnokopfknmnaaCivB
import Derived.Test.YtodnokopfknmnaaCivC
import Derived.Test.YtodnokopfknmnaaCalOn
import Derived.Deep.RegionWith
namespace Go.Proofs.Ytodnokopfknmnaa
open Go.RowKit

set_option maxHeartbeats 400000 in
theorem upTo_any (x k : Int) (w : World) (h1 : -1000000 ≤ x) (h2 : x ≤ 4000000) (k1 : 0 ≤ k) (k2 : k ≤ 6) :
    Calls Try.prog 32 #[.int .i64 x, .int .i64 k] w fun e w' => e = .returned (.int .i64 (Cv.upto x k)) ∧ w' = w := by
  have hb := Cv.wd_bd x
  have hh : Hid (Cv.upto x k = x - (Cv.wd x - k + 7) % 7) := rfl
  go_enter Try.func32, Try.ntmps32
  go_wp2_with (go_at_call 11; refine (weekday_any _ _).mono ?_; rintro e w' ⟨rfl, rfl⟩)
  go_ret
  exact ⟨ret_int (by rw [hh.out]; omega), rfl⟩

set_option maxHeartbeats 400000 in
theorem from_any (x k : Int) (w : World) (h1 : -1000000 ≤ x) (h2 : x ≤ 4000000) (k1 : 0 ≤ k) (k2 : k ≤ 6) :
    Calls Try.prog 33 #[.int .i64 x, .int .i64 k] w fun e w' => e = .returned (.int .i64 (Cv.frm x k)) ∧ w' = w := by
  have hb := Cv.wd_bd x
  have hh : Hid (Cv.frm x k = x + (k - Cv.wd x + 7) % 7) := rfl
  go_enter Try.func33, Try.ntmps33
  go_wp2_with (go_at_call 11; refine (weekday_any _ _).mono ?_; rintro e w' ⟨rfl, rfl⟩)
  go_ret
  exact ⟨ret_int (by rw [hh.out]; omega), rfl⟩

theorem fitB_cases (k wk n len : Int) : Hid (Cv.fitB k wk n len = decide (0 ≤ wk ∧ wk ≤ 6 ∧ (k = 2 ∧ n = 0 ∨ k ≠ 2 ∧ ¬ (k = 1 ∧ wk ≠ 0) ∧ 1 ≤ n ∧ n ≤ len))) := rfl
set_option maxHeartbeats 1000000 in
theorem fits_any (k wk n len : Int) (w : World) :
    Calls Try.prog 28 #[.agg #[.int .i64 k, .int .i64 wk, .int .i64 n], .int .i64 len] w fun e w' => e = .returned (.bool (Cv.fitB k wk n len)) ∧ Below w.heap.size w w' := by
  have hh := fitB_cases k wk n len
  by_cases a : wk < 0
  · go_enter Try.func28, Try.ntmps28
    go_wp2
    go_ret
    exact ⟨ret_bool (by rw [hh.out, eq_comm, decide_eq_false_iff_not]; omega), (Below.refl _ _).alloc (Nat.le_refl _) _⟩
  by_cases b : 7 ≤ wk
  · go_enter Try.func28, Try.ntmps28
    go_wp2
    go_ret
    exact ⟨ret_bool (by rw [hh.out, eq_comm, decide_eq_false_iff_not]; omega), (Below.refl _ _).alloc (Nat.le_refl _) _⟩
  by_cases c : k = 2
  · have c' : (k == 2) = true := by simp [c]
    have C := hid c
    clear c
    by_cases d : n = 0
    · have d' : (n == 0) = true := by simp [d]
      have D := hid d
      clear d
      go_enter Try.func28, Try.ntmps28
      go_wp2
      go_ret
      exact ⟨ret_bool (by rw [hh.out, eq_comm, decide_eq_true_iff]; have := C.out; have := D.out; omega), (Below.refl _ _).alloc (Nat.le_refl _) _⟩
    · have d' : (n == 0) = false := by simp [d]
      go_enter Try.func28, Try.ntmps28
      go_wp2
      go_ret
      exact ⟨ret_bool (by rw [hh.out, eq_comm, decide_eq_false_iff_not]; have := C.out; omega), (Below.refl _ _).alloc (Nat.le_refl _) _⟩
  have c' : (k == 2) = false := by simp [c]
  by_cases e : k = 1 ∧ wk ≠ 0
  · obtain ⟨e1, e2⟩ := e
    have e1' : (k == 1) = true := by simp [e1]
    have e2' : (wk != 0) = true := by simp [e2]
    have E := hid e1
    clear e1
    go_enter Try.func28, Try.ntmps28
    go_wp2
    go_ret
    exact ⟨ret_bool (by rw [hh.out, eq_comm, decide_eq_false_iff_not]; have := E.out; omega), (Below.refl _ _).alloc (Nat.le_refl _) _⟩
  · by_cases f : 1 ≤ n <;> by_cases g : n ≤ len <;> by_cases e1 : k = 1
    all_goals
      first
        | (have e1' : (k == 1) = true := by simp [e1]
           have e2' : (wk != 0) = false := by simp; omega
           have E := hid e1
           clear e1)
        | (have e1' : (k == 1) = false := by simp [e1]
           have E := hid e1
           clear e1)
      have EE := hid e
      clear e
      go_enter Try.func28, Try.ntmps28
      go_wp2
      go_ret
      refine ⟨ret_bool ?_, (Below.refl _ _).alloc (Nat.le_refl _) _⟩
      rw [hh.out, eq_comm]
      have := E.out
      have := EE.out
      first
        | (rw [decide_eq_false_iff_not]; omega)
        | (rw [decide_eq_true_iff]; omega)
        | simp_all
end Go.Proofs.Ytodnokopfknmnaa
