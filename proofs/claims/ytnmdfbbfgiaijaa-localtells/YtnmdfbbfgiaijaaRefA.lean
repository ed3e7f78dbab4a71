/- Contracts of the document's own functions over days. -/
import Derived.Test.YtnmdfbbfgiaijaaCalRef
import Derived.Test.YtnmdfbbfgiaijaaSxC
namespace Go.Proofs.Ytnmdfbbfgiaijaa
set_option linter.unusedVariables false
set_option linter.unusedSimpArgs false
open Go.RowKit


set_option maxHeartbeats 400000 in
theorem rLeap_any (y : Int) (w : World) (h1 : 0 ≤ y) (h2 : y ≤ 20000) :
    Calls Try.prog 42 #[.int .i64 y] w fun e w' => e = .returned (.bool (Cv.lpB y)) ∧ w' = w := by
  by_cases a : y % 4 = 0 <;> by_cases b : y % 100 = 0 <;> by_cases c : y % 400 = 0
  all_goals
    have hh : Hid (Cv.lpB y = decide (y % 4 = 0 ∧ (y % 100 ≠ 0 ∨ y % 400 = 0))) := rfl
    go_enter Try.func42, Try.ntmps42
    go_wp2
    go_ret
    exact ⟨ret_bool (by rw [hh.out]; simp [a, b, c]; try omega), rfl⟩

set_option maxHeartbeats 800000 in
theorem rMonth_any (y m : Int) (w : World) (h1 : 0 ≤ y) (h2 : y ≤ 20000) :
    Calls Try.prog 25 #[.int .i64 y, .int .i64 m] w fun e w' => e = .returned (.int .i64 (Cv.dim y m)) ∧ w' = w := by
  have hh : Hid (Cv.dim y m = if m = 4 ∨ m = 6 ∨ m = 9 ∨ m = 11 then 30 else if m = 2 then (if Cv.lpB y = true then 29 else 28) else 31) := rfl
  by_cases a : m = 4
  · go_enter Try.func25, Try.ntmps25
    go_wp2
    go_ret
    exact ⟨ret_int (by rw [hh.out]; simp [a]), rfl⟩
  by_cases b : m = 6
  · go_enter Try.func25, Try.ntmps25
    go_wp2
    go_ret
    exact ⟨ret_int (by rw [hh.out]; simp [b]), rfl⟩
  by_cases c : m = 9
  · go_enter Try.func25, Try.ntmps25
    go_wp2
    go_ret
    exact ⟨ret_int (by rw [hh.out]; simp [c]), rfl⟩
  by_cases d : m = 11
  · go_enter Try.func25, Try.ntmps25
    go_wp2
    go_ret
    exact ⟨ret_int (by rw [hh.out]; simp [d]), rfl⟩
  by_cases g : m = 2
  · cases hl : Cv.lpB y
    all_goals
      have hl' := hid hl
      clear hl
      go_enter Try.func25, Try.ntmps25
      go_wp2_with (go_at_call 42; refine (rLeap_any y _ h1 h2).mono ?_; rintro e w' ⟨rfl, rfl⟩; rw [hl'.out])
      go_ret
      exact ⟨ret_int (by rw [hh.out]; simp [g, hl'.out]), rfl⟩
  · go_enter Try.func25, Try.ntmps25
    go_wp2
    go_ret
    exact ⟨ret_int (by rw [hh.out]; simp [a, b, c, d, g]), rfl⟩

set_option maxHeartbeats 1000000 in
theorem rDays_any (y m d : Int) (w : World) (y1 : 1 ≤ y) (y2 : y ≤ 10000) (m1 : 1 ≤ m) (m2 : m ≤ 12) (d1 : 0 ≤ d) (d2 : d ≤ 31) :
    Calls Try.prog 28 #[.agg #[.int .i64 y, .int .i64 m, .int .i64 d]] w fun e w' => e = .returned (.int .i64 (Cv.num y m d)) ∧ Below w.heap.size w w' := by
  by_cases h : m < 3
  · have hh : Hid (Cv.num y m d = (y - 1) / 400 * 146097 + (y - 1) % 400 * 365 + (y - 1) % 400 / 4 - (y - 1) % 400 / 100 + (153 * (m - 3 + 12) + 2) / 5 + d - 1 - 719468) := (Cv.rday_early y m d m1 h).symm
    go_enter Try.func28, Try.ntmps28
    go_wp2_with fail
    go_quiet (fail)
    go_wp2
    go_ret
    exact ⟨ret_int (by rw [hh.out]), below_drewN ((Below.refl _ _).alloc (Nat.le_refl _) _) _⟩
  · have hh : Hid (Cv.num y m d = y / 400 * 146097 + y % 400 * 365 + y % 400 / 4 - y % 400 / 100 + (153 * (m - 3) + 2) / 5 + d - 1 - 719468) := (Cv.rday_late y m d (by omega) m2).symm
    go_enter Try.func28, Try.ntmps28
    go_wp2_with fail
    go_quiet (fail)
    go_wp2
    go_ret
    exact ⟨ret_int (by rw [hh.out]), below_drewN ((Below.refl _ _).alloc (Nat.le_refl _) _) _⟩
end Go.Proofs.Ytnmdfbbfgiaijaa
