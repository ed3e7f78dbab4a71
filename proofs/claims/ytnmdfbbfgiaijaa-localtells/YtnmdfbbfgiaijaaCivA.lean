/- Contracts of package civil's calls: each function answers what the plain calendar says. -/
import Derived.Test.YtnmdfbbfgiaijaaBa
import Derived.Test.YtnmdfbbfgiaijaaCal
namespace Go.Proofs.Ytnmdfbbfgiaijaa
open Go.RowKit


set_option maxHeartbeats 400000 in
theorem isLeap_any (y : Int) (w : World) (h1 : 0 ≤ y) (h2 : y ≤ 20000) :
    Calls Try.prog 45 #[.int .i64 y] w fun e w' => e = .returned (.bool (Cv.lpB y)) ∧ w' = w := by
  by_cases a : y % 4 = 0 <;> by_cases b : y % 100 = 0 <;> by_cases c : y % 400 = 0
  all_goals
    have hh : Hid (Cv.lpB y = decide (y % 4 = 0 ∧ (y % 100 ≠ 0 ∨ y % 400 = 0))) := rfl
    go_enter Try.func45, Try.ntmps45
    go_wp2
    go_ret
    exact ⟨ret_bool (by rw [hh.out]; simp [a, b, c]), rfl⟩

set_option maxHeartbeats 800000 in
theorem monthDays_any (y m : Int) (w : World) (h1 : 0 ≤ y) (h2 : y ≤ 20000) :
    Calls Try.prog 34 #[.int .i64 y, .int .i64 m] w fun e w' => e = .returned (.int .i64 (Cv.dim y m)) ∧ w' = w := by
  have hh : Hid (Cv.dim y m = if m = 4 ∨ m = 6 ∨ m = 9 ∨ m = 11 then 30 else if m = 2 then (if Cv.lpB y = true then 29 else 28) else 31) := rfl
  by_cases a : m = 4
  · have e : (m == 4) = true := by simp [a]
    go_enter Try.func34, Try.ntmps34
    go_wp2
    go_ret
    exact ⟨ret_int (by rw [hh.out]; simp [a]), rfl⟩
  by_cases b : m = 6
  · go_enter Try.func34, Try.ntmps34
    go_wp2
    go_ret
    exact ⟨ret_int (by rw [hh.out]; simp [b]), rfl⟩
  by_cases c : m = 9
  · go_enter Try.func34, Try.ntmps34
    go_wp2
    go_ret
    exact ⟨ret_int (by rw [hh.out]; simp [c]), rfl⟩
  by_cases d : m = 11
  · go_enter Try.func34, Try.ntmps34
    go_wp2
    go_ret
    exact ⟨ret_int (by rw [hh.out]; simp [d]), rfl⟩
  by_cases g : m = 2
  · cases hl : Cv.lpB y
    all_goals
      have hl' := hid hl
      clear hl
      go_enter Try.func34, Try.ntmps34
      go_wp2_with (go_at_call 45; refine (isLeap_any y _ h1 h2).mono ?_; rintro e w' ⟨rfl, rfl⟩; rw [hl'.out])
      go_ret
      exact ⟨ret_int (by rw [hh.out]; simp [g, hl'.out]), rfl⟩
  · go_enter Try.func34, Try.ntmps34
    go_wp2
    go_ret
    exact ⟨ret_int (by rw [hh.out]; simp [a, b, c, d, g]), rfl⟩

set_option maxHeartbeats 400000 in
theorem daysAhead_any (y : Int) (w : World) (h1 : 1 ≤ y) (h2 : y ≤ 20000) :
    Calls Try.prog 33 #[.int .i64 y] w fun e w' => e = .returned (.int .i64 (Cv.dby y)) ∧ w' = w := by
  have hh : Hid (Cv.dby y = (y - 1) * 365 + (y - 1) / 4 - (y - 1) / 100 + (y - 1) / 400) := rfl
  go_enter Try.func33, Try.ntmps33
  go_wp2
  go_ret
  exact ⟨ret_int (by rw [hh.out]), rfl⟩

set_option maxHeartbeats 400000 in
theorem isMonth_any (y m : Int) (w : World) :
    Calls Try.prog 37 #[.int .i64 y, .int .i64 m] w fun e w' => e = .returned (.bool (Cv.monB y m)) ∧ w' = w := by
  have hh : Hid (Cv.monB y m = decide (1 ≤ y ∧ y ≤ 9999 ∧ 1 ≤ m ∧ m ≤ 12)) := rfl
  by_cases a : 1 ≤ y <;> by_cases b : y ≤ 9999 <;> by_cases c : 1 ≤ m <;> by_cases d : m ≤ 12
  all_goals
    go_enter Try.func37, Try.ntmps37
    go_wp2
    go_ret
    exact ⟨ret_bool (by rw [hh.out]; simp [a, b, c, d]), rfl⟩

theorem isMonth_is (y m : Int) (w : World) {b : Bool} (h : Cv.monB y m = b) :
    Calls Try.prog 37 #[.int .i64 y, .int .i64 m] w fun e w' => e = .returned (.bool b) ∧ w' = w := by
  subst h; exact isMonth_any y m w

end Go.Proofs.Ytnmdfbbfgiaijaa
