/- Contracts of yearAt and Of. -/
import Derived.Test.YtnmdfbbfgiaijaaCivA
namespace Go.Proofs.Ytnmdfbbfgiaijaa
open Go.RowKit

set_option maxHeartbeats 1000000 in
theorem yearAt_any (n : Int) (w : World) (h1 : 0 ≤ n) (h2 : n < 3652059) :
    Calls Try.prog 32 #[.int .i64 n] w fun e w' => ∃ y : Int, e = .returned (.int .i64 y) ∧ 1 ≤ y ∧ y ≤ 9999 ∧ Cv.dby y ≤ n ∧ n < Cv.dby (y + 1) ∧ w' = w := by
  obtain ⟨g1, g2, g3⟩ := Cv.guess_le n h1 h2
  have G3 := hid g3
  clear g3
  go_enter Try.func32, Try.ntmps32
  go_wp2_with fail
  go_loop [3] (fun t => ∃ y : Int, 1 ≤ y ∧ y ≤ 9999 ∧ Cv.dby y ≤ n ∧ t = .int .i64 y) (fun t => (9999 - intOf t).toNat)
  case atStart => exact ⟨_, g1, g2, G3.out, rfl⟩
  case round =>
    obtain ⟨y, y1, y2, y3, rfl⟩ := hrel
    clear g1 g2 G3
    by_cases hc : Cv.dby (y + 1) ≤ n
    · have y9 := Cv.year_lt h2 hc
      go_wp2_with (go_at_call 33; refine (daysAhead_any _ _ (by omega) (by omega)).mono ?_; rintro e w' ⟨rfl, rfl⟩)
      go_round
      case rel => exact ⟨y + 1, by omega, by omega, hc, rfl⟩
      case measure => simp [intOf]; omega
    · have hc' : n < Cv.dby (y + 1) := by omega
      go_wp2_with (go_at_call 33; refine (daysAhead_any _ _ (by omega) (by omega)).mono ?_; rintro e w' ⟨rfl, rfl⟩)
      go_ret
      exact ⟨y, rfl, y1, y2, y3, hc', rfl⟩

set_option maxHeartbeats 400000 in
theorem of_no (n : Int) (w : World) (h : n < -719162 ∨ 2932896 < n) :
    Calls Try.prog 17 #[.int .i64 n] w fun e w' => e = .returned (.tuple #[.agg #[.int .i64 0, .int .i64 0, .int .i64 0], .int .i64 3]) ∧ Below w.heap.size w w' := by
  rcases h with h | h
  · go_enter Try.func17, Try.ntmps17
    go_wp2
    exact bodyPost_ret (v := .tuple #[.agg #[.int .i64 0, .int .i64 0, .int .i64 0], .int .i64 3]) (by simp [results, Try.results17, go_sem]) rfl ⟨rfl, (Below.refl _ _).alloc (Nat.le_refl _) _⟩
  · have h' : ¬ n < -719162 := by omega
    go_enter Try.func17, Try.ntmps17
    go_wp2
    exact bodyPost_ret (v := .tuple #[.agg #[.int .i64 0, .int .i64 0, .int .i64 0], .int .i64 3]) (by simp [results, Try.results17, go_sem]) rfl ⟨rfl, (Below.refl _ _).alloc (Nat.le_refl _) _⟩

theorem num_of (n y k : Int) : Cv.num y k (n + 719162 - Cv.dby y - Cv.cum y k + 1) = n := by unfold Cv.num; omega
set_option maxHeartbeats 1000000 in
theorem of_yes (n : Int) (w : World) (h1 : -719162 ≤ n) (h2 : n ≤ 2932896) :
    Calls Try.prog 17 #[.int .i64 n] w fun e w' => ∃ y m d : Int, e = .returned (.tuple #[.agg #[.int .i64 y, .int .i64 m, .int .i64 d], .int .i64 0]) ∧ Cv.vldB y m d = true ∧ Cv.num y m d = n ∧ Below w.heap.size w w' := by
  go_enter Try.func17, Try.ntmps17
  go_wp2_with fail
  refine (yearAt_any _ _ (by omega) (by omega)).mono ?_
  rintro e w' ⟨y, rfl, y1, y2, y3, y4, rfl⟩
  have hb := Cv.dby_bd y y1 (by omega)
  go_wp2_with (go_at_call 33; refine (daysAhead_any _ _ (by omega) (by omega)).mono ?_; rintro e w' ⟨rfl, rfl⟩)
  go_loop [4, 6] (fun r k => ∃ m : Int, 1 ≤ m ∧ m ≤ 12 ∧ k = .int .i64 m ∧ 0 ≤ n + 719162 - Cv.dby y - Cv.cum y m ∧ r = .int .i64 (n + 719162 - Cv.dby y - Cv.cum y m)) (fun _ k => (12 - intOf k).toNat)
  case atStart => exact ⟨1, by omega, by omega, rfl, by rw [Cv.cum_one]; omega, by rw [Cv.cum_one]; go_num⟩
  case round =>
    obtain ⟨m, m1, m2, rfl, hr, rfl⟩ := hrel
    have cb := Cv.cum_bd y m m1 (by omega)
    have db := Cv.dim_bd y m
    have cs : Hid (Cv.cum y (m + 1) = Cv.cum y m + Cv.dim y m) := Cv.cum_succ y m m1 m2
    by_cases hd : Cv.dim y m ≤ n + 719162 - Cv.dby y - Cv.cum y m
    · have hm : m < 12 := by
        by_cases e : m = 12
        · subst e
          have c := cs.out
          have h13 := Cv.cum_13 y
          have e13 : (12 : Int) + 1 = 13 := rfl
          rw [e13] at c
          have ds := Cv.dby_succ y
          omega
        · omega
      go_wp2_with (go_at_call 34; refine (monthDays_any _ _ _ (by omega) (by omega)).mono ?_; rintro e w' ⟨rfl, rfl⟩)
      go_round
      case rel => exact ⟨m + 1, by omega, by omega, rfl, by rw [cs.out]; omega, by rw [cs.out]; go_num⟩
      case measure => simp [intOf]; omega
    · have hv : n + 719162 - Cv.dby y - Cv.cum y m < Cv.dim y m := by omega
      have V : Hid (Cv.vldB y m (n + 719162 - Cv.dby y - Cv.cum y m + 1) = true) := Cv.vld_iff.2 (by omega)
      go_wp2_with (go_at_call 34; refine (monthDays_any _ _ _ (by omega) (by omega)).mono ?_; rintro e w' ⟨rfl, rfl⟩)
      refine bodyPost_ret (v := .tuple #[.agg #[.int .i64 y, .int .i64 m, .int .i64 (n + 719162 - Cv.dby y - Cv.cum y m + 1)], .int .i64 0]) (by simp [results, Try.results17, go_sem]) rfl ⟨y, m, _, rfl, V.out, num_of n y m, ?_⟩
      exact (Below.refl _ _).alloc (Nat.le_refl _) _
end Go.Proofs.Ytnmdfbbfgiaijaa
