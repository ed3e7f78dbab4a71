/- Contracts of daysOf and Days. -/
import Derived.Test.YtnmdfbbfgiaijaaCivA
namespace Go.Proofs.Ytnmdfbbfgiaijaa
open Go.RowKit

set_option maxHeartbeats 1000000 in
theorem daysOf_any (y m d : Int) (w : World) (h : Cv.vldB y m d = true) :
    Calls Try.prog 38 #[.agg #[.int .i64 y, .int .i64 m, .int .i64 d]] w fun e w' => e = .returned (.int .i64 (Cv.num y m d)) ∧ Below w.heap.size w w' := by
  have v := Cv.vld_iff.1 h
  obtain ⟨v1, v2, v3, v4, v5, v6⟩ := v
  have db := Cv.dby_bd y v1 (by omega)
  have dd := Cv.dim_bd y m
  have hh : Hid (Cv.num y m d = Cv.dby y + Cv.cum y m + d - 1 - 719162) := rfl
  have h1 : Hid (Cv.cum y 1 = 0) := Cv.cum_one y
  clear h
  go_enter Try.func38, Try.ntmps38
  go_wp2_with fail
  go_quiet ((go_at_call 33; exact Calls.quiet_of_same (daysAhead_any _ _ (by omega) (by omega))))
  go_wp2_with fail
  go_loop [3, 4] (fun n i => ∃ k : Int, 1 ≤ k ∧ k ≤ m ∧ i = .int .i64 k ∧ n = .int .i64 (Cv.dby y + d - 1 + Cv.cum y k)) (fun _ i => (m - intOf i).toNat)
  case atStart => exact ⟨1, by omega, by omega, rfl, by rw [h1.out]; go_num⟩
  case round =>
    obtain ⟨k, k1, k2, rfl, rfl⟩ := hrel
    have cb := Cv.cum_bd y k k1 (by omega)
    have dk := Cv.dim_bd y k
    have cs : Hid (Cv.cum y (k + 1) = Cv.cum y k + Cv.dim y k) := Cv.cum_succ y k k1 (by omega)
    by_cases hlt : k < m
    · go_wp2_with (go_at_call 34; refine (monthDays_any _ _ _ (by omega) (by omega)).mono ?_; rintro e w' ⟨rfl, rfl⟩)
      go_round
      case rel => exact ⟨k + 1, by omega, by omega, by go_num, by rw [cs.out]; go_num⟩
      case measure => simp [intOf]; omega
    · go_wp2
      go_ret
      refine ⟨ret_int ?_, ?_⟩
      · rw [hh.out, show m = k by omega]; omega
      · exact below_drewN ((Below.refl _ _).alloc (Nat.le_refl _) _) _

set_option maxHeartbeats 1000000 in
theorem days_yes (y m d : Int) (w : World) (h : Cv.vldB y m d = true) :
    Calls Try.prog 19 #[.agg #[.int .i64 y, .int .i64 m, .int .i64 d]] w fun e w' => e = .returned (.tuple #[.int .i64 (Cv.num y m d), .int .i64 0]) ∧ Below w.heap.size w w' := by
  have v := Cv.vld_iff.1 h
  obtain ⟨v1, v2, v3, v4, v5, v6⟩ := v
  have hm : Hid (Cv.monB y m = true) := Cv.mon_iff.2 ⟨v1, v2, v3, v4⟩
  have H : Hid (Cv.vldB y m d = true) := h
  clear h
  go_enter Try.func19, Try.ntmps19
  go_wp2_with fail
  go_quiet ((first | (go_at_call 37; exact Calls.quiet_of_same (isMonth_is _ _ _ hm.out)) | (go_at_call 34; exact Calls.quiet_of_same (monthDays_any _ _ _ (by omega) (by omega)))))
  go_wp2_with (go_at_call 38; refine (daysOf_any _ _ _ _ H.out).mono ?_; rintro e w' ⟨rfl, hb⟩)
  go_ret2
  exact ⟨rfl, (below_drewN ((Below.refl _ _).alloc (Nat.le_refl _) _) _).trans (hb.mono (by simp))⟩

set_option maxHeartbeats 1000000 in
theorem days_no (y m d : Int) (w : World) (h : Cv.vldB y m d = false) :
    Calls Try.prog 19 #[.agg #[.int .i64 y, .int .i64 m, .int .i64 d]] w fun e w' => e = .returned (.tuple #[.int .i64 0, .int .i64 3]) ∧ Below w.heap.size w w' := by
  have v : ¬ (1 ≤ y ∧ y ≤ 9999 ∧ 1 ≤ m ∧ m ≤ 12 ∧ 1 ≤ d ∧ d ≤ Cv.dim y m) := fun k => by rw [Cv.vld_iff.2 k] at h; cases h
  clear h
  cases hm0 : Cv.monB y m
  · have hm := hid hm0
    clear hm0 v
    go_enter Try.func19, Try.ntmps19
    go_wp2_with fail
    go_quiet ((go_at_call 37; exact Calls.quiet_of_same (isMonth_is _ _ _ hm.out)))
    go_wp2
    go_ret2
    exact ⟨rfl, below_drewN ((Below.refl _ _).alloc (Nat.le_refl _) _) _⟩
  · have hm := hid hm0
    have k := Cv.mon_iff.1 hm0
    clear hm0
    obtain ⟨k1, k2, k3, k4⟩ := k
    by_cases hd : d < 1
    · clear v
      go_enter Try.func19, Try.ntmps19
      go_wp2_with fail
      go_quiet ((go_at_call 37; exact Calls.quiet_of_same (isMonth_is _ _ _ hm.out)))
      go_wp2
      go_ret2
      exact ⟨rfl, below_drewN ((Below.refl _ _).alloc (Nat.le_refl _) _) _⟩
    · have hd1 : 1 ≤ d := by omega
      have hd2 : Cv.dim y m < d := by omega
      clear v hd
      go_enter Try.func19, Try.ntmps19
      go_wp2_with fail
      go_quiet ((first | (go_at_call 37; exact Calls.quiet_of_same (isMonth_is _ _ _ hm.out)) | (go_at_call 34; exact Calls.quiet_of_same (monthDays_any _ _ _ (by omega) (by omega)))))
      go_wp2
      go_ret2
      exact ⟨rfl, below_drewN ((Below.refl _ _).alloc (Nat.le_refl _) _) _⟩
end Go.Proofs.Ytnmdfbbfgiaijaa
