/- Contracts of formDays and On. -/
import Derived.Test.YtodnokopfknmnaaCivD
namespace Go.Proofs.Ytodnokopfknmnaa
open Go.RowKit

set_option maxHeartbeats 1000000 in
theorem formDays_any (y m k wk n : Int) (w : World) (h : Cv.monB y m = true) (hf : Cv.fitB k wk n (Cv.dim y m) = true) :
    Calls Try.prog 29 #[.int .i64 y, .int .i64 m, .agg #[.int .i64 k, .int .i64 wk, .int .i64 n]] w fun e w' => e = .returned (.int .i64 (Cv.tgt y m k wk n)) ∧ Below w.heap.size w w' := by
  have hv := hid (Cv.vld_one h)
  have nb := Cv.num_bd hv.out
  obtain ⟨m1, m2, m3, m4⟩ := Cv.mon_iff.1 h
  obtain ⟨f1, f2, f3⟩ := Cv.fit_iff.1 hf
  have F3 := hid f3
  have db := Cv.dim_bd y m
  have n1 : 0 ≤ n ∧ n ≤ 31 := by omega
  have hh : Hid (Cv.tgt y m k wk n = if k = 2 then Cv.upto (Cv.num y m 1 + Cv.dim y m - 1) wk else if k = 3 then Cv.frm (Cv.num y m 1 + n - 1) wk else if k = 4 then Cv.upto (Cv.num y m 1 + n - 1) wk else Cv.num y m 1 + n - 1) := rfl
  clear h hf f3
  by_cases k2 : k = 2
  · have k2' : (k == 2) = true := by simp [k2]
    have K := hid k2
    clear k2
    go_enter Try.func29, Try.ntmps29
    go_wp2_with (go_at_call 23; refine (daysOf_any _ _ _ _ hv.out).mono ?_; rintro e w1 ⟨rfl, hb⟩; obtain ⟨hc, hz⟩ := bcell hb)
    go_quiet ((first | (go_at_call 22; exact Calls.quiet_of_same (monthDays_any _ _ _ (by omega) (by omega))) | (go_at_call 32; exact Calls.quiet_of_same (upTo_any _ _ _ (by omega) (by omega) (by omega) (by omega)))))
    go_wp2
    go_ret
    exact ⟨ret_int (by rw [hh.out, if_pos K.out]), below_drewN (((Below.refl _ _).alloc (Nat.le_refl _) _).trans (hb.mono (by simp))) _⟩
  have k2' : (k == 2) = false := by simp [k2]
  by_cases k3 : k = 3
  · have k3' : (k == 3) = true := by simp [k3]
    have K2 := hid k2
    have K := hid k3
    clear k2 k3
    go_enter Try.func29, Try.ntmps29
    go_wp2_with (first | (go_at_call 23; refine (daysOf_any _ _ _ _ hv.out).mono ?_; rintro e w1 ⟨rfl, hb⟩; obtain ⟨hc, hz⟩ := bcell hb) | (go_at_call 33; refine (from_any _ _ _ (by omega) (by omega) (by omega) (by omega)).mono ?_; rintro e w2 ⟨rfl, rfl⟩))
    go_ret
    exact ⟨ret_int (by rw [hh.out, if_neg K2.out, if_pos K.out]), (((Below.refl _ _).alloc (Nat.le_refl _) _).trans (hb.mono (by simp)))⟩
  have k3' : (k == 3) = false := by simp [k3]
  by_cases k4 : k = 4
  · have k4' : (k == 4) = true := by simp [k4]
    have K2 := hid k2
    have K3 := hid k3
    have K := hid k4
    clear k2 k3 k4
    go_enter Try.func29, Try.ntmps29
    go_wp2_with (first | (go_at_call 23; refine (daysOf_any _ _ _ _ hv.out).mono ?_; rintro e w1 ⟨rfl, hb⟩; obtain ⟨hc, hz⟩ := bcell hb) | (go_at_call 32; refine (upTo_any _ _ _ (by omega) (by omega) (by omega) (by omega)).mono ?_; rintro e w2 ⟨rfl, rfl⟩))
    go_ret
    exact ⟨ret_int (by rw [hh.out, if_neg K2.out, if_neg K3.out, if_pos K.out]), (((Below.refl _ _).alloc (Nat.le_refl _) _).trans (hb.mono (by simp)))⟩
  have k4' : (k == 4) = false := by simp [k4]
  have K2 := hid k2
  have K3 := hid k3
  have K := hid k4
  clear k2 k3 k4
  go_enter Try.func29, Try.ntmps29
  go_wp2_with (go_at_call 23; refine (daysOf_any _ _ _ _ hv.out).mono ?_; rintro e w1 ⟨rfl, hb⟩; obtain ⟨hc, hz⟩ := bcell hb)
  go_ret
  exact ⟨ret_int (by rw [hh.out, if_neg K2.out, if_neg K3.out, if_neg K.out]), (((Below.refl _ _).alloc (Nat.le_refl _) _).trans (hb.mono (by simp)))⟩
end Go.Proofs.Ytodnokopfknmnaa
