/- Part of the proof: CivB CivC CivD CivE. -/
import Derived.Test.YtkhlkohlccndgaaGreatQz
import Derived.Test.YtkhlkohlccndgaaGreatQaa
import Derived.Deep.RegionWith
set_option linter.unusedVariables false
set_option linter.unusedSimpArgs false
set_option maxRecDepth 100000
set_option maxHeartbeats 16000000
namespace Go.Proofs.YtkhlkohlccndgaaGreat
section
open Go.RowKit

theorem jW (y m d : Int) (w : World) (h : Cv.gX y m d = true) :
  Calls Tryz.prog 86 #[.agg #[.int .i64 y, .int .i64 m, .int .i64 d]] w fun e w' => e = .returned (.int .i64 (Cv.num y m d)) ∧ Below w.heap.size w w' := by
 have v := Cv.jg.1 h
 obtain ⟨v1, v2, v3, v4, v5, v6⟩ := v
 have db := Cv.CO y v1 (by omega)
 have dd := Cv.jX y m
 have hh : Hid (Cv.num y m d = Cv.dby y + Cv.cum y m + d - 1 - 719162) := rfl
 have h1 : Hid (Cv.cum y 1 = 0) := Cv.qa y
 clear h
 go_enter Tryz.func86, Tryz.ntmps86
 go_wp2_with fail
 go_quiet ((go_at_call 141; exact Calls.quiet_of_same (jf _ _ (by omega) (by omega))))
 go_wp2_with fail
 go_loop [3, 4] (fun n i => ∃ k : Int, 1 ≤ k ∧ k ≤ m ∧ i = .int .i64 k ∧ n = .int .i64 (Cv.dby y + d - 1 + Cv.cum y k)) (fun _ i => (m - intOf i).toNat)
 case atStart => exact ⟨1, by omega, by omega, rfl, by rw [h1.out]; go_num⟩
 case round =>
  obtain ⟨k, k1, k2, rfl, rfl⟩ := hrel
  have cb := Cv.yP y k k1 (by omega)
  have dk := Cv.jX y k
  have cs : Hid (Cv.cum y (k + 1) = Cv.cum y k + Cv.dim y k) := Cv.qc y k k1 (by omega)
  by_cases hlt : k < m
  ·go_wp2_with (go_at_call 85; refine (dK _ _ _ (by omega) (by omega)).mono ?_; rintro e w' ⟨rfl, rfl⟩)
   go_round
   case rel => exact ⟨k + 1, by omega, by omega, by go_num, by rw [cs.out]; go_num⟩
   case measure => simp [intOf]; omega
  ·go_wp2
   go_ret
   refine ⟨ay ?_, ?_⟩
   ·rw [hh.out, show m = k by omega]; omega
   ·exact below_drewN ((q4B _ _).alloc (Nat.le_refl _) _) _

theorem uM (y m d : Int) (w : World) (h : Cv.gX y m d = true) :
  Calls Tryz.prog 40 #[.agg #[.int .i64 y, .int .i64 m, .int .i64 d]] w fun e w' => e = .returned (.tuple #[.int .i64 (Cv.num y m d), .int .i64 0]) ∧ Below w.heap.size w w' := by
 have v := Cv.jg.1 h
 obtain ⟨v1, v2, v3, v4, v5, v6⟩ := v
 have hm : Hid (Cv.iK y m = true) := Cv.eO.2 ⟨v1, v2, v3, v4⟩
 have H : Hid (Cv.gX y m d = true) := h
 clear h
 go_enter Tryz.func40, Tryz.ntmps40
 go_wp2_with fail
 go_quiet ((first | (go_at_call 84; exact Calls.quiet_of_same (fF _ _ _ hm.out)) | (go_at_call 85; exact Calls.quiet_of_same (dK _ _ _ (by omega) (by omega)))))
 go_wp2_with (go_at_call 86; refine (jW _ _ _ _ H.out).mono ?_; rintro e w' ⟨rfl, hb⟩)
 go_ret2
 exact ⟨rfl, (below_drewN ((q4B _ _).alloc (Nat.le_refl _) _) _).trans (hb.mono (by simp))⟩

theorem J7 (y m d : Int) (w : World) (h : Cv.gX y m d = false) :
  Calls Tryz.prog 40 #[.agg #[.int .i64 y, .int .i64 m, .int .i64 d]] w fun e w' => e = .returned (.tuple #[.int .i64 0, .int .i64 3]) ∧ Below w.heap.size w w' := by
 have v : ¬ (1 ≤ y ∧ y ≤ 9999 ∧ 1 ≤ m ∧ m ≤ 12 ∧ 1 ≤ d ∧ d ≤ Cv.dim y m) := fun k => by rw [Cv.jg.2 k] at h; cases h
 clear h
 cases hm0 : Cv.iK y m
 ·have hm := hid hm0
  clear hm0 v
  go_enter Tryz.func40, Tryz.ntmps40
  go_wp2_with fail
  go_quiet ((go_at_call 84; exact Calls.quiet_of_same (fF _ _ _ hm.out)))
  go_wp2
  go_ret2
  exact ⟨rfl, below_drewN ((q4B _ _).alloc (Nat.le_refl _) _) _⟩
 ·have hm := hid hm0
  have k := Cv.eO.1 hm0
  clear hm0
  obtain ⟨k1, k2, k3, k4⟩ := k
  by_cases hd : d < 1
  ·clear v
   go_enter Tryz.func40, Tryz.ntmps40
   go_wp2_with fail
   go_quiet ((go_at_call 84; exact Calls.quiet_of_same (fF _ _ _ hm.out)))
   go_wp2
   go_ret2
   exact ⟨rfl, below_drewN ((q4B _ _).alloc (Nat.le_refl _) _) _⟩
  ·have hd1 : 1 ≤ d := by omega
   have hd2 : Cv.dim y m < d := by omega
   clear v hd
   go_enter Tryz.func40, Tryz.ntmps40
   go_wp2_with fail
   go_quiet ((first | (go_at_call 84; exact Calls.quiet_of_same (fF _ _ _ hm.out)) | (go_at_call 85; exact Calls.quiet_of_same (dK _ _ _ (by omega) (by omega)))))
   go_wp2
   go_ret2
   exact ⟨rfl, below_drewN ((q4B _ _).alloc (Nat.le_refl _) _) _⟩
end
section
open Go.RowKit

theorem Eo (n : Int) (w : World) (h1 : 0 ≤ n) (h2 : n < 3652059) :
  Calls Tryz.prog 140 #[.int .i64 n] w fun e w' => ∃ y : Int, e = .returned (.int .i64 y) ∧ 1 ≤ y ∧ y ≤ 9999 ∧ Cv.dby y ≤ n ∧ n < Cv.dby (y + 1) ∧ w' = w := by
 obtain ⟨g1, g2, g3⟩ := Cv.IK n h1 h2
 have G3 := hid g3
 clear g3
 go_enter Tryz.func140, Tryz.ntmps140
 go_wp2_with fail
 go_loop [3] (fun t => ∃ y : Int, 1 ≤ y ∧ y ≤ 9999 ∧ Cv.dby y ≤ n ∧ t = .int .i64 y) (fun t => (9999 - intOf t).toNat)
 case atStart => exact ⟨_, g1, g2, G3.out, rfl⟩
 case round =>
  obtain ⟨y, y1, y2, y3, rfl⟩ := hrel
  clear g1 g2 G3
  by_cases hc : Cv.dby (y + 1) ≤ n
  ·have y9 := Cv.KC h2 hc
   go_wp2_with (go_at_call 141; refine (jf _ _ (by omega) (by omega)).mono ?_; rintro e w' ⟨rfl, rfl⟩)
   go_round
   case rel => exact ⟨y + 1, by omega, by omega, hc, rfl⟩
   case measure => simp [intOf]; omega
  ·have hc' : n < Cv.dby (y + 1) := by omega
   go_wp2_with (go_at_call 141; refine (jf _ _ (by omega) (by omega)).mono ?_; rintro e w' ⟨rfl, rfl⟩)
   go_ret
   exact ⟨y, rfl, y1, y2, y3, hc', rfl⟩

theorem of_no (n : Int) (w : World) (h : n < -719162 ∨ 2932896 < n) :
  Calls Tryz.prog 80 #[.int .i64 n] w fun e w' => e = .returned (.tuple #[.agg #[.int .i64 0, .int .i64 0, .int .i64 0], .int .i64 3]) ∧ Below w.heap.size w w' := by
 rcases h with h | h
 ·go_enter Tryz.func80, Tryz.ntmps80
  go_wp2
  exact bodyPost_ret (v := .tuple #[.agg #[.int .i64 0, .int .i64 0, .int .i64 0], .int .i64 3]) (by simp [results, Tryz.results80, go_sem]) rfl ⟨rfl, (q4B _ _).alloc (Nat.le_refl _) _⟩
 ·have h' : ¬ n < -719162 := by omega
  go_enter Tryz.func80, Tryz.ntmps80
  go_wp2
  exact bodyPost_ret (v := .tuple #[.agg #[.int .i64 0, .int .i64 0, .int .i64 0], .int .i64 3]) (by simp [results, Tryz.results80, go_sem]) rfl ⟨rfl, (q4B _ _).alloc (Nat.le_refl _) _⟩

theorem Lj (n y k : Int) : Cv.num y k (n + 719162 - Cv.dby y - Cv.cum y k + 1) = n := by unfold Cv.num; omega
theorem Ll (n : Int) (w : World) (h1 : -719162 ≤ n) (h2 : n ≤ 2932896) :
  Calls Tryz.prog 80 #[.int .i64 n] w fun e w' => ∃ y m d : Int, e = .returned (.tuple #[.agg #[.int .i64 y, .int .i64 m, .int .i64 d], .int .i64 0]) ∧ Cv.gX y m d = true ∧ Cv.num y m d = n ∧ Below w.heap.size w w' := by
 go_enter Tryz.func80, Tryz.ntmps80
 go_wp2_with fail
 refine (Eo _ _ (by omega) (by omega)).mono ?_
 rintro e w' ⟨y, rfl, y1, y2, y3, y4, rfl⟩
 have hb := Cv.CO y y1 (by omega)
 go_wp2_with (go_at_call 141; refine (jf _ _ (by omega) (by omega)).mono ?_; rintro e w' ⟨rfl, rfl⟩)
 go_loop [4, 6] (fun r k => ∃ m : Int, 1 ≤ m ∧ m ≤ 12 ∧ k = .int .i64 m ∧ 0 ≤ n + 719162 - Cv.dby y - Cv.cum y m ∧ r = .int .i64 (n + 719162 - Cv.dby y - Cv.cum y m)) (fun _ k => (12 - intOf k).toNat)
 case atStart => exact ⟨1, by omega, by omega, rfl, by rw [Cv.qa]; omega, by rw [Cv.qa]; go_num⟩
 case round =>
  obtain ⟨m, m1, m2, rfl, hr, rfl⟩ := hrel
  have cb := Cv.yP y m m1 (by omega)
  have db := Cv.jX y m
  have cs : Hid (Cv.cum y (m + 1) = Cv.cum y m + Cv.dim y m) := Cv.qc y m m1 m2
  by_cases hd : Cv.dim y m ≤ n + 719162 - Cv.dby y - Cv.cum y m
  ·have hm : m < 12 := by
    by_cases e : m = 12
    ·subst e
     have c := cs.out
     have h13 := Cv.CK y
     have e13 : (12 : Int) + 1 = 13 := rfl
     rw [e13] at c
     have ds := Cv.uN y
     omega
    ·omega
   go_wp2_with (go_at_call 85; refine (dK _ _ _ (by omega) (by omega)).mono ?_; rintro e w' ⟨rfl, rfl⟩)
   go_round
   case rel => exact ⟨m + 1, by omega, by omega, rfl, by rw [cs.out]; omega, by rw [cs.out]; go_num⟩
   case measure => simp [intOf]; omega
  ·have hv : n + 719162 - Cv.dby y - Cv.cum y m < Cv.dim y m := by omega
   have V : Hid (Cv.gX y m (n + 719162 - Cv.dby y - Cv.cum y m + 1) = true) := Cv.jg.2 (by omega)
   go_wp2_with (go_at_call 85; refine (dK _ _ _ (by omega) (by omega)).mono ?_; rintro e w' ⟨rfl, rfl⟩)
   refine bodyPost_ret (v := .tuple #[.agg #[.int .i64 y, .int .i64 m, .int .i64 (n + 719162 - Cv.dby y - Cv.cum y m + 1)], .int .i64 0]) (by simp [results, Tryz.results80, go_sem]) rfl ⟨y, m, _, rfl, V.out, Lj n y m, ?_⟩
   exact (q4B _ _).alloc (Nat.le_refl _) _
end
section
open Go.RowKit

theorem Co (x k : Int) (w : World) (h1 : -1000000 ≤ x) (h2 : x ≤ 4000000) (k1 : 0 ≤ k) (k2 : k ≤ 6) :
  Calls Tryz.prog 182 #[.int .i64 x, .int .i64 k] w fun e w' => e = .returned (.int .i64 (Cv.upto x k)) ∧ w' = w := by
 have hb := Cv.KV x
 have hh : Hid (Cv.upto x k = x - (Cv.wd x - k + 7) % 7) := rfl
 go_enter Tryz.func182, Tryz.ntmps182
 go_wp2_with (go_at_call 82; refine (tO _ _).mono ?_; rintro e w' ⟨rfl, rfl⟩)
 go_ret
 exact ⟨ay (by rw [hh.out]; omega), rfl⟩

theorem Iz (x k : Int) (w : World) (h1 : -1000000 ≤ x) (h2 : x ≤ 4000000) (k1 : 0 ≤ k) (k2 : k ≤ 6) :
  Calls Tryz.prog 183 #[.int .i64 x, .int .i64 k] w fun e w' => e = .returned (.int .i64 (Cv.frm x k)) ∧ w' = w := by
 have hb := Cv.KV x
 have hh : Hid (Cv.frm x k = x + (k - Cv.wd x + 7) % 7) := rfl
 go_enter Tryz.func183, Tryz.ntmps183
 go_wp2_with (go_at_call 82; refine (tO _ _).mono ?_; rintro e w' ⟨rfl, rfl⟩)
 go_ret
 exact ⟨ay (by rw [hh.out]; omega), rfl⟩

theorem C8 (k wk n len : Int) : Hid (Cv.kQ k wk n len = decide (0 ≤ wk ∧ wk ≤ 6 ∧ (k = 2 ∧ n = 0 ∨ k ≠ 2 ∧ ¬ (k = 1 ∧ wk ≠ 0) ∧ 1 ≤ n ∧ n ≤ len))) := rfl
theorem Ir (k wk n len : Int) (w : World) :
  Calls Tryz.prog 142 #[.agg #[.int .i64 k, .int .i64 wk, .int .i64 n], .int .i64 len] w fun e w' => e = .returned (.bool (Cv.kQ k wk n len)) ∧ Below w.heap.size w w' := by
 have hh := C8 k wk n len
 by_cases a : wk < 0
 ·go_enter Tryz.func142, Tryz.ntmps142
  go_wp2
  go_ret
  exact ⟨aC (by rw [hh.out, eq_comm, decide_eq_false_iff_not]; omega), (q4B _ _).alloc (Nat.le_refl _) _⟩
 by_cases b : 7 ≤ wk
 ·go_enter Tryz.func142, Tryz.ntmps142
  go_wp2
  go_ret
  exact ⟨aC (by rw [hh.out, eq_comm, decide_eq_false_iff_not]; omega), (q4B _ _).alloc (Nat.le_refl _) _⟩
 by_cases c : k = 2
 ·have c' : (k == 2) = true := by simp [c]
  have C := hid c
  clear c
  by_cases d : n = 0
  ·have d' : (n == 0) = true := by simp [d]
   have D := hid d
   clear d
   go_enter Tryz.func142, Tryz.ntmps142
   go_wp2
   go_ret
   exact ⟨aC (by rw [hh.out, eq_comm, decide_eq_true_iff]; have := C.out; have := D.out; omega), (q4B _ _).alloc (Nat.le_refl _) _⟩
  ·have d' : (n == 0) = false := by simp [d]
   go_enter Tryz.func142, Tryz.ntmps142
   go_wp2
   go_ret
   exact ⟨aC (by rw [hh.out, eq_comm, decide_eq_false_iff_not]; have := C.out; omega), (q4B _ _).alloc (Nat.le_refl _) _⟩
 have c' : (k == 2) = false := by simp [c]
 by_cases e : k = 1 ∧ wk ≠ 0
 ·obtain ⟨e1, e2⟩ := e
  have e1' : (k == 1) = true := by simp [e1]
  have e2' : (wk != 0) = true := by simp [e2]
  have E := hid e1
  clear e1
  go_enter Tryz.func142, Tryz.ntmps142
  go_wp2
  go_ret
  exact ⟨aC (by rw [hh.out, eq_comm, decide_eq_false_iff_not]; have := E.out; omega), (q4B _ _).alloc (Nat.le_refl _) _⟩
 ·by_cases f : 1 ≤ n <;> by_cases g : n ≤ len <;> by_cases e1 : k = 1
  all_goals
   first
    | (have e1' : (k == 1) = true := by simp [e1]
       have e2' : (wk != 0) = false := by simp; omega
       have E := hid e1
       clear e1)
    | (have e1' : (k == 1) = false := by simp [e1]
       have E := hid e1
       clear e1)
   have EE := hid e
   clear e
   go_enter Tryz.func142, Tryz.ntmps142
   go_wp2
   go_ret
   refine ⟨aC ?_, (q4B _ _).alloc (Nat.le_refl _) _⟩
   rw [hh.out, eq_comm]
   have := E.out
   have := EE.out
   first
    | (rw [decide_eq_false_iff_not]; omega)
    | (rw [decide_eq_true_iff]; omega)
    | simp_all
end
section
open Go.RowKit

theorem ql (y m k wk n : Int) (w : World) (h : Cv.iK y m = true) (hf : Cv.kQ k wk n (Cv.dim y m) = true) :
  Calls Tryz.prog 143 #[.int .i64 y, .int .i64 m, .agg #[.int .i64 k, .int .i64 wk, .int .i64 n]] w fun e w' => e = .returned (.int .i64 (Cv.tgt y m k wk n)) ∧ Below w.heap.size w w' := by
 have hv := hid (Cv.qR h)
 have nb := Cv.iM hv.out
 obtain ⟨m1, m2, m3, m4⟩ := Cv.eO.1 h
 obtain ⟨f1, f2, f3⟩ := Cv.jK.1 hf
 have F3 := hid f3
 have db := Cv.jX y m
 have n1 : 0 ≤ n ∧ n ≤ 31 := by omega
 have hh : Hid (Cv.tgt y m k wk n = if k = 2 then Cv.upto (Cv.num y m 1 + Cv.dim y m - 1) wk else if k = 3 then Cv.frm (Cv.num y m 1 + n - 1) wk else if k = 4 then Cv.upto (Cv.num y m 1 + n - 1) wk else Cv.num y m 1 + n - 1) := rfl
 clear h hf f3
 by_cases k2 : k = 2
 ·have k2' : (k == 2) = true := by simp [k2]
  have K := hid k2
  clear k2
  go_enter Tryz.func143, Tryz.ntmps143
  go_wp2_with (go_at_call 86; refine (jW _ _ _ _ hv.out).mono ?_; rintro e w1 ⟨rfl, hb⟩; obtain ⟨hc, hz⟩ := dZ hb)
  go_quiet ((first | (go_at_call 85; exact Calls.quiet_of_same (dK _ _ _ (by omega) (by omega))) | (go_at_call 182; exact Calls.quiet_of_same (Co _ _ _ (by omega) (by omega) (by omega) (by omega)))))
  go_wp2
  go_ret
  exact ⟨ay (by rw [hh.out, if_pos K.out]), below_drewN (((q4B _ _).alloc (Nat.le_refl _) _).trans (hb.mono (by simp))) _⟩
 have k2' : (k == 2) = false := by simp [k2]
 by_cases k3 : k = 3
 ·have k3' : (k == 3) = true := by simp [k3]
  have K2 := hid k2
  have K := hid k3
  clear k2 k3
  go_enter Tryz.func143, Tryz.ntmps143
  go_wp2_with (first | (go_at_call 86; refine (jW _ _ _ _ hv.out).mono ?_; rintro e w1 ⟨rfl, hb⟩; obtain ⟨hc, hz⟩ := dZ hb) | (go_at_call 183; refine (Iz _ _ _ (by omega) (by omega) (by omega) (by omega)).mono ?_; rintro e w2 ⟨rfl, rfl⟩))
  go_ret
  exact ⟨ay (by rw [hh.out, if_neg K2.out, if_pos K.out]), (((q4B _ _).alloc (Nat.le_refl _) _).trans (hb.mono (by simp)))⟩
 have k3' : (k == 3) = false := by simp [k3]
 by_cases k4 : k = 4
 ·have k4' : (k == 4) = true := by simp [k4]
  have K2 := hid k2
  have K3 := hid k3
  have K := hid k4
  clear k2 k3 k4
  go_enter Tryz.func143, Tryz.ntmps143
  go_wp2_with (first | (go_at_call 86; refine (jW _ _ _ _ hv.out).mono ?_; rintro e w1 ⟨rfl, hb⟩; obtain ⟨hc, hz⟩ := dZ hb) | (go_at_call 182; refine (Co _ _ _ (by omega) (by omega) (by omega) (by omega)).mono ?_; rintro e w2 ⟨rfl, rfl⟩))
  go_ret
  exact ⟨ay (by rw [hh.out, if_neg K2.out, if_neg K3.out, if_pos K.out]), (((q4B _ _).alloc (Nat.le_refl _) _).trans (hb.mono (by simp)))⟩
 have k4' : (k == 4) = false := by simp [k4]
 have K2 := hid k2
 have K3 := hid k3
 have K := hid k4
 clear k2 k3 k4
 go_enter Tryz.func143, Tryz.ntmps143
 go_wp2_with (go_at_call 86; refine (jW _ _ _ _ hv.out).mono ?_; rintro e w1 ⟨rfl, hb⟩; obtain ⟨hc, hz⟩ := dZ hb)
 go_ret
 exact ⟨ay (by rw [hh.out, if_neg K2.out, if_neg K3.out, if_neg K.out]), (((q4B _ _).alloc (Nat.le_refl _) _).trans (hb.mono (by simp)))⟩
end
end Go.Proofs.YtkhlkohlccndgaaGreat
