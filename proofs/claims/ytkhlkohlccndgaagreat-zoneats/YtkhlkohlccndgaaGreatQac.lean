/- The contract of the document's OnOf, the ways on which the weekday fits. · The document's OnOf, by what is wrong. · Contracts of the document's CheckRule, sameUntil, checkEra. · The contract of the document's CheckSource. · Contracts of the program's isWithin, Unless, cmp.Or, checkRule, First over rules. -/
import Derived.Test.YtkhlkohlccndgaaGreatQz
import Derived.Test.YtkhlkohlccndgaaGreatQab
import Derived.Test.YtkhlkohlccndgaaGreatQaa
import Derived.Deep.Cut
import Derived.Deep.CutRange
import Derived.Deep.RegionHeld3
import Derived.Deep.DrawnRows
set_option linter.unusedVariables false
set_option linter.unusedSimpArgs false
set_option maxRecDepth 100000
set_option maxHeartbeats 16000000
namespace Go.Proofs.YtkhlkohlccndgaaGreat
section
open Go.RowKit

theorem ron_last (y m wk n : Int) (w : World) (h : Cv.monB y m = true) (f1 : 0 ≤ wk) (f2 : wk ≤ 6) (hn : n ≠ 0) :
  Calls Tryz.prog 122 #[.int .i64 y, .int .i64 m, .agg #[.int .i64 2, .int .i64 wk, .int .i64 n]] w fun e w' => e = .returned (.tuple #[.agg #[.int .i64 0, .int .i64 0, .int .i64 0], .int .i64 3]) ∧ Below w.heap.size w w' := by
 obtain ⟨m1, m2, m3, m4⟩ := Cv.mon_iff.1 h
 clear h
 have k1 : (1 : Int) ≤ 2 := by omega
 have k2 : (2 : Int) ≤ 4 := by omega
 have hn' : (n != 0) = true := by simp [hn]
 go_enter Tryz.func122, Tryz.ntmps122
 go_wp2_with fail
 refine (between_is _ _ _ _ (decide_eq_true ⟨m1, m2⟩)).mono ?_
 rintro e w1 ⟨rfl, rfl⟩
 go_wp2_with fail
 refine (between_is _ _ _ _ (decide_eq_true ⟨m3, m4⟩)).mono ?_
 rintro e w1 ⟨rfl, rfl⟩
 go_wp2_with fail
 refine (between_is _ _ _ _ (decide_eq_true ⟨k1, k2⟩)).mono ?_
 rintro e w1 ⟨rfl, rfl⟩
 go_wp2_with fail
 refine (between_is _ _ _ _ (decide_eq_true ⟨f1, f2⟩)).mono ?_
 rintro e w1 ⟨rfl, rfl⟩
 go_wp2_with fail
 refine (rMonth_any _ _ _ (by omega) (by omega)).mono ?_
 rintro e w1 ⟨rfl, rfl⟩
 go_wp2
 exact bodyPost_ret (v := .tuple #[.agg #[.int .i64 0, .int .i64 0, .int .i64 0], .int .i64 3]) (by simp [results, Tryz.results122, go_sem]) rfl ⟨rfl, fin2⟩

theorem ron_n (y m k wk n : Int) (w : World) (h : Cv.monB y m = true) (k1 : 1 ≤ k) (k2 : k ≤ 4) (f1 : 0 ≤ wk) (f2 : wk ≤ 6) (hk : k ≠ 2) (hw : ¬ (k = 1 ∧ wk ≠ 0)) (hn : ¬ (1 ≤ n ∧ n ≤ Cv.dim y m)) :
  Calls Tryz.prog 122 #[.int .i64 y, .int .i64 m, .agg #[.int .i64 k, .int .i64 wk, .int .i64 n]] w fun e w' => e = .returned (.tuple #[.agg #[.int .i64 0, .int .i64 0, .int .i64 0], .int .i64 3]) ∧ Below w.heap.size w w' := by
 obtain ⟨m1, m2, m3, m4⟩ := Cv.mon_iff.1 h
 have A : Hid (decide (1 ≤ n ∧ n ≤ Cv.dim y m) = false) := decide_eq_false hn
 have e2 : (k == 2) = false := by simp [hk]
 have e2' : (k != 2) = true := by simp [hk]
 by_cases e : k = 1
 ·have e1 : (k == 1) = true := by simp [e]
  have e0 : (wk != 0) = false := by simp; omega
  clear h hn hk hw e
  go_enter Tryz.func122, Tryz.ntmps122
  go_wp2_with fail
  refine (between_is _ _ _ _ (decide_eq_true ⟨m1, m2⟩)).mono ?_
  rintro e w1 ⟨rfl, rfl⟩
  go_wp2_with fail
  refine (between_is _ _ _ _ (decide_eq_true ⟨m3, m4⟩)).mono ?_
  rintro e w1 ⟨rfl, rfl⟩
  go_wp2_with fail
  refine (between_is _ _ _ _ (decide_eq_true ⟨k1, k2⟩)).mono ?_
  rintro e w1 ⟨rfl, rfl⟩
  go_wp2_with fail
  refine (between_is _ _ _ _ (decide_eq_true ⟨f1, f2⟩)).mono ?_
  rintro e w1 ⟨rfl, rfl⟩
  go_wp2_with fail
  refine (rMonth_any _ _ _ (by omega) (by omega)).mono ?_
  rintro e w1 ⟨rfl, rfl⟩
  go_wp2_with fail
  refine (between_is _ _ _ _ A.out).mono ?_
  rintro e w1 ⟨rfl, rfl⟩
  go_wp2
  exact bodyPost_ret (v := .tuple #[.agg #[.int .i64 0, .int .i64 0, .int .i64 0], .int .i64 3]) (by simp [results, Tryz.results122, go_sem]) rfl ⟨rfl, fin2⟩
 ·have e1 : (k == 1) = false := by simp [e]
  clear h hn hk hw e
  go_enter Tryz.func122, Tryz.ntmps122
  go_wp2_with fail
  refine (between_is _ _ _ _ (decide_eq_true ⟨m1, m2⟩)).mono ?_
  rintro e w1 ⟨rfl, rfl⟩
  go_wp2_with fail
  refine (between_is _ _ _ _ (decide_eq_true ⟨m3, m4⟩)).mono ?_
  rintro e w1 ⟨rfl, rfl⟩
  go_wp2_with fail
  refine (between_is _ _ _ _ (decide_eq_true ⟨k1, k2⟩)).mono ?_
  rintro e w1 ⟨rfl, rfl⟩
  go_wp2_with fail
  refine (between_is _ _ _ _ (decide_eq_true ⟨f1, f2⟩)).mono ?_
  rintro e w1 ⟨rfl, rfl⟩
  go_wp2_with fail
  refine (rMonth_any _ _ _ (by omega) (by omega)).mono ?_
  rintro e w1 ⟨rfl, rfl⟩
  go_wp2_with fail
  refine (between_is _ _ _ _ A.out).mono ?_
  rintro e w1 ⟨rfl, rfl⟩
  go_wp2
  exact bodyPost_ret (v := .tuple #[.agg #[.int .i64 0, .int .i64 0, .int .i64 0], .int .i64 3]) (by simp [results, Tryz.results122, go_sem]) rfl ⟨rfl, fin2⟩

theorem ron_1 (y m wk n : Int) (w : World) (h : Cv.monB y m = true) (hf : Cv.fitB 1 wk n (Cv.dim y m) = true) :
  Calls Tryz.prog 122 #[.int .i64 y, .int .i64 m, .agg #[.int .i64 1, .int .i64 wk, .int .i64 n]] w fun e w' => ∃ a b c : Int, ∃ r : Int, e = .returned (.tuple #[.agg #[.int .i64 a, .int .i64 b, .int .i64 c], .int .i64 r]) ∧ ((r = 0 ∧ -719162 ≤ Cv.tgt y m 1 wk n ∧ Cv.tgt y m 1 wk n ≤ 2932896 ∧ Cv.vldB a b c = true ∧ Cv.num a b c = Cv.tgt y m 1 wk n) ∨ (r = 3 ∧ a = 0 ∧ b = 0 ∧ c = 0 ∧ (Cv.tgt y m 1 wk n < -719162 ∨ 2932896 < Cv.tgt y m 1 wk n))) ∧ Below w.heap.size w w' := by
 obtain ⟨m1, m2, m3, m4⟩ := Cv.mon_iff.1 h
 obtain ⟨f1, f2, f3⟩ := Cv.fit_iff.1 hf
 have n1 : 1 ≤ n := by omega
 have n2 : n ≤ Cv.dim y m := by omega
 have wk0 : wk = 0 := by omega
 subst wk0
 have nb := Cv.num_bd (Cv.vld_one h)
 have db := Cv.dim_bd y m
 obtain ⟨x, hx⟩ : ∃ x, x = Cv.num y m 1 - 1 + n := ⟨_, rfl⟩
 have TG : Hid (Cv.tgt y m 1 0 n = x) := by
  show Cv.tgt y m 1 0 n = _
  unfold Cv.tgt
  simp
  omega
 have X : Hid (Cv.num y m 1 - 1 + n = x) := hx.symm
 have x1 : -719162 ≤ x := by omega
 have x2 : x ≤ 2932927 := by omega
 have k1 : (1 : Int) ≤ 1 := by omega
 have k2 : (1 : Int) ≤ 4 := by omega
 clear h hf f3 hx
 go_enter Tryz.func122, Tryz.ntmps122
 go_wp2_with fail
 refine (between_is _ _ _ _ (decide_eq_true ⟨m1, m2⟩)).mono ?_
 rintro e w1 ⟨rfl, rfl⟩
 go_wp2_with fail
 refine (between_is _ _ _ _ (decide_eq_true ⟨m3, m4⟩)).mono ?_
 rintro e w1 ⟨rfl, rfl⟩
 go_wp2_with fail
 refine (between_is _ _ _ _ (decide_eq_true ⟨k1, k2⟩)).mono ?_
 rintro e w1 ⟨rfl, rfl⟩
 go_wp2_with fail
 refine (between_is _ _ _ _ (decide_eq_true ⟨f1, f2⟩)).mono ?_
 rintro e w1 ⟨rfl, rfl⟩
 go_wp2_with fail
 refine (rMonth_any _ _ _ (by omega) (by omega)).mono ?_
 rintro e w1 ⟨rfl, rfl⟩
 go_wp2_with fail
 refine (between_is _ _ _ _ (decide_eq_true ⟨n1, n2⟩)).mono ?_
 rintro e w1 ⟨rfl, rfl⟩
 go_wp2_with fail
 refine (rDays_any _ _ _ _ (by omega) (by omega) (by omega) (by omega) (by omega) (by omega)).mono ?_
 rintro e w1 ⟨rfl, hb⟩
 obtain ⟨hc1, hz1⟩ := bcell hb
 have s1 := hb.size
 simp at s1
 have t1 : w.heap.size < w1.heap.size := by omega
 have t1' : w.heap.size + 1 < w1.heap.size := by omega
 go_wp2_with fail
 rw [X.out]
 go_loopw [9, 10] (fun v i wr => v = .int .i64 x ∧ i = .int .i64 0 ∧ Below w1.heap.size w1 wr) (fun _ _ _ => 0)
 case atStart => exact ⟨rfl, rfl, Below.refl _ _⟩
 case round =>
  obtain ⟨rfl, rfl, hbq⟩ := hrel
  obtain ⟨hcq, hzq⟩ := bcell hbq
  have sq := hbq.size
  have tq : w.heap.size < wr.heap.size := by omega
  have tq' : w.heap.size + 1 < wr.heap.size := by omega
  go_wp2_with fail
  go_quiet (fail)
  have s2' : w.heap.size + 1 < w1.heap.size := by omega
  go_wp2_with fail
  refine (first_any _).mono ?_
  rintro e w2 ⟨rfl, hb2'⟩
  have hb2 : Below wr.heap.size wr w2 := (below_drewN (Below.refl _ _) _).trans hb2'
  clear hb2'
  obtain ⟨hc3, hz3⟩ := bcell hb2
  have s2 := hb2.size
  have t2 : w.heap.size + 1 < w2.heap.size := by omega
  go_wp2_with fail
  refine (last_any _).mono ?_
  rintro e w3 ⟨rfl, hb3⟩
  obtain ⟨hc4, hz4⟩ := bcell hb3
  have s3 := hb3.size
  have t3 : w.heap.size + 1 < w3.heap.size := by omega
  by_cases hin : -719162 ≤ x ∧ x ≤ 2932896
  ·go_wp2_with fail
   refine (between_is _ _ _ _ (decide_eq_true hin)).mono ?_
   rintro e w4 ⟨rfl, rfl⟩
   go_wp2_with fail
   refine (dateOf_any _ _ hin.1 hin.2).mono ?_
   rintro e w5 ⟨a, b, c, rfl, hv, hn, hb5⟩
   have HV := hid hv
   have HN := hid hn
   clear hv hn
   obtain ⟨hc5, hz5⟩ := bcell hb5
   go_wp2
   refine bodyPost_ret (v := .tuple #[.agg #[.int .i64 a, .int .i64 b, .int .i64 c], .int .i64 0]) (by simp [results, Tryz.results122, go_sem, hcq, hc1, hc3, hc4, hc5, tq, tq', s2', t2, t3]) rfl ⟨a, b, c, 0, rfl, Or.inl ⟨rfl, by rw [TG.out]; exact hin.1, by rw [TG.out]; exact hin.2, HV.out, by rw [TG.out]; exact HN.out⟩, ?_⟩
   refine Below.setCell (Below.setCell (Below.setCell (Below.trans (Below.trans (Below.trans (Below.trans (Below.trans fin2 (hb.mono (by simp; omega))) (hbq.mono (by omega))) (hb2.mono (by omega))) (hb3.mono (by omega))) (hb5.mono (by omega))) (by simp) _) (by simp) _) (by simp) _
  ·have B : Hid (decide (-719162 ≤ x ∧ x ≤ 2932896) = false) := decide_eq_false hin
   go_wp2_with fail
   refine (between_is _ _ _ _ B.out).mono ?_
   rintro e w4 ⟨rfl, rfl⟩
   go_wp2
   refine bodyPost_ret (v := .tuple #[.agg #[.int .i64 0, .int .i64 0, .int .i64 0], .int .i64 3]) (by simp [results, Tryz.results122, go_sem, hcq, hc1, hc3, hc4, tq, tq', s2', t2, t3]) rfl ⟨0, 0, 0, 3, rfl, Or.inr ⟨rfl, rfl, rfl, rfl, by rw [TG.out]; omega⟩, ?_⟩
   refine Below.setCell (Below.setCell (Below.setCell (Below.trans (Below.trans (Below.trans (Below.trans fin2 (hb.mono (by simp; omega))) (hbq.mono (by omega))) (hb2.mono (by omega))) (hb3.mono (by omega))) (by simp) _) (by simp) _) (by simp) _

theorem ron_2 (y m wk n : Int) (w : World) (h : Cv.monB y m = true) (hf : Cv.fitB 2 wk n (Cv.dim y m) = true) :
  Calls Tryz.prog 122 #[.int .i64 y, .int .i64 m, .agg #[.int .i64 2, .int .i64 wk, .int .i64 n]] w fun e w' => ∃ a b c : Int, ∃ r : Int, e = .returned (.tuple #[.agg #[.int .i64 a, .int .i64 b, .int .i64 c], .int .i64 r]) ∧ ((r = 0 ∧ -719162 ≤ Cv.tgt y m 2 wk n ∧ Cv.tgt y m 2 wk n ≤ 2932896 ∧ Cv.vldB a b c = true ∧ Cv.num a b c = Cv.tgt y m 2 wk n) ∨ (r = 3 ∧ a = 0 ∧ b = 0 ∧ c = 0 ∧ (Cv.tgt y m 2 wk n < -719162 ∨ 2932896 < Cv.tgt y m 2 wk n))) ∧ Below w.heap.size w w' := by
 obtain ⟨m1, m2, m3, m4⟩ := Cv.mon_iff.1 h
 obtain ⟨f1, f2, f3⟩ := Cv.fit_iff.1 hf
 have n0 : n = 0 := by omega
 subst n0
 have nb := Cv.num_bd (Cv.vld_one h)
 have db := Cv.dim_bd y m
 obtain ⟨x, hx⟩ : ∃ x, x = Cv.num y m 1 - 1 + Cv.dim y m := ⟨_, rfl⟩
 obtain ⟨r, hr⟩ : ∃ r, r = (Cv.wd x - wk + 7) % 7 := ⟨_, rfl⟩
 have r0 : 0 ≤ r ∧ r ≤ 6 := by omega
 have KEY : Hid (∀ k : Int, 0 ≤ k → k ≤ r → (Cv.wd (x - k) = wk ↔ k = r)) := by
  intro k k0 k6
  subst hr
  unfold Cv.wd at k6 ⊢
  omega
 have TG : Hid (Cv.tgt y m 2 wk 0 = x - r) := by
  show Cv.tgt y m 2 wk 0 = _
  unfold Cv.tgt Cv.upto Cv.frm
  simp
  rw [hr, hx]
  first
   | omega
   | (rw [show Cv.num y m 1 + Cv.dim y m - 1 = Cv.num y m 1 - 1 + Cv.dim y m by omega]; omega)
 have X : Hid (Cv.num y m 1 - 1 + Cv.dim y m = x) := hx.symm
 have x1 : -719162 ≤ x := by omega
 have x2 : x ≤ 2932927 := by omega
 have k1 : (1 : Int) ≤ 2 := by omega
 have k2 : (2 : Int) ≤ 4 := by omega
 clear h hf f3 hx hr
 go_enter Tryz.func122, Tryz.ntmps122
 go_wp2_with fail
 refine (between_is _ _ _ _ (decide_eq_true ⟨m1, m2⟩)).mono ?_
 rintro e w1 ⟨rfl, rfl⟩
 go_wp2_with fail
 refine (between_is _ _ _ _ (decide_eq_true ⟨m3, m4⟩)).mono ?_
 rintro e w1 ⟨rfl, rfl⟩
 go_wp2_with fail
 refine (between_is _ _ _ _ (decide_eq_true ⟨k1, k2⟩)).mono ?_
 rintro e w1 ⟨rfl, rfl⟩
 go_wp2_with fail
 refine (between_is _ _ _ _ (decide_eq_true ⟨f1, f2⟩)).mono ?_
 rintro e w1 ⟨rfl, rfl⟩
 go_wp2_with fail
 refine (rMonth_any _ _ _ (by omega) (by omega)).mono ?_
 rintro e w1 ⟨rfl, rfl⟩
 go_wp2_with fail
 refine (rDays_any _ _ _ _ (by omega) (by omega) (by omega) (by omega) (by omega) (by omega)).mono ?_
 rintro e w1 ⟨rfl, hb⟩
 obtain ⟨hc1, hz1⟩ := bcell hb
 have s1 := hb.size
 simp at s1
 have t1 : w.heap.size < w1.heap.size := by omega
 have t1' : w.heap.size + 1 < w1.heap.size := by omega
 go_wp2_with fail
 rw [X.out]
 go_loopw [9, 10] (fun v i wr => ∃ k : Int, 0 ≤ k ∧ k ≤ r ∧ v = .int .i64 (x - k) ∧ i = .int .i64 k ∧ Below w1.heap.size w1 wr) (fun _ i _ => (7 - intOf i).toNat)
 case atStart => exact ⟨0, by omega, by omega, by go_num, rfl, Below.refl _ _⟩
 case round =>
  obtain ⟨k, k0, kr, rfl, rfl, hbq⟩ := hrel
  obtain ⟨hcq, hzq⟩ := bcell hbq
  have sq := hbq.size
  have tq : w.heap.size < wr.heap.size := by omega
  have tq' : w.heap.size + 1 < wr.heap.size := by omega
  have k7 : k < 7 := by omega
  by_cases hk : k = r
  ·have E : Hid (Cv.wd (x - k) = wk) := (KEY.out k k0 kr).2 hk
   have e : (Cv.wd (x - k) != wk) = false := by rw [E.out]; simp
   subst hk
   go_wp2_with fail
   go_quiet ((go_at_call 170; exact Calls.quiet_of_same (rWeekday_any _ _)))
   have s2' : w.heap.size + 1 < w1.heap.size := by omega
   go_wp2_with fail
   refine (first_any _).mono ?_
   rintro e w2 ⟨rfl, hb2'⟩
   have hb2 : Below wr.heap.size wr w2 := (below_drewN (Below.refl _ _) _).trans hb2'
   clear hb2'
   obtain ⟨hc3, hz3⟩ := bcell hb2
   have s2 := hb2.size
   have t2 : w.heap.size + 1 < w2.heap.size := by omega
   go_wp2_with fail
   refine (last_any _).mono ?_
   rintro e w3 ⟨rfl, hb3⟩
   obtain ⟨hc4, hz4⟩ := bcell hb3
   have s3 := hb3.size
   have t3 : w.heap.size + 1 < w3.heap.size := by omega
   by_cases hin : -719162 ≤ x - k ∧ x - k ≤ 2932896
   ·go_wp2_with fail
    refine (between_is _ _ _ _ (decide_eq_true hin)).mono ?_
    rintro e w4 ⟨rfl, rfl⟩
    go_wp2_with fail
    refine (dateOf_any _ _ hin.1 hin.2).mono ?_
    rintro e w5 ⟨a, b, c, rfl, hv, hn, hb5⟩
    have HV := hid hv
    have HN := hid hn
    clear hv hn
    obtain ⟨hc5, hz5⟩ := bcell hb5
    go_wp2
    refine bodyPost_ret (v := .tuple #[.agg #[.int .i64 a, .int .i64 b, .int .i64 c], .int .i64 0]) (by simp [results, Tryz.results122, go_sem, hcq, hc1, hc3, hc4, hc5, tq, tq', s2', t2, t3]) rfl ⟨a, b, c, 0, rfl, Or.inl ⟨rfl, by rw [TG.out]; exact hin.1, by rw [TG.out]; exact hin.2, HV.out, by rw [TG.out]; exact HN.out⟩, ?_⟩
    refine Below.setCell (Below.setCell (Below.setCell (Below.trans (Below.trans (Below.trans (Below.trans (Below.trans fin2 (hb.mono (by simp; omega))) (hbq.mono (by omega))) (hb2.mono (by omega))) (hb3.mono (by omega))) (hb5.mono (by omega))) (by simp) _) (by simp) _) (by simp) _
   ·have B : Hid (decide (-719162 ≤ x - k ∧ x - k ≤ 2932896) = false) := decide_eq_false hin
    go_wp2_with fail
    refine (between_is _ _ _ _ B.out).mono ?_
    rintro e w4 ⟨rfl, rfl⟩
    go_wp2
    refine bodyPost_ret (v := .tuple #[.agg #[.int .i64 0, .int .i64 0, .int .i64 0], .int .i64 3]) (by simp [results, Tryz.results122, go_sem, hcq, hc1, hc3, hc4, tq, tq', s2', t2, t3]) rfl ⟨0, 0, 0, 3, rfl, Or.inr ⟨rfl, rfl, rfl, rfl, by rw [TG.out]; omega⟩, ?_⟩
    refine Below.setCell (Below.setCell (Below.setCell (Below.trans (Below.trans (Below.trans (Below.trans fin2 (hb.mono (by simp; omega))) (hbq.mono (by omega))) (hb2.mono (by omega))) (hb3.mono (by omega))) (by simp) _) (by simp) _) (by simp) _
  ·have E : Hid (¬ Cv.wd (x - k) = wk) := fun z => hk ((KEY.out k k0 kr).1 z)
   have e : (Cv.wd (x - k) != wk) = true := by simp [E.out]
   go_wp2_with fail
   go_quiet ((go_at_call 170; exact Calls.quiet_of_same (rWeekday_any _ _)))
   go_wp2
   go_roundw
   case rel => exact ⟨k + 1, by omega, by omega, by go_num, rfl, below_drewN hbq _⟩
   case measure => simp [intOf]; omega

theorem ron_3 (y m wk n : Int) (w : World) (h : Cv.monB y m = true) (hf : Cv.fitB 3 wk n (Cv.dim y m) = true) :
  Calls Tryz.prog 122 #[.int .i64 y, .int .i64 m, .agg #[.int .i64 3, .int .i64 wk, .int .i64 n]] w fun e w' => ∃ a b c : Int, ∃ r : Int, e = .returned (.tuple #[.agg #[.int .i64 a, .int .i64 b, .int .i64 c], .int .i64 r]) ∧ ((r = 0 ∧ -719162 ≤ Cv.tgt y m 3 wk n ∧ Cv.tgt y m 3 wk n ≤ 2932896 ∧ Cv.vldB a b c = true ∧ Cv.num a b c = Cv.tgt y m 3 wk n) ∨ (r = 3 ∧ a = 0 ∧ b = 0 ∧ c = 0 ∧ (Cv.tgt y m 3 wk n < -719162 ∨ 2932896 < Cv.tgt y m 3 wk n))) ∧ Below w.heap.size w w' := by
 obtain ⟨m1, m2, m3, m4⟩ := Cv.mon_iff.1 h
 obtain ⟨f1, f2, f3⟩ := Cv.fit_iff.1 hf
 have n1 : 1 ≤ n := by omega
 have n2 : n ≤ Cv.dim y m := by omega
 have nb := Cv.num_bd (Cv.vld_one h)
 have db := Cv.dim_bd y m
 obtain ⟨x, hx⟩ : ∃ x, x = Cv.num y m 1 - 1 + n := ⟨_, rfl⟩
 obtain ⟨r, hr⟩ : ∃ r, r = (wk - Cv.wd x + 7) % 7 := ⟨_, rfl⟩
 have r0 : 0 ≤ r ∧ r ≤ 6 := by omega
 have KEY : Hid (∀ k : Int, 0 ≤ k → k ≤ r → (Cv.wd (x + k) = wk ↔ k = r)) := by
  intro k k0 k6
  subst hr
  unfold Cv.wd at k6 ⊢
  omega
 have TG : Hid (Cv.tgt y m 3 wk n = x + r) := by
  show Cv.tgt y m 3 wk n = _
  unfold Cv.tgt Cv.upto Cv.frm
  simp
  rw [hr, hx]
  first
   | omega
   | (rw [show Cv.num y m 1 + n - 1 = Cv.num y m 1 - 1 + n by omega]; omega)
 have X : Hid (Cv.num y m 1 - 1 + n = x) := hx.symm
 have x1 : -719162 ≤ x := by omega
 have x2 : x ≤ 2932927 := by omega
 have k1 : (1 : Int) ≤ 3 := by omega
 have k2 : (3 : Int) ≤ 4 := by omega
 clear h hf f3 hx hr
 go_enter Tryz.func122, Tryz.ntmps122
 go_wp2_with fail
 refine (between_is _ _ _ _ (decide_eq_true ⟨m1, m2⟩)).mono ?_
 rintro e w1 ⟨rfl, rfl⟩
 go_wp2_with fail
 refine (between_is _ _ _ _ (decide_eq_true ⟨m3, m4⟩)).mono ?_
 rintro e w1 ⟨rfl, rfl⟩
 go_wp2_with fail
 refine (between_is _ _ _ _ (decide_eq_true ⟨k1, k2⟩)).mono ?_
 rintro e w1 ⟨rfl, rfl⟩
 go_wp2_with fail
 refine (between_is _ _ _ _ (decide_eq_true ⟨f1, f2⟩)).mono ?_
 rintro e w1 ⟨rfl, rfl⟩
 go_wp2_with fail
 refine (rMonth_any _ _ _ (by omega) (by omega)).mono ?_
 rintro e w1 ⟨rfl, rfl⟩
 go_wp2_with fail
 refine (between_is _ _ _ _ (decide_eq_true ⟨n1, n2⟩)).mono ?_
 rintro e w1 ⟨rfl, rfl⟩
 go_wp2_with fail
 refine (rDays_any _ _ _ _ (by omega) (by omega) (by omega) (by omega) (by omega) (by omega)).mono ?_
 rintro e w1 ⟨rfl, hb⟩
 obtain ⟨hc1, hz1⟩ := bcell hb
 have s1 := hb.size
 simp at s1
 have t1 : w.heap.size < w1.heap.size := by omega
 have t1' : w.heap.size + 1 < w1.heap.size := by omega
 go_wp2_with fail
 rw [X.out]
 go_loopw [9, 10] (fun v i wr => ∃ k : Int, 0 ≤ k ∧ k ≤ r ∧ v = .int .i64 (x + k) ∧ i = .int .i64 k ∧ Below w1.heap.size w1 wr) (fun _ i _ => (7 - intOf i).toNat)
 case atStart => exact ⟨0, by omega, by omega, by go_num, rfl, Below.refl _ _⟩
 case round =>
  obtain ⟨k, k0, kr, rfl, rfl, hbq⟩ := hrel
  obtain ⟨hcq, hzq⟩ := bcell hbq
  have sq := hbq.size
  have tq : w.heap.size < wr.heap.size := by omega
  have tq' : w.heap.size + 1 < wr.heap.size := by omega
  have k7 : k < 7 := by omega
  by_cases hk : k = r
  ·have E : Hid (Cv.wd (x + k) = wk) := (KEY.out k k0 kr).2 hk
   have e : (Cv.wd (x + k) != wk) = false := by rw [E.out]; simp
   subst hk
   go_wp2_with fail
   go_quiet ((go_at_call 170; exact Calls.quiet_of_same (rWeekday_any _ _)))
   have s2' : w.heap.size + 1 < w1.heap.size := by omega
   go_wp2_with fail
   refine (first_any _).mono ?_
   rintro e w2 ⟨rfl, hb2'⟩
   have hb2 : Below wr.heap.size wr w2 := (below_drewN (Below.refl _ _) _).trans hb2'
   clear hb2'
   obtain ⟨hc3, hz3⟩ := bcell hb2
   have s2 := hb2.size
   have t2 : w.heap.size + 1 < w2.heap.size := by omega
   go_wp2_with fail
   refine (last_any _).mono ?_
   rintro e w3 ⟨rfl, hb3⟩
   obtain ⟨hc4, hz4⟩ := bcell hb3
   have s3 := hb3.size
   have t3 : w.heap.size + 1 < w3.heap.size := by omega
   by_cases hin : -719162 ≤ x + k ∧ x + k ≤ 2932896
   ·go_wp2_with fail
    refine (between_is _ _ _ _ (decide_eq_true hin)).mono ?_
    rintro e w4 ⟨rfl, rfl⟩
    go_wp2_with fail
    refine (dateOf_any _ _ hin.1 hin.2).mono ?_
    rintro e w5 ⟨a, b, c, rfl, hv, hn, hb5⟩
    have HV := hid hv
    have HN := hid hn
    clear hv hn
    obtain ⟨hc5, hz5⟩ := bcell hb5
    go_wp2
    refine bodyPost_ret (v := .tuple #[.agg #[.int .i64 a, .int .i64 b, .int .i64 c], .int .i64 0]) (by simp [results, Tryz.results122, go_sem, hcq, hc1, hc3, hc4, hc5, tq, tq', s2', t2, t3]) rfl ⟨a, b, c, 0, rfl, Or.inl ⟨rfl, by rw [TG.out]; exact hin.1, by rw [TG.out]; exact hin.2, HV.out, by rw [TG.out]; exact HN.out⟩, ?_⟩
    refine Below.setCell (Below.setCell (Below.setCell (Below.trans (Below.trans (Below.trans (Below.trans (Below.trans fin2 (hb.mono (by simp; omega))) (hbq.mono (by omega))) (hb2.mono (by omega))) (hb3.mono (by omega))) (hb5.mono (by omega))) (by simp) _) (by simp) _) (by simp) _
   ·have B : Hid (decide (-719162 ≤ x + k ∧ x + k ≤ 2932896) = false) := decide_eq_false hin
    go_wp2_with fail
    refine (between_is _ _ _ _ B.out).mono ?_
    rintro e w4 ⟨rfl, rfl⟩
    go_wp2
    refine bodyPost_ret (v := .tuple #[.agg #[.int .i64 0, .int .i64 0, .int .i64 0], .int .i64 3]) (by simp [results, Tryz.results122, go_sem, hcq, hc1, hc3, hc4, tq, tq', s2', t2, t3]) rfl ⟨0, 0, 0, 3, rfl, Or.inr ⟨rfl, rfl, rfl, rfl, by rw [TG.out]; omega⟩, ?_⟩
    refine Below.setCell (Below.setCell (Below.setCell (Below.trans (Below.trans (Below.trans (Below.trans fin2 (hb.mono (by simp; omega))) (hbq.mono (by omega))) (hb2.mono (by omega))) (hb3.mono (by omega))) (by simp) _) (by simp) _) (by simp) _
  ·have E : Hid (¬ Cv.wd (x + k) = wk) := fun z => hk ((KEY.out k k0 kr).1 z)
   have e : (Cv.wd (x + k) != wk) = true := by simp [E.out]
   go_wp2_with fail
   go_quiet ((go_at_call 170; exact Calls.quiet_of_same (rWeekday_any _ _)))
   go_wp2
   go_roundw
   case rel => exact ⟨k + 1, by omega, by omega, by go_num, rfl, below_drewN hbq _⟩
   case measure => simp [intOf]; omega

theorem ron_4 (y m wk n : Int) (w : World) (h : Cv.monB y m = true) (hf : Cv.fitB 4 wk n (Cv.dim y m) = true) :
  Calls Tryz.prog 122 #[.int .i64 y, .int .i64 m, .agg #[.int .i64 4, .int .i64 wk, .int .i64 n]] w fun e w' => ∃ a b c : Int, ∃ r : Int, e = .returned (.tuple #[.agg #[.int .i64 a, .int .i64 b, .int .i64 c], .int .i64 r]) ∧ ((r = 0 ∧ -719162 ≤ Cv.tgt y m 4 wk n ∧ Cv.tgt y m 4 wk n ≤ 2932896 ∧ Cv.vldB a b c = true ∧ Cv.num a b c = Cv.tgt y m 4 wk n) ∨ (r = 3 ∧ a = 0 ∧ b = 0 ∧ c = 0 ∧ (Cv.tgt y m 4 wk n < -719162 ∨ 2932896 < Cv.tgt y m 4 wk n))) ∧ Below w.heap.size w w' := by
 obtain ⟨m1, m2, m3, m4⟩ := Cv.mon_iff.1 h
 obtain ⟨f1, f2, f3⟩ := Cv.fit_iff.1 hf
 have n1 : 1 ≤ n := by omega
 have n2 : n ≤ Cv.dim y m := by omega
 have nb := Cv.num_bd (Cv.vld_one h)
 have db := Cv.dim_bd y m
 obtain ⟨x, hx⟩ : ∃ x, x = Cv.num y m 1 - 1 + n := ⟨_, rfl⟩
 obtain ⟨r, hr⟩ : ∃ r, r = (Cv.wd x - wk + 7) % 7 := ⟨_, rfl⟩
 have r0 : 0 ≤ r ∧ r ≤ 6 := by omega
 have KEY : Hid (∀ k : Int, 0 ≤ k → k ≤ r → (Cv.wd (x - k) = wk ↔ k = r)) := by
  intro k k0 k6
  subst hr
  unfold Cv.wd at k6 ⊢
  omega
 have TG : Hid (Cv.tgt y m 4 wk n = x - r) := by
  show Cv.tgt y m 4 wk n = _
  unfold Cv.tgt Cv.upto Cv.frm
  simp
  rw [hr, hx]
  first
   | omega
   | (rw [show Cv.num y m 1 + n - 1 = Cv.num y m 1 - 1 + n by omega]; omega)
 have X : Hid (Cv.num y m 1 - 1 + n = x) := hx.symm
 have x1 : -719162 ≤ x := by omega
 have x2 : x ≤ 2932927 := by omega
 have k1 : (1 : Int) ≤ 4 := by omega
 have k2 : (4 : Int) ≤ 4 := by omega
 clear h hf f3 hx hr
 go_enter Tryz.func122, Tryz.ntmps122
 go_wp2_with fail
 refine (between_is _ _ _ _ (decide_eq_true ⟨m1, m2⟩)).mono ?_
 rintro e w1 ⟨rfl, rfl⟩
 go_wp2_with fail
 refine (between_is _ _ _ _ (decide_eq_true ⟨m3, m4⟩)).mono ?_
 rintro e w1 ⟨rfl, rfl⟩
 go_wp2_with fail
 refine (between_is _ _ _ _ (decide_eq_true ⟨k1, k2⟩)).mono ?_
 rintro e w1 ⟨rfl, rfl⟩
 go_wp2_with fail
 refine (between_is _ _ _ _ (decide_eq_true ⟨f1, f2⟩)).mono ?_
 rintro e w1 ⟨rfl, rfl⟩
 go_wp2_with fail
 refine (rMonth_any _ _ _ (by omega) (by omega)).mono ?_
 rintro e w1 ⟨rfl, rfl⟩
 go_wp2_with fail
 refine (between_is _ _ _ _ (decide_eq_true ⟨n1, n2⟩)).mono ?_
 rintro e w1 ⟨rfl, rfl⟩
 go_wp2_with fail
 refine (rDays_any _ _ _ _ (by omega) (by omega) (by omega) (by omega) (by omega) (by omega)).mono ?_
 rintro e w1 ⟨rfl, hb⟩
 obtain ⟨hc1, hz1⟩ := bcell hb
 have s1 := hb.size
 simp at s1
 have t1 : w.heap.size < w1.heap.size := by omega
 have t1' : w.heap.size + 1 < w1.heap.size := by omega
 go_wp2_with fail
 rw [X.out]
 go_loopw [9, 10] (fun v i wr => ∃ k : Int, 0 ≤ k ∧ k ≤ r ∧ v = .int .i64 (x - k) ∧ i = .int .i64 k ∧ Below w1.heap.size w1 wr) (fun _ i _ => (7 - intOf i).toNat)
 case atStart => exact ⟨0, by omega, by omega, by go_num, rfl, Below.refl _ _⟩
 case round =>
  obtain ⟨k, k0, kr, rfl, rfl, hbq⟩ := hrel
  obtain ⟨hcq, hzq⟩ := bcell hbq
  have sq := hbq.size
  have tq : w.heap.size < wr.heap.size := by omega
  have tq' : w.heap.size + 1 < wr.heap.size := by omega
  have k7 : k < 7 := by omega
  by_cases hk : k = r
  ·have E : Hid (Cv.wd (x - k) = wk) := (KEY.out k k0 kr).2 hk
   have e : (Cv.wd (x - k) != wk) = false := by rw [E.out]; simp
   subst hk
   go_wp2_with fail
   go_quiet ((go_at_call 170; exact Calls.quiet_of_same (rWeekday_any _ _)))
   have s2' : w.heap.size + 1 < w1.heap.size := by omega
   go_wp2_with fail
   refine (first_any _).mono ?_
   rintro e w2 ⟨rfl, hb2'⟩
   have hb2 : Below wr.heap.size wr w2 := (below_drewN (Below.refl _ _) _).trans hb2'
   clear hb2'
   obtain ⟨hc3, hz3⟩ := bcell hb2
   have s2 := hb2.size
   have t2 : w.heap.size + 1 < w2.heap.size := by omega
   go_wp2_with fail
   refine (last_any _).mono ?_
   rintro e w3 ⟨rfl, hb3⟩
   obtain ⟨hc4, hz4⟩ := bcell hb3
   have s3 := hb3.size
   have t3 : w.heap.size + 1 < w3.heap.size := by omega
   by_cases hin : -719162 ≤ x - k ∧ x - k ≤ 2932896
   ·go_wp2_with fail
    refine (between_is _ _ _ _ (decide_eq_true hin)).mono ?_
    rintro e w4 ⟨rfl, rfl⟩
    go_wp2_with fail
    refine (dateOf_any _ _ hin.1 hin.2).mono ?_
    rintro e w5 ⟨a, b, c, rfl, hv, hn, hb5⟩
    have HV := hid hv
    have HN := hid hn
    clear hv hn
    obtain ⟨hc5, hz5⟩ := bcell hb5
    go_wp2
    refine bodyPost_ret (v := .tuple #[.agg #[.int .i64 a, .int .i64 b, .int .i64 c], .int .i64 0]) (by simp [results, Tryz.results122, go_sem, hcq, hc1, hc3, hc4, hc5, tq, tq', s2', t2, t3]) rfl ⟨a, b, c, 0, rfl, Or.inl ⟨rfl, by rw [TG.out]; exact hin.1, by rw [TG.out]; exact hin.2, HV.out, by rw [TG.out]; exact HN.out⟩, ?_⟩
    refine Below.setCell (Below.setCell (Below.setCell (Below.trans (Below.trans (Below.trans (Below.trans (Below.trans fin2 (hb.mono (by simp; omega))) (hbq.mono (by omega))) (hb2.mono (by omega))) (hb3.mono (by omega))) (hb5.mono (by omega))) (by simp) _) (by simp) _) (by simp) _
   ·have B : Hid (decide (-719162 ≤ x - k ∧ x - k ≤ 2932896) = false) := decide_eq_false hin
    go_wp2_with fail
    refine (between_is _ _ _ _ B.out).mono ?_
    rintro e w4 ⟨rfl, rfl⟩
    go_wp2
    refine bodyPost_ret (v := .tuple #[.agg #[.int .i64 0, .int .i64 0, .int .i64 0], .int .i64 3]) (by simp [results, Tryz.results122, go_sem, hcq, hc1, hc3, hc4, tq, tq', s2', t2, t3]) rfl ⟨0, 0, 0, 3, rfl, Or.inr ⟨rfl, rfl, rfl, rfl, by rw [TG.out]; omega⟩, ?_⟩
    refine Below.setCell (Below.setCell (Below.setCell (Below.trans (Below.trans (Below.trans (Below.trans fin2 (hb.mono (by simp; omega))) (hbq.mono (by omega))) (hb2.mono (by omega))) (hb3.mono (by omega))) (by simp) _) (by simp) _) (by simp) _
  ·have E : Hid (¬ Cv.wd (x - k) = wk) := fun z => hk ((KEY.out k k0 kr).1 z)
   have e : (Cv.wd (x - k) != wk) = true := by simp [E.out]
   go_wp2_with fail
   go_quiet ((go_at_call 170; exact Calls.quiet_of_same (rWeekday_any _ _)))
   go_wp2
   go_roundw
   case rel => exact ⟨k + 1, by omega, by omega, by go_num, rfl, below_drewN hbq _⟩
   case measure => simp [intOf]; omega

end
section
open Go.RowKit

theorem ron_good (y m k wk n : Int) (w : World) (h : Cv.onE y m k wk n = 0) :
  Calls Tryz.prog 122 #[.int .i64 y, .int .i64 m, .agg #[.int .i64 k, .int .i64 wk, .int .i64 n]] w fun e w' => ∃ a b c : Int, e = .returned (.tuple #[.agg #[.int .i64 a, .int .i64 b, .int .i64 c], .int .i64 0]) ∧ Cv.vldB a b c = true ∧ Cv.num a b c = Cv.tgt y m k wk n ∧ Below w.heap.size w w' := by
 obtain ⟨h1, k1, k2, hf, t1, t2⟩ := Cv.onE_zero h
 have fin : ∀ (e : Ending) (w' : World), (∃ a b c : Int, ∃ r : Int, e = .returned (.tuple #[.agg #[.int .i64 a, .int .i64 b, .int .i64 c], .int .i64 r]) ∧ ((r = 0 ∧ -719162 ≤ Cv.tgt y m k wk n ∧ Cv.tgt y m k wk n ≤ 2932896 ∧ Cv.vldB a b c = true ∧ Cv.num a b c = Cv.tgt y m k wk n) ∨ (r = 3 ∧ a = 0 ∧ b = 0 ∧ c = 0 ∧ (Cv.tgt y m k wk n < -719162 ∨ 2932896 < Cv.tgt y m k wk n))) ∧ Below w.heap.size w w') → ∃ a b c : Int, e = .returned (.tuple #[.agg #[.int .i64 a, .int .i64 b, .int .i64 c], .int .i64 0]) ∧ Cv.vldB a b c = true ∧ Cv.num a b c = Cv.tgt y m k wk n ∧ Below w.heap.size w w' := by
  rintro e w' ⟨a, b, c, r, he, q, hb⟩
  rcases q with ⟨rfl, _, _, hv, hn⟩ | ⟨_, _, _, _, q⟩
  ·exact ⟨a, b, c, he, hv, hn, hb⟩
  ·omega
 have kk : k = 1 ∨ k = 2 ∨ k = 3 ∨ k = 4 := by omega
 rcases kk with rfl | rfl | rfl | rfl
 ·exact (ron_1 y m wk n w h1 hf).mono fin
 ·exact (ron_2 y m wk n w h1 hf).mono fin
 ·exact (ron_3 y m wk n w h1 hf).mono fin
 ·exact (ron_4 y m wk n w h1 hf).mono fin
theorem ron_out (y m k wk n : Int) (w : World) (h1 : Cv.monB y m = true) (k1 : 1 ≤ k) (k2 : k ≤ 4) (hf : Cv.fitB k wk n (Cv.dim y m) = true) (ht : Cv.tgt y m k wk n < -719162 ∨ 2932896 < Cv.tgt y m k wk n) :
  Calls Tryz.prog 122 #[.int .i64 y, .int .i64 m, .agg #[.int .i64 k, .int .i64 wk, .int .i64 n]] w fun e w' => e = .returned (.tuple #[.agg #[.int .i64 0, .int .i64 0, .int .i64 0], .int .i64 3]) ∧ Below w.heap.size w w' := by
 have fin : ∀ (e : Ending) (w' : World), (∃ a b c : Int, ∃ r : Int, e = .returned (.tuple #[.agg #[.int .i64 a, .int .i64 b, .int .i64 c], .int .i64 r]) ∧ ((r = 0 ∧ -719162 ≤ Cv.tgt y m k wk n ∧ Cv.tgt y m k wk n ≤ 2932896 ∧ Cv.vldB a b c = true ∧ Cv.num a b c = Cv.tgt y m k wk n) ∨ (r = 3 ∧ a = 0 ∧ b = 0 ∧ c = 0 ∧ (Cv.tgt y m k wk n < -719162 ∨ 2932896 < Cv.tgt y m k wk n))) ∧ Below w.heap.size w w') → e = .returned (.tuple #[.agg #[.int .i64 0, .int .i64 0, .int .i64 0], .int .i64 3]) ∧ Below w.heap.size w w' := by
  rintro e w' ⟨a, b, c, r, he, q, hb⟩
  rcases q with ⟨_, _, _, _, _⟩ | ⟨rfl, rfl, rfl, rfl, q⟩
  ·omega
  ·exact ⟨he, hb⟩
 have kk : k = 1 ∨ k = 2 ∨ k = 3 ∨ k = 4 := by omega
 rcases kk with rfl | rfl | rfl | rfl
 ·exact (ron_1 y m wk n w h1 hf).mono fin
 ·exact (ron_2 y m wk n w h1 hf).mono fin
 ·exact (ron_3 y m wk n w h1 hf).mono fin
 ·exact (ron_4 y m wk n w h1 hf).mono fin
theorem ron_bad (y m k wk n c : Int) (w : World) (h : Cv.onE y m k wk n = c) (hc : c ≠ 0) :
  Calls Tryz.prog 122 #[.int .i64 y, .int .i64 m, .agg #[.int .i64 k, .int .i64 wk, .int .i64 n]] w fun e w' => e = .returned (.tuple #[.agg #[.int .i64 0, .int .i64 0, .int .i64 0], .int .i64 c]) ∧ Below w.heap.size w w' := by
 unfold Cv.onE at h
 by_cases h1 : Cv.monB y m = false
 ·rw [if_pos h1] at h; subst h; exact ron_mon y m k wk n w h1
 rw [if_neg h1] at h
 have h1' : Cv.monB y m = true := by simpa using h1
 by_cases h2 : k < 1 ∨ 4 < k
 ·rw [if_pos h2] at h; subst h; exact ron_kind y m k wk n w h1' h2
 rw [if_neg h2] at h
 by_cases h3 : Cv.fitB k wk n (Cv.dim y m) = false
 ·rw [if_pos h3] at h; subst h
  have hf : ¬ (0 ≤ wk ∧ wk ≤ 6 ∧ (k = 2 ∧ n = 0 ∨ k ≠ 2 ∧ ¬ (k = 1 ∧ wk ≠ 0) ∧ 1 ≤ n ∧ n ≤ Cv.dim y m)) := fun q => by rw [Cv.fit_iff.2 q] at h3; cases h3
  by_cases a : ¬ (0 ≤ wk ∧ wk ≤ 6) ∨ (k = 1 ∧ wk ≠ 0)
  ·exact ron_wk y m k wk n w h1' (by omega) (by omega) a
  by_cases b : k = 2
  ·subst b; exact ron_last y m wk n w h1' (by omega) (by omega) (by omega)
  ·exact ron_n y m k wk n w h1' (by omega) (by omega) (by omega) (by omega) b (by omega) (by omega)
 rw [if_neg h3] at h
 have h3' : Cv.fitB k wk n (Cv.dim y m) = true := by simpa using h3
 by_cases h4 : Cv.tgt y m k wk n < -719162 ∨ 2932896 < Cv.tgt y m k wk n
 ·rw [if_pos h4] at h; subst h; exact ron_out y m k wk n w h1' (by omega) (by omega) h3' h4
 rw [if_neg h4] at h
 exact absurd h.symm hc

theorem ron_err (y m k wk n c : Int) (w : World) (h : Cv.onE y m k wk n = c) :
  Calls Tryz.prog 122 #[.int .i64 y, .int .i64 m, .agg #[.int .i64 k, .int .i64 wk, .int .i64 n]] w fun e w' => ∃ a b d : Int, e = .returned (.tuple #[.agg #[.int .i64 a, .int .i64 b, .int .i64 d], .int .i64 c]) ∧ Below w.heap.size w w' := by
 by_cases hc : c = 0
 ·subst hc
  refine (ron_good y m k wk n w h).mono ?_
  rintro e w' ⟨a, b, d, he, _, _, hb⟩
  exact ⟨a, b, d, he, hb⟩
 ·refine (ron_bad y m k wk n c w h hc).mono ?_
  rintro e w' ⟨he, hb⟩
  exact ⟨0, 0, 0, he, hb⟩
end
section
open Go.RowKit

theorem inB_is {n a b : Int} {r : Bool} (h : Sx.inB n a b = r) : decide (a ≤ n ∧ n ≤ b) = r := h
theorem letters_str (l : Tx.Bs) (w : World) (hs : l.length ≤ maxLen) {b : Bool} (h : Sx.lettersB l = b) : Calls Tryz.prog 164 #[strV l] w fun e w' => e = .returned (.bool b) ∧ w' = w :=
 rLetters_is _ w (by rw [strV_size]; exact hs) (by rw [strV_data]; exact h)
theorem format_str (l : Tx.Bs) (w : World) (hs : l.length ≤ maxLen) {b : Bool} (h : Sx.formatB l = b) : Calls Tryz.prog 167 #[strV l] w fun e w' => e = .returned (.bool b) ∧ w' = w :=
 isFormat_is _ w (by rw [strV_size]; exact hs) (by rw [strV_data]; exact h)

theorem rCheckRule_any (r : Sx.Rl) (w : World) (hl : r.letter.length ≤ maxLen) :
  Calls Tryz.prog 119 #[ruleV r] w fun e w' => e = .returned (.int .i64 (Sx.ruleE r)) ∧ Below w.heap.size w w' := by
 obtain ⟨name, frm, to_, month, kind, wk, n, at_, clock, save, letter⟩ := r
 obtain ⟨R, hR⟩ : ∃ R, Sx.ruleE ⟨name, frm, to_, month, kind, wk, n, at_, clock, save, letter⟩ = R := ⟨_, rfl⟩
 rw [hR]
 simp only at hl
 unfold Sx.ruleE at hR
 simp only at hR
 obtain ⟨N, hN⟩ : ∃ N, Sx.nameB name = N := ⟨_, rfl⟩
 obtain ⟨L, hL⟩ : ∃ L, Sx.lettersB letter = L := ⟨_, rfl⟩
 obtain ⟨F, hF⟩ : ∃ F, Sx.inB frm 1900 to_ = F := ⟨_, rfl⟩
 obtain ⟨M, hM⟩ : ∃ M, Sx.inB month 1 12 = M := ⟨_, rfl⟩
 obtain ⟨O, hO⟩ : ∃ O, Cv.onE 2001 month kind wk n = O := ⟨_, rfl⟩
 obtain ⟨A, hA⟩ : ∃ A, Sx.inB at_ 0 172800 = A := ⟨_, rfl⟩
 obtain ⟨C, hC⟩ : ∃ C, Sx.inB clock 1 3 = C := ⟨_, rfl⟩
 obtain ⟨S, hS⟩ : ∃ S, Sx.inB save 0 10800 = S := ⟨_, rfl⟩
 rw [hN, hL, hF, hM, hO, hA, hC, hS] at hR
 have HN := hid hN
 have HL := hid hL
 have HF := hid hF
 have HM := hid hM
 have HO := hid hO
 have HA := hid hA
 have HC := hid hC
 have HS := hid hS
 have HR := hid hR
 have SL := hid hl
 clear hN hL hF hM hO hA hC hS hR hl
 have XV := hid (ca_new w (ruleCells ⟨name, frm, to_, month, kind, wk, n, at_, clock, save, letter⟩) 40)
 have BV := hid ((Below.refl w.heap.size w).alloc (Nat.le_refl _) (.cells (ruleCells ⟨name, frm, to_, month, kind, wk, n, at_, clock, save, letter⟩).toArray 40))
 go_enter Tryz.func119, Tryz.ntmps119
 go_wp2_with fail
 refine (isName_str _ _ HN.out).mono ?_
 rintro e w1 ⟨rfl, rfl⟩
 cases N
 ·go_wp2
  go_ret
  exact ⟨ret_int (by rw [← HR.out]; rfl), BV.out⟩
 go_wp2_with fail
 refine (letters_str _ _ SL.out HL.out).mono ?_
 rintro e w1 ⟨rfl, rfl⟩
 cases L
 ·go_wp2
  go_ret
  exact ⟨ret_int (by rw [← HR.out]; rfl), BV.out⟩
 go_wp2_with fail
 refine (between_is _ _ _ _ (inB_is HF.out)).mono ?_
 rintro e w1 ⟨rfl, rfl⟩
 cases F
 ·go_wp2
  go_ret
  exact ⟨ret_int (by rw [← HR.out]; rfl), BV.out⟩
 by_cases hT : 2100 < to_
 ·go_wp2
  go_ret
  exact ⟨ret_int (by rw [← HR.out, decide_eq_false (show ¬ to_ ≤ 2100 by omega)]; rfl), BV.out⟩
 have HT : Hid (decide (to_ ≤ 2100) = true) := decide_eq_true (by omega)
 go_wp2_with fail
 refine (between_is _ _ _ _ (inB_is HM.out)).mono ?_
 rintro e w1 ⟨rfl, rfl⟩
 cases M
 ·go_wp2
  go_ret
  exact ⟨ret_int (by rw [← HR.out, HT.out]; rfl), BV.out⟩
 go_wp2_with fail
 refine (ron_err _ _ _ _ _ _ _ HO.out).mono ?_
 rintro e w1 ⟨a, b, d, rfl, hb⟩
 have X1 := hid (ca_below XV.out hb)
 have B1 : Hid (Below w.heap.size w w1) := BV.out.trans (hb.mono BV.out.size)
 clear hb XV BV
 have X2 := hid (ca_alloc X1.out (.cells #[.int .i64 a, .int .i64 b, .int .i64 d] 63))
 have B2 := hid (Below.alloc B1.out B1.out.size (.cells #[.int .i64 a, .int .i64 b, .int .i64 d] 63))
 by_cases h0 : O = 0
 case neg =>
  have h0' : (O != 0) = true := by simp [h0]
  go_wp2
  go_ret
  refine ⟨ret_int ?_, B2.out⟩
  rw [← HR.out, HT.out]; simp [h0]
 subst h0
 obtain ⟨V, hV⟩ : ∃ V, w1.alloc (.cells #[.int .i64 a, .int .i64 b, .int .i64 d] 63) = V := ⟨_, rfl⟩
 rw [hV] at X2 B2
 obtain ⟨x5, _⟩ := ca_at X2.out 7 rfl
 obtain ⟨x6, _⟩ := ca_at X2.out 8 rfl
 obtain ⟨x7, _⟩ := ca_at X2.out 9 rfl
 have sx := X2.out.1
 clear X1 B1
 go_wp2_with fail
 refine (between_is _ _ _ _ (inB_is HA.out)).mono ?_
 rintro e w2 ⟨rfl, rfl⟩
 cases A
 ·go_wp2
  go_ret
  exact ⟨ret_int (by rw [← HR.out, HT.out]; rfl), B2.out⟩
 go_wp2_with fail
 refine (between_is _ _ _ _ (inB_is HC.out)).mono ?_
 rintro e w2 ⟨rfl, rfl⟩
 cases C
 ·go_wp2
  go_ret
  exact ⟨ret_int (by rw [← HR.out, HT.out]; rfl), B2.out⟩
 go_wp2_with fail
 refine (between_is _ _ _ _ (inB_is HS.out)).mono ?_
 rintro e w2 ⟨rfl, rfl⟩
 cases S
 ·go_wp2
  go_ret
  exact ⟨ret_int (by rw [← HR.out, HT.out]; rfl), B2.out⟩
 go_wp2
 go_ret
 exact ⟨ret_int (by rw [← HR.out, HT.out]; rfl), B2.out⟩

theorem sameUntil_zero (y m d a c : Int) (w : World) :
  Calls Tryz.prog 61 #[.agg #[.int .i64 y, .int .i64 m, .int .i64 d, .int .i64 a, .int .i64 c], .agg #[.int .i64 0, .int .i64 0, .int .i64 0, .int .i64 0, .int .i64 0]] w fun e w' => e = .returned (.bool (decide (y = 0 ∧ m = 0 ∧ d = 0 ∧ a = 0 ∧ c = 0))) ∧ Below w.heap.size w w' := by
 obtain ⟨Z, hZ⟩ : ∃ Z, decide (y = 0 ∧ m = 0 ∧ d = 0 ∧ a = 0 ∧ c = 0) = Z := ⟨_, rfl⟩
 rw [hZ]
 have HZ := hid hZ
 clear hZ
 go_enter Tryz.func61, Tryz.ntmps61
 go_wp2
 all_goals
  go_ret
  refine ⟨ret_bool ?_, ((Below.refl _ _).alloc (Nat.le_refl _) _).alloc (by simp) _⟩
  rw [← HZ.out, Bool.eq_iff_iff]
  simp_all
theorem isDate_is (y m d : Int) (w : World) {b : Bool} (h : Cv.vldB y m d = b) :
  Calls Tryz.prog 168 #[.agg #[.int .i64 y, .int .i64 m, .int .i64 d]] w fun e w' => e = .returned (.bool b) ∧ Below w.heap.size w w' := by
 cases b
 ·exact isDate_no y m d w h
 ·exact isDate_yes y m d w h
theorem sameUntil_is (x : Sx.Er) (w : World) {b : Bool} (h : Sx.untilZ x = b) :
  Calls Tryz.prog 61 #[.agg #[.int .i64 x.uy, .int .i64 x.um, .int .i64 x.ud, .int .i64 x.uat, .int .i64 x.uclock], .agg #[.int .i64 0, .int .i64 0, .int .i64 0, .int .i64 0, .int .i64 0]] w fun e w' => e = .returned (.bool b) ∧ Below w.heap.size w w' := by
 subst h; exact sameUntil_zero _ _ _ _ _ w

theorem rCheckEra_any (x : Sx.Er) (last : Bool) (w : World) (hl : x.format.length ≤ maxLen) :
  Calls Tryz.prog 121 #[eraV x, .bool last] w fun e w' => e = .returned (.int .i64 (Sx.eraE x last)) ∧ Below w.heap.size w w' := by
 obtain ⟨R, hR⟩ : ∃ R, Sx.eraE x last = R := ⟨_, rfl⟩
 rw [hR]
 unfold Sx.eraE at hR
 have HX : Hid (x = ⟨x.shift, x.rules, x.save, x.format, x.opn, x.uy, x.um, x.ud, x.uat, x.uclock⟩) := rfl
 obtain ⟨P, hP⟩ : ∃ P, x.rules.isEmpty = P := ⟨_, rfl⟩
 obtain ⟨N, hN⟩ : ∃ N, Sx.nameB x.rules = N := ⟨_, rfl⟩
 obtain ⟨F, hF⟩ : ∃ F, Sx.formatB x.format = F := ⟨_, rfl⟩
 obtain ⟨S, hS⟩ : ∃ S, Sx.inB x.shift (-64800) 64800 = S := ⟨_, rfl⟩
 obtain ⟨V, hV⟩ : ∃ V, Sx.inB x.save 0 10800 = V := ⟨_, rfl⟩
 obtain ⟨E, hE⟩ : ∃ E, Sx.endE x = E := ⟨_, rfl⟩
 rw [hP, hN, hF, hS, hV, hE] at hR
 obtain ⟨U, hU⟩ : ∃ U, Sx.untilZ x = U := ⟨_, rfl⟩
 obtain ⟨D, hD⟩ : ∃ D, Cv.vldB x.uy x.um x.ud = D := ⟨_, rfl⟩
 obtain ⟨T, hT⟩ : ∃ T, Sx.inB x.uat 0 172800 = T := ⟨_, rfl⟩
 unfold Sx.endE at hE
 rw [hU, hD, hT] at hE
 have HN := hid hN
 have HF := hid hF
 have HS := hid hS
 have HV := hid hV
 have HE := hid hE
 have HU := hid hU
 have HD := hid hD
 have HT := hid hT
 have HR := hid hR
 have SL := hid hl
 clear hN hF hS hV hE hU hD hT hR hl
 have XV := hid (ca_new w (eraCells x) 67)
 have BV := hid ((Below.refl w.heap.size w).alloc (Nat.le_refl _) (.cells (eraCells x).toArray 67))
 obtain ⟨G1, hG1⟩ : ∃ G, ((P || N) && F) = G := ⟨_, rfl⟩
 obtain ⟨G2, hG2⟩ : ∃ G, (P || decide (x.save = 0)) = G := ⟨_, rfl⟩
 have HR1 : Hid ((if G1 = false then 1 else if S = false then 3 else if V = false then 3 else if G2 = false then 1 else if x.opn ≠ last then 4 else E) = R) := by show _ = _; rw [← hG1, ← hG2]; exact HR.out
 have HG1 := hid hG1
 have HG2 := hid hG2
 clear HR hG1 hG2
 have hPe : (!x.rules.isEmpty) = !P := by rw [hP]
 have HP := hid hP
 clear hP
 go_enter Tryz.func121, Tryz.ntmps121
 go_upto_region 1 with fail
 obtain ⟨W, hW⟩ : ∃ W, w.alloc (.cells (eraCells x).toArray 67) = W := ⟨_, rfl⟩
 rw [show w.alloc (.cells #[.int .i64 x.shift, strV x.rules, .int .i64 x.save, strV x.format, .bool x.opn, .int .i64 x.uy, .int .i64 x.um, .int .i64 x.ud, .int .i64 x.uat, .int .i64 x.uclock] 67) = W from hW]
 rw [hW] at XV BV
 clear hW
 obtain ⟨x0, _⟩ := ca_at XV.out 0 rfl
 obtain ⟨x1, _⟩ := ca_at XV.out 1 rfl
 obtain ⟨x2, _⟩ := ca_at XV.out 2 rfl
 obtain ⟨x3, _⟩ := ca_at XV.out 3 rfl
 obtain ⟨x4, _⟩ := ca_at XV.out 4 rfl
 obtain ⟨x5, _⟩ := ca_at XV.out 5 rfl
 obtain ⟨x6, _⟩ := ca_at XV.out 6 rfl
 obtain ⟨x7, _⟩ := ca_at XV.out 7 rfl
 obtain ⟨x8, _⟩ := ca_at XV.out 8 rfl
 obtain ⟨x9, _⟩ := ca_at XV.out 9 rfl
 have sx := XV.out.1
 go_cut [19] from 5 to 18 (fun s wc => s = .bool (!G1) ∧ wc = W)
 case first =>
  cases P
  ·go_wp2_with fail
   refine (isName_str _ _ HN.out).mono ?_
   rintro e w1 ⟨rfl, rfl⟩
   cases N
   ·go_wp2_with fail
    go_meet
    exact ⟨by rw [← HG1.out]; rfl, rfl⟩
   ·go_wp2_with fail
    refine (format_str _ _ SL.out HF.out).mono ?_
    rintro e w1 ⟨rfl, rfl⟩
    go_wp2_with fail
    go_meet
    exact ⟨by rw [← HG1.out]; rfl, rfl⟩
  ·go_wp2_with fail
   refine (format_str _ _ SL.out HF.out).mono ?_
   rintro e w1 ⟨rfl, rfl⟩
   go_wp2_with fail
   go_meet
   exact ⟨by rw [← HG1.out]; rfl, rfl⟩
 case rest =>
 obtain ⟨rfl, hq⟩ := hcut
 rw [hq]
 clear hq
 cases G1
 ·go_wp2
  go_ret
  exact ⟨ret_int (by rw [← HR1.out]; rfl), BV.out⟩
 go_wp2_with fail
 refine (between_is _ _ _ _ (inB_is HS.out)).mono ?_
 rintro e w1 ⟨rfl, hq⟩
 rw [hq]
 clear hq
 cases S
 ·go_wp2
  go_ret
  exact ⟨ret_int (by rw [← HR1.out]; rfl), BV.out⟩
 go_wp2_with fail
 refine (between_is _ _ _ _ (inB_is HV.out)).mono ?_
 rintro e w1 ⟨rfl, hq⟩
 rw [hq]
 clear hq
 cases V
 ·go_wp2
  go_ret
  exact ⟨ret_int (by rw [← HR1.out]; rfl), BV.out⟩
 go_upto_region 5 with fail
 go_cut [37] from 30 to 36 (fun s wc => s = .bool (!G2) ∧ wc = W)
 case first =>
  cases P
  ·go_wp2_with fail
   go_meet
   exact ⟨by rw [← HG2.out]; simp [bne, BEq.beq], rfl⟩
  ·go_wp2_with fail
   go_meet
   exact ⟨by rw [← HG2.out]; rfl, rfl⟩
 case rest =>
 obtain ⟨rfl, hq⟩ := hcut
 rw [hq]
 clear hq
 cases G2
 ·go_wp2
  go_ret
  exact ⟨ret_int (by rw [← HR1.out]; rfl), BV.out⟩
 cases hO : x.opn
 ·rw [hO] at x4
  cases last
  case true =>
   go_wp2
   go_ret
   exact ⟨ret_int (by rw [← HR1.out, hO]; rfl), BV.out⟩
  have HR2 : Hid (E = R) := by show _ = _; rw [← HR1.out, hO]; rfl
  have HE2 : Hid ((if D = false then (3 : Int) else if T = false then 3 else if x.uclock = 2 ∨ x.uclock = 3 then 0 else 7) = R) := by show _ = _; rw [← HR2.out, ← HE.out, hO]; rfl
  go_wp2_with fail
  refine (isDate_is _ _ _ _ HD.out).mono ?_
  rintro e w1 ⟨rfl, hb⟩
  have X1 := hid (ca_below XV.out hb)
  have B1 : Hid (Below w.heap.size w w1) := BV.out.trans (hb.mono BV.out.size)
  clear hb XV BV x0 x1 x2 x3 x4 x5 x6 x7 x8 x9 sx
  obtain ⟨x8, _⟩ := ca_at X1.out 8 rfl
  obtain ⟨x9, _⟩ := ca_at X1.out 9 rfl
  have sx := X1.out.1
  cases D
  ·go_wp2
   go_ret
   exact ⟨ret_int (by rw [← HE2.out]; rfl), B1.out⟩
  go_wp2_with fail
  refine (between_is _ _ _ _ (inB_is HT.out)).mono ?_
  rintro e w2 ⟨rfl, rfl⟩
  cases T
  ·go_wp2
   go_ret
   exact ⟨ret_int (by rw [← HE2.out]; rfl), B1.out⟩
  by_cases h2 : x.uclock = 2
  ·have HE3 : Hid ((0 : Int) = R) := by show _ = _; rw [← HE2.out]; simp [h2]
   have n2 : (x.uclock != 2) = false := by simp [h2]
   go_wp2
   go_ret
   exact ⟨ret_int HE3.out, B1.out⟩
  have n2 : (x.uclock != 2) = true := by simp [h2]
  by_cases h3 : x.uclock = 3
  ·have HE3 : Hid ((0 : Int) = R) := by show _ = _; rw [← HE2.out]; simp [h3]
   have n3 : (x.uclock != 3) = false := by simp [h3]
   go_wp2
   go_ret
   exact ⟨ret_int HE3.out, B1.out⟩
  have n3 : (x.uclock != 3) = true := by simp [h3]
  have HE3 : Hid ((7 : Int) = R) := by show _ = _; rw [← HE2.out]; simp [h2, h3]
  go_wp2
  go_ret
  exact ⟨ret_int HE3.out, B1.out⟩
 ·rw [hO] at x4
  cases last
  case false =>
   go_wp2
   go_ret
   exact ⟨ret_int (by rw [← HR1.out, hO]; rfl), BV.out⟩
  have HR2 : Hid (E = R) := by show _ = _; rw [← HR1.out, hO]; rfl
  have HE2 : Hid ((if U = true then (0 : Int) else 1) = R) := by show _ = _; rw [← HR2.out, ← HE.out, hO]; rfl
  go_wp2_with fail
  refine (sameUntil_is x _ HU.out).mono ?_
  rintro e w1 ⟨rfl, hb⟩
  have B1 : Hid (Below w.heap.size w w1) := BV.out.trans (hb.mono BV.out.size)
  cases U
  ·go_wp2
   go_ret
   exact ⟨ret_int (by rw [← HE2.out]; rfl), B1.out⟩
  ·go_wp2
   go_ret
   exact ⟨ret_int (by rw [← HE2.out]; rfl), B1.out⟩
end
section
open Go.RowKit

/- texts of a source that are not too long for any machine -/
structure SizedS (s : Sx.Sr) : Prop where
 rules : ∀ r ∈ s.rules, r.name.length ≤ maxLen ∧ r.letter.length ≤ maxLen
 zones : ∀ z ∈ s.zones, z.name.length ≤ maxLen ∧ ∀ x ∈ z.eras, x.rules.length ≤ maxLen ∧ x.format.length ≤ maxLen
 links : ∀ l ∈ s.links, l.to.length ≤ maxLen ∧ l.name.length ≤ maxLen
theorem rd_elem {α : Type} {z : Nat} {cells : α → List Value} {w : World} {a : Option Addr} {n cap : Nat} {xs : List α} {i : Nat} {x : α} (h : Rd z cells w (.slice a n cap) xs) (hx : xs[i]? = some x) :
  ∃ b o, a = some ⟨b, o, none⟩ ∧ b < w.heap.size ∧ ∀ k u, (cells x)[k]? = some u → w.cell? ⟨b, o + i * z + k, none⟩ = some u := by
 obtain ⟨a', cap', h1, h2⟩ := h
 simp at h1
 obtain ⟨rfl, _, _⟩ := h1
 obtain ⟨b, o, e, hb, hc⟩ := h2 (by rintro rfl; simp at hx)
 exact ⟨b, o, e, hb, hc i x hx⟩
theorem rd_zone_at {w : World} {a : Option Addr} {n cap : Nat} {zs : List Sx.Zn} {i : Nat} {x : Sx.Zn} (h : RdZones w (.slice a n cap) zs) (hx : zs[i]? = some x) :
  ∃ b o ea ecap, a = some ⟨b, o, none⟩ ∧ b < w.heap.size ∧ w.cell? ⟨b, o + i * 2, none⟩ = some (strV x.name) ∧ w.cell? ⟨b, o + i * 2 + 1, none⟩ = some (.slice ea x.eras.length ecap) ∧ RdEras w (.slice ea x.eras.length ecap) x.eras := by
 obtain ⟨b, o, cap', e, hb, hc⟩ := rd_zone h (by rintro rfl; simp at hx)
 simp at e
 obtain ⟨c0, ev, c1, hr⟩ := hc i x hx
 obtain ⟨ea, ecap, rfl⟩ := rd_shape hr
 exact ⟨b, o, ea, ecap, e.1, hb, c0, c1, hr⟩
theorem orE_first {α : Type} (f : α → Int) {l : List α} {i : Nat} {x : α} {R K : Int} (h : l[i]? = some x) (hR : R = Sx.orE (Sx.firstE f (l.drop i)) K) (hx : f x ≠ 0) : R = f x := by
 rw [hR, Sx.firstE_drop f h, if_pos hx, Sx.orE_left hx]
theorem orE_next {α : Type} (f : α → Int) {l : List α} {i : Nat} {x : α} {R K : Int} (h : l[i]? = some x) (hR : R = Sx.orE (Sx.firstE f (l.drop i)) K) (hx : f x = 0) : R = Sx.orE (Sx.firstE f (l.drop (i + 1))) K := by
 rw [hR, Sx.firstE_drop f h, if_neg (by simp [hx])]
theorem orE_end {α : Type} (f : α → Int) {l : List α} {i : Nat} {R K : Int} (h : ¬ i < l.length) (hR : R = Sx.orE (Sx.firstE f (l.drop i)) K) : R = K := by
 rw [hR, Sx.firstE_end f h, Sx.orE_right rfl]
theorem zoneE_name {z : Sx.Zn} (h : Sx.nameB z.name = false) : Sx.zoneE z = 1 := by simp [Sx.zoneE, h]
theorem zoneE_none {z : Sx.Zn} (h : z.eras.length = 0) : Sx.zoneE z = 1 := by simp [Sx.zoneE, List.length_eq_zero_iff.1 h]
theorem zoneE_eras {z : Sx.Zn} (h : Sx.nameB z.name = true) (h2 : ¬ z.eras.length = 0) : Sx.zoneE z = Sx.erasE (z.eras.drop 0) := by
 have : z.eras ≠ [] := fun q => h2 (by simp [q])
 simp [Sx.zoneE, h, this]
theorem linkE_to {l : Sx.Lk} (h : Sx.nameB l.to = false) : Sx.linkE l = 1 := by simp [Sx.linkE, h]
theorem linkE_is {l : Sx.Lk} {b : Bool} (h : Sx.nameB l.to = true) (h2 : Sx.nameB l.name = b) : Sx.linkE l = if b = true then 0 else 1 := by cases b <;> simp [Sx.linkE, h, h2]

theorem checkSource_any (s : Sx.Sr) (r z l : Value) (w : World) (h : RdSrc w r z l s) (hs : SizedS s) :
  Calls Tryz.prog 57 #[.agg #[r, z, l]] w fun e w' => e = .returned (.int .i64 (Sx.srcE s)) ∧ Below w.heap.size w w' := by
 obtain ⟨rs, zs, ls⟩ := s
 obtain ⟨R, hR⟩ : ∃ R, Sx.srcE ⟨rs, zs, ls⟩ = R := ⟨_, rfl⟩
 rw [hR]
 have HR := hid hR
 obtain ⟨h1, h2, h3⟩ := h
 simp only at h1 h2 h3
 obtain ⟨ra, rcap, rfl⟩ := rd_shape h1
 obtain ⟨za, zcap, rfl⟩ := rdZones_shape h2
 obtain ⟨la, lcap, rfl⟩ := rd_shape h3
 have H1 := hid h1
 have H2 := hid h2
 have H3 := hid h3
 have HS := hid hs
 clear hR h1 h2 h3 hs
 by_cases m1 : 40 < rs.length
 ·have HR2 : Hid (R = 2) := by show _ = _; rw [← HR.out]; exact Sx.src_many (by simp [Sx.manyB, m1])
  go_enter Tryz.func57, Tryz.ntmps57
  go_wp2
  go_ret
  exact ⟨ret_int (by rw [HR2.out]), (Below.refl _ _).alloc (Nat.le_refl _) _⟩
 by_cases m2 : 20 < zs.length
 ·have HR2 : Hid (R = 2) := by show _ = _; rw [← HR.out]; exact Sx.src_many (by simp [Sx.manyB, m2])
  go_enter Tryz.func57, Tryz.ntmps57
  go_wp2
  go_ret
  exact ⟨ret_int (by rw [HR2.out]), (Below.refl _ _).alloc (Nat.le_refl _) _⟩
 by_cases m3 : 20 < ls.length
 ·have HR2 : Hid (R = 2) := by show _ = _; rw [← HR.out]; exact Sx.src_many (by simp [Sx.manyB, m3])
  go_enter Tryz.func57, Tryz.ntmps57
  go_wp2
  go_ret
  exact ⟨ret_int (by rw [HR2.out]), (Below.refl _ _).alloc (Nat.le_refl _) _⟩
 have XV := hid (ca_new w [.slice ra rs.length rcap, .slice za zs.length zcap, .slice la ls.length lcap] 26)
 have BV := hid ((Below.refl w.heap.size w).alloc (Nat.le_refl _) (.cells [.slice ra rs.length rcap, .slice za zs.length zcap, .slice la ls.length lcap].toArray 26))
 go_enter Tryz.func57, Tryz.ntmps57
 go_wp2_with fail
 obtain ⟨V, hV⟩ : ∃ V, w.alloc (.cells [.slice ra rs.length rcap, .slice za zs.length zcap, .slice la ls.length lcap].toArray 26) = V := ⟨_, rfl⟩
 rw [show w.alloc (.cells #[.slice ra rs.length rcap, .slice za zs.length zcap, .slice la ls.length lcap] 26) = V from hV]
 rw [hV] at XV BV
 clear hV
 go_loop [3] (fun a => ∃ i : Nat, i ≤ zs.length ∧ a = .int .i64 i ∧ Hid (∀ (j : Nat) (x : Sx.Zn), j < i → zs[j]? = some x → ¬ 8 < x.eras.length)) (fun a => zs.length - (intOf a).toNat)
 case atStart => exact ⟨0, by omega, rfl, fun j x h => by omega⟩
 case round =>
  obtain ⟨i, hi, rfl, HM⟩ := hrel
  obtain ⟨x1, _⟩ := ca_at XV.out 1 rfl
  have sx := XV.out.1
  by_cases hlt : i < zs.length
  case pos =>
   obtain ⟨x, hx⟩ : ∃ x, zs[i]? = some x := ⟨_, List.getElem?_eq_getElem hlt⟩
   obtain ⟨zb, zo, ea, ecap, rfl, hzb, c0, c1, hr⟩ := rd_zone_at (rdZones_below H2.out BV.out) hx
   by_cases h8 : 8 < x.eras.length
   ·have HR2 : Hid (R = 2) := by show _ = _; rw [← HR.out]; exact Sx.src_many (Sx.many_zone hx h8)
    clear hr hx
    go_wp2
    go_ret
    exact ⟨ret_int (by rw [HR2.out]), BV.out⟩
   have HX := hid hx
   clear hr hx
   go_wp2
   go_round
   case rel =>
    refine ⟨i + 1, by omega, by go_num, fun j y hj hy => ?_⟩
    by_cases q : j < i
    ·exact HM.out j y q hy
    ·obtain rfl : j = i := by omega
     rw [HX.out] at hy
     simp at hy
     subst hy
     exact h8
   case measure => simp [intOf]; omega
  have HR2 : Hid (R = Sx.orE (Sx.firstE Sx.ruleE (rs.drop 0)) (Sx.orE (Sx.firstE Sx.zoneE zs) (Sx.firstE Sx.linkE ls))) := by
   show _ = _
   rw [← HR.out, Sx.src_few (Sx.many_no m1 m2 m3 fun j x hj hx => HM.out j x (Nat.lt_of_lt_of_le hj (Nat.not_lt.1 hlt)) hx)]
   rfl
  have HM8 : Hid (∀ (j : Nat) (x : Sx.Zn), zs[j]? = some x → ¬ 8 < x.eras.length) := fun j x hx => HM.out j x (Nat.lt_of_lt_of_le (List.getElem?_eq_some_iff.1 hx).1 (Nat.not_lt.1 hlt)) hx
  clear HR HM
  go_wp2_with fail
  clear hlt hi
  go_loopw [4] (fun a wr => ∃ i : Nat, i ≤ rs.length ∧ a = .int .i64 i ∧ Hid (Below w.heap.size w wr) ∧ Hid (CellsAt wr w.heap.size [.slice ra rs.length rcap, .slice za zs.length zcap, .slice la ls.length lcap]) ∧ Hid (R = Sx.orE (Sx.firstE Sx.ruleE (rs.drop i)) (Sx.orE (Sx.firstE Sx.zoneE zs) (Sx.firstE Sx.linkE ls)))) (fun a _ => rs.length - (intOf a).toNat)
  case atStart => exact ⟨0, by omega, rfl, BV, XV, HR2⟩
  case round =>
   clear HR2 XV BV x1 sx
   obtain ⟨k, hk, rfl, B0, X0, HR⟩ := hrel
   obtain ⟨x0, _⟩ := ca_at X0.out 0 rfl
   have sx := X0.out.1
   by_cases hlt : k < rs.length
   case pos =>
    obtain ⟨x, hx⟩ : ∃ x, rs[k]? = some x := ⟨_, List.getElem?_eq_getElem hlt⟩
    obtain ⟨rb, ro, rfl, hrb, hc⟩ := rd_elem (rd_below H1.out B0.out) hx
    obtain ⟨c0, c1, c2, c3, c4, c5, c6, c7, c8, c9, c10⟩ := rd_rule hc
    have HX := hid hx
    have SX := hid (HS.out.rules x (List.mem_of_getElem? hx)).2
    clear hc hx
    go_wp2_with fail
    refine (rCheckRule_any x _ SX.out).mono ?_
    rintro e w1 ⟨rfl, hb⟩
    have B1 : Hid (Below w.heap.size w w1) := B0.out.trans (hb.mono B0.out.size)
    have X1 := hid (ca_below X0.out hb)
    clear hb B0 X0 x0 sx c0 c1 c2 c3 c4 c5 c6 c7 c8 c9 c10 hrb
    obtain ⟨E, hE⟩ : ∃ E, Sx.ruleE x = E := ⟨_, rfl⟩
    rw [hE]
    by_cases h0 : E = 0
    case neg =>
     have HR2 : Hid (R = E) := by show _ = _; rw [← hE]; exact orE_first _ HX.out HR.out (by rw [hE]; exact h0)
     have h0' : (E != 0) = true := by simp [h0]
     clear hE
     go_wp2
     go_ret
     exact ⟨ret_int (by rw [HR2.out]), B1.out⟩
    have HR2 : Hid (R = Sx.orE (Sx.firstE Sx.ruleE (rs.drop (k + 1))) (Sx.orE (Sx.firstE Sx.zoneE zs) (Sx.firstE Sx.linkE ls))) := orE_next _ HX.out HR.out (by rw [hE]; exact h0)
    clear hE HR
    subst h0
    go_wp2
    go_roundw
    case rel => exact ⟨k + 1, by omega, by go_num, B1, X1, HR2⟩
    case measure => simp [intOf]; omega
   have HR2 : Hid (R = Sx.orE (Sx.firstE Sx.zoneE (zs.drop 0)) (Sx.firstE Sx.linkE ls)) := orE_end _ hlt HR.out
   clear HR
   go_wp2_with fail
   clear hlt hk
   go_loopw [6] (fun a wr => ∃ i : Nat, i ≤ zs.length ∧ a = .int .i64 i ∧ Hid (Below w.heap.size w wr) ∧ Hid (CellsAt wr w.heap.size [.slice ra rs.length rcap, .slice za zs.length zcap, .slice la ls.length lcap]) ∧ Hid (R = Sx.orE (Sx.firstE Sx.zoneE (zs.drop i)) (Sx.firstE Sx.linkE ls))) (fun a _ => zs.length - (intOf a).toNat)
   case atStart => exact ⟨0, by omega, rfl, B0, X0, HR2⟩
   case round =>
    clear HR2 X0 B0 x0 sx
    obtain ⟨i, hi, rfl, B0, X0, HR⟩ := hrel
    obtain ⟨x1, _⟩ := ca_at X0.out 1 rfl
    have sx := X0.out.1
    by_cases hlt : i < zs.length
    case pos =>
     obtain ⟨x, hx⟩ : ∃ x, zs[i]? = some x := ⟨_, List.getElem?_eq_getElem hlt⟩
     obtain ⟨zb, zo, ea, ecap, rfl, hzb, c0, c1, hr⟩ := rd_zone_at (rdZones_below H2.out B0.out) hx
     have HX := hid hx
     have HE0 := hid hr
     have SX := hid (HS.out.zones x (List.mem_of_getElem? hx)).2
     have h8 := HM8.out i x hx
     clear hx hr
     obtain ⟨N, hN⟩ : ∃ N, Sx.nameB x.name = N := ⟨_, rfl⟩
     have HN := hid hN
     clear hN
     go_wp2_with fail
     refine (isName_str _ _ HN.out).mono ?_
     rintro e w1 ⟨rfl, hq⟩
     rw [hq]
     clear hq
     cases N
     ·have HR2 : Hid (R = 1) := by show _ = _; rw [← zoneE_name HN.out]; exact orE_first _ HX.out HR.out (by rw [zoneE_name HN.out]; decide)
      go_wp2
      go_ret
      exact ⟨ret_int (by rw [HR2.out]), B0.out⟩
     by_cases he : x.eras.length = 0
     ·have HR2 : Hid (R = 1) := by show _ = _; rw [← zoneE_none he]; exact orE_first _ HX.out HR.out (by rw [zoneE_none he]; decide)
      have he' : ((x.eras.length : Int) == 0) = true := by simp [he]
      go_wp2
      go_ret
      exact ⟨ret_int (by rw [HR2.out]), B0.out⟩
     have he' : ((x.eras.length : Int) == 0) = false := by rw [beq_eq_false_iff_ne]; omega
     obtain ⟨ZE, hZE⟩ : ∃ ZE, Sx.zoneE x = ZE := ⟨_, rfl⟩
     have HZ : Hid (Sx.zoneE x = ZE) := hZE
     have HZ0 : Hid (ZE = Sx.erasE (x.eras.drop 0)) := by show _ = _; rw [← hZE]; exact zoneE_eras HN.out he
     clear hZE
     go_wp2_with fail
     go_loopw [8] (fun a wr => ∃ k : Nat, k ≤ x.eras.length ∧ a = .int .i64 k ∧ Hid (Below w.heap.size w wr) ∧ Hid (CellsAt wr w.heap.size [.slice ra rs.length rcap, .slice (some ⟨zb, zo, none⟩) zs.length zcap, .slice la ls.length lcap]) ∧ Hid (RdEras wr (.slice ea x.eras.length ecap) x.eras) ∧ Hid (ZE = Sx.erasE (x.eras.drop k))) (fun a _ => x.eras.length - (intOf a).toNat)
     case atStart => exact ⟨0, by omega, rfl, B0, X0, HE0, HZ0⟩
     case round =>
      clear HZ0 X0 B0 HE0 x1 sx c0 c1 hzb
      obtain ⟨k, hk, rfl, B0, X0, HE0, HZ0⟩ := hrel
      by_cases hlk : k < x.eras.length
      case pos =>
       obtain ⟨y, hy⟩ : ∃ y, x.eras[k]? = some y := ⟨_, List.getElem?_eq_getElem hlk⟩
       obtain ⟨eb, eo, rfl, heb, hc⟩ := rd_elem HE0.out hy
       obtain ⟨c0, c1, c2, c3, c4, c5, c6, c7, c8, c9⟩ := rd_era hc
       have HY := hid hy
       have SY := hid (SX.out y (List.mem_of_getElem? hy)).2
       clear hc hy
       have hbound : x.eras.length - 1 + 1 = x.eras.length := by omega
       obtain ⟨T, hT⟩ : ∃ T, decide (k + 1 = x.eras.length) = T := ⟨_, rfl⟩
       have hT' : ((k : Int) == (x.eras.length : Int) - 1) = T := by rw [← hT, Bool.eq_iff_iff]; simp; omega
       have HT := hid hT
       clear hT hbound
       go_wp2_with fail
       with_reducible refine (rCheckEra_any y T _ SY.out).mono ?_
       rintro e w1 ⟨rfl, hb⟩
       have B1 : Hid (Below w.heap.size w w1) := B0.out.trans (hb.mono B0.out.size)
       have X1 := hid (ca_below X0.out hb)
       have E1 := hid (rd_below HE0.out hb)
       clear hb B0 X0 HE0 c0 c1 c2 c3 c4 c5 c6 c7 c8 c9 heb
       obtain ⟨E, hE⟩ : ∃ E, Sx.eraE y T = E := ⟨_, rfl⟩
       rw [hE]
       by_cases h0 : E = 0
       case neg =>
        have HR2 : Hid (R = E) := by
         show _ = _
         have q : ZE = E := by rw [← hE]; exact Sx.erasE_at HY.out HT.out HZ0.out (by rw [hE]; exact h0)
         rw [← q, ← HZ.out]; exact orE_first _ HX.out HR.out (by rw [HZ.out, q]; exact h0)
        have h0' : (E != 0) = true := by simp [h0]
        clear hE
        go_wp2
        go_ret
        exact ⟨ret_int (by rw [HR2.out]), B1.out⟩
       have HZ2 : Hid (ZE = Sx.erasE (x.eras.drop (k + 1))) := Sx.erasE_next HY.out HT.out HZ0.out (by rw [hE]; exact h0)
       clear hE HZ0
       subst h0
       go_wp2
       go_roundw
       case rel => exact ⟨k + 1, by omega, by go_num, B1, X1, E1, HZ2⟩
       case measure => simp [intOf]; omega
      have HR2 : Hid (R = Sx.orE (Sx.firstE Sx.zoneE (zs.drop (i + 1))) (Sx.firstE Sx.linkE ls)) := orE_next _ HX.out HR.out (by rw [HZ.out, HZ0.out]; exact Sx.erasE_end hlk)
      go_wp2
      go_roundw
      case rel => exact ⟨i + 1, by omega, by go_num, B0, X0, HR2⟩
      case measure => simp [intOf]; omega
    have HR2 : Hid (R = Sx.firstE Sx.linkE (ls.drop 0)) := orE_end _ hlt HR.out
    clear HR
    go_wp2_with fail
    clear hlt hi
    go_loopw [10] (fun a wr => ∃ i : Nat, i ≤ ls.length ∧ a = .int .i64 i ∧ Hid (Below w.heap.size w wr) ∧ Hid (CellsAt wr w.heap.size [.slice ra rs.length rcap, .slice za zs.length zcap, .slice la ls.length lcap]) ∧ Hid (R = Sx.firstE Sx.linkE (ls.drop i))) (fun a _ => ls.length - (intOf a).toNat)
    case atStart => exact ⟨0, by omega, rfl, B0, X0, HR2⟩
    case round =>
     clear HR2 X0 B0 x1 sx
     obtain ⟨i, hi, rfl, B0, X0, HR⟩ := hrel
     obtain ⟨x2, _⟩ := ca_at X0.out 2 rfl
     have sx := X0.out.1
     by_cases hlt : i < ls.length
     case neg =>
      have HR2 : Hid (R = 0) := by show _ = _; rw [HR.out]; exact Sx.firstE_end _ hlt
      go_wp2
      go_ret
      exact ⟨ret_int (by rw [HR2.out]), B0.out⟩
     obtain ⟨x, hx⟩ : ∃ x, ls[i]? = some x := ⟨_, List.getElem?_eq_getElem hlt⟩
     obtain ⟨lb, lo, rfl, hlb, hc⟩ := rd_elem (rd_below H3.out B0.out) hx
     obtain ⟨c0, c1⟩ := rd_link hc
     have HX := hid hx
     clear hc hx
     obtain ⟨N, hN⟩ : ∃ N, Sx.nameB x.to = N := ⟨_, rfl⟩
     obtain ⟨M, hM⟩ : ∃ M, Sx.nameB x.name = M := ⟨_, rfl⟩
     have HN := hid hN
     have HM := hid hM
     clear hN hM
     go_wp2_with fail
     refine (isName_str _ _ HN.out).mono ?_
     rintro e w1 ⟨rfl, hq⟩
     rw [hq]
     clear hq
     cases N
     ·have HR2 : Hid (R = 1) := by show _ = _; rw [← linkE_to HN.out]; exact Sx.firstE_at _ HX.out HR.out (by rw [linkE_to HN.out]; decide)
      go_wp2
      go_ret
      exact ⟨ret_int (by rw [HR2.out]), B0.out⟩
     go_wp2_with fail
     refine (isName_str _ _ HM.out).mono ?_
     rintro e w1 ⟨rfl, hq⟩
     rw [hq]
     clear hq
     cases M
     ·have HR2 : Hid (R = 1) := by
       show _ = _
       have q := linkE_is HN.out HM.out
       rw [if_neg (by decide)] at q
       rw [← q]; exact Sx.firstE_at _ HX.out HR.out (by rw [q]; decide)
      go_wp2
      go_ret
      exact ⟨ret_int (by rw [HR2.out]), B0.out⟩
     have HR2 : Hid (R = Sx.firstE Sx.linkE (ls.drop (i + 1))) := Sx.firstE_next _ HX.out HR.out (linkE_is HN.out HM.out)
     go_wp2
     go_roundw
     case rel => exact ⟨i + 1, by omega, by go_num, B0, X0, HR2⟩
     case measure => simp [intOf]; omega
end
section
open Go.RowKit

theorem within_any (n a b : Int) (w : World) :
  Calls Tryz.prog 153 #[.int .i64 n, .int .i64 a, .int .i64 b] w fun e w' => e = .returned (.bool (decide (a ≤ n ∧ n ≤ b))) ∧ w' = w := by
 by_cases h1 : a ≤ n <;> by_cases h2 : n ≤ b
 all_goals
  go_enter Tryz.func153, Tryz.ntmps153
  go_wp2
  go_ret
  exact ⟨ret_bool (by simp [h1, h2]), rfl⟩
theorem within_is (n a b : Int) (w : World) {r : Bool} (h : Sx.inB n a b = r) :
  Calls Tryz.prog 153 #[.int .i64 n, .int .i64 a, .int .i64 b] w fun e w' => e = .returned (.bool r) ∧ w' = w := by
 have h' : decide (a ≤ n ∧ n ≤ b) = r := h
 subst h'; exact within_any n a b w
def uE (b : Bool) (e : Int) : Int := if b = true then 0 else e
theorem unless_any (b : Bool) (e0 : Int) (w : World) :
  Calls Tryz.prog 150 #[.bool b, .int .i64 e0] w fun e w' => e = .returned (.int .i64 (uE b e0)) ∧ w' = w := by
 cases b
 all_goals
  go_enter Tryz.func150, Tryz.ntmps150
  go_wp2
  go_ret
  exact ⟨rfl, rfl⟩
theorem or_any (ns : List Int) (b cap : Nat) (w : World) (h : CellsAt w b (ns.map (Value.int .i64))) (hn : ns.length ≤ 100) :
  Calls Tryz.prog 89 #[.slice (some ⟨b, 0, none⟩) ns.length cap] w fun e w' => e = .returned (.int .i64 (Sx.firstE id ns)) ∧ w' = w := by
 obtain ⟨R, hR⟩ : ∃ R, Sx.firstE id ns = R := ⟨_, rfl⟩
 rw [hR]
 have HR : Hid (R = Sx.firstE id (ns.drop 0)) := hR.symm
 have H := hid h
 have sb := h.1
 clear hR h
 go_enter Tryz.func89, Tryz.ntmps89
 go_wp2_with fail
 go_loop [8] (fun a => ∃ k : Nat, k ≤ ns.length ∧ a = .int .i64 k ∧ Hid (R = Sx.firstE id (ns.drop k))) (fun a => ns.length - (intOf a).toNat)
 case atStart => exact ⟨0, by omega, rfl, HR⟩
 case round =>
  clear HR
  obtain ⟨k, hk, rfl, HR⟩ := hrel
  by_cases hlt : k < ns.length
  case neg =>
   have HR2 : Hid (R = 0) := by show _ = _; rw [HR.out]; exact Sx.firstE_end _ hlt
   go_wp2
   go_ret
   exact ⟨ret_int (by rw [HR2.out]), rfl⟩
  obtain ⟨x, hx⟩ : ∃ x, ns[k]? = some x := ⟨_, List.getElem?_eq_getElem hlt⟩
  have c0 : w.cell? ⟨b, k, none⟩ = some (.int .i64 x) := (ca_at H.out k (by rw [List.getElem?_map, hx]; rfl)).1
  have HX := hid hx
  clear hx
  by_cases h0 : x = 0
  ·subst h0
   have HR2 : Hid (R = Sx.firstE id (ns.drop (k + 1))) := Sx.firstE_next _ HX.out HR.out rfl
   go_wp2
   go_round
   case rel => exact ⟨k + 1, by omega, by go_num, HR2⟩
   case measure => simp [intOf]; omega
  ·have HR2 : Hid (R = x) := Sx.firstE_at id HX.out HR.out h0
   have h0' : (x != 0) = true := by simp [h0]
   go_wp2
   go_ret
   exact ⟨ret_int (by rw [HR2.out]), rfl⟩
theorem on_err (y m k wk n c : Int) (w : World) (h : Cv.onE y m k wk n = c) :
  Calls Tryz.prog 81 #[.int .i64 y, .int .i64 m, .agg #[.int .i64 k, .int .i64 wk, .int .i64 n]] w fun e w' => ∃ a b d : Int, e = .returned (.tuple #[.agg #[.int .i64 a, .int .i64 b, .int .i64 d], .int .i64 c]) ∧ Below w.heap.size w w' := by
 by_cases hc : c = 0
 ·subst hc
  refine (on_good y m k wk n w h).mono ?_
  rintro e w' ⟨a, b, d, he, hb⟩
  exact ⟨a, b, d, he, hb.2.2⟩
 ·refine (on_bad y m k wk n c w h hc).mono ?_
  rintro e w' ⟨he, hb⟩
  exact ⟨0, 0, 0, he, hb⟩
theorem ruleE_or (r : Sx.Rl) : Sx.ruleE r = Sx.firstE id [uE (Sx.nameB r.name && Sx.lettersB r.letter) 1, uE (Sx.inB r.frm 1900 r.to && decide (r.to ≤ 2100)) 3, uE (Sx.inB r.month 1 12) 3, Cv.onE 2001 r.month r.kind r.wk r.n, uE (Sx.inB r.at_ 0 172800) 3, uE (Sx.inB r.clock 1 3) 7, uE (Sx.inB r.save 0 10800) 3] := by
 unfold Sx.ruleE
 cases (Sx.nameB r.name && Sx.lettersB r.letter) <;> cases (Sx.inB r.frm 1900 r.to && decide (r.to ≤ 2100)) <;> cases Sx.inB r.month 1 12 <;> cases Sx.inB r.at_ 0 172800 <;> cases Sx.inB r.clock 1 3 <;> cases Sx.inB r.save 0 10800 <;> by_cases ho : Cv.onE 2001 r.month r.kind r.wk r.n = 0 <;> simp [Sx.firstE, uE, ho]
end
end Go.Proofs.YtkhlkohlccndgaaGreat
