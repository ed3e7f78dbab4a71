/- Part of the proof: RefC RefW RefD RefE. -/
import Derived.Test.YtkhlkohlccndgaaGreatQz
import Derived.Test.YtkhlkohlccndgaaGreatQac
import Derived.Test.YtkhlkohlccndgaaGreatQaa
set_option linter.unusedVariables false
set_option linter.unusedSimpArgs false
set_option maxRecDepth 100000
set_option maxHeartbeats 16000000
namespace Go.Proofs.YtkhlkohlccndgaaGreat
section
open Go.RowKit

theorem oG {w : World} {o1 o2 : Obj} : Below w.heap.size w ((w.alloc o1).alloc o2) := ((q4B _ _).alloc (Nat.le_refl _) _).alloc (by simp) _

theorem Kv (y m k wk n : Int) (w : World) (h : Cv.iK y m = false) :
  Calls Tryz.prog 122 #[.int .i64 y, .int .i64 m, .agg #[.int .i64 k, .int .i64 wk, .int .i64 n]] w fun e w' => e = .returned (.tuple #[.agg #[.int .i64 0, .int .i64 0, .int .i64 0], .int .i64 3]) ∧ Below w.heap.size w w' := by
 have v : ¬ (1 ≤ y ∧ y ≤ 9999 ∧ 1 ≤ m ∧ m ≤ 12) := fun k => by rw [Cv.eO.2 k] at h; cases h
 clear h
 by_cases a : 1 ≤ y ∧ y ≤ 9999
 ·have B : Hid (decide (1 ≤ m ∧ m ≤ 12) = false) := decide_eq_false (by omega)
  have A : Hid (decide (1 ≤ y ∧ y ≤ 9999) = true) := decide_eq_true a
  clear v a
  go_enter Tryz.func122, Tryz.ntmps122
  go_wp2_with fail
  refine (av _ _ _ _ A.out).mono ?_
  rintro e w1 ⟨rfl, rfl⟩
  go_wp2_with fail
  refine (av _ _ _ _ B.out).mono ?_
  rintro e w1 ⟨rfl, rfl⟩
  go_wp2
  exact bodyPost_ret (v := .tuple #[.agg #[.int .i64 0, .int .i64 0, .int .i64 0], .int .i64 3]) (by simp [results, Tryz.results122, go_sem]) rfl ⟨rfl, oG⟩
 ·have A : Hid (decide (1 ≤ y ∧ y ≤ 9999) = false) := decide_eq_false a
  clear v a
  go_enter Tryz.func122, Tryz.ntmps122
  go_wp2_with fail
  refine (av _ _ _ _ A.out).mono ?_
  rintro e w1 ⟨rfl, rfl⟩
  go_wp2
  exact bodyPost_ret (v := .tuple #[.agg #[.int .i64 0, .int .i64 0, .int .i64 0], .int .i64 3]) (by simp [results, Tryz.results122, go_sem]) rfl ⟨rfl, oG⟩

theorem Jn (y m k wk n : Int) (w : World) (h : Cv.iK y m = true) (hk : k < 1 ∨ 4 < k) :
  Calls Tryz.prog 122 #[.int .i64 y, .int .i64 m, .agg #[.int .i64 k, .int .i64 wk, .int .i64 n]] w fun e w' => e = .returned (.tuple #[.agg #[.int .i64 0, .int .i64 0, .int .i64 0], .int .i64 7]) ∧ Below w.heap.size w w' := by
 obtain ⟨m1, m2, m3, m4⟩ := Cv.eO.1 h
 have A : Hid (decide (1 ≤ k ∧ k ≤ 4) = false) := decide_eq_false (by omega)
 clear h hk
 go_enter Tryz.func122, Tryz.ntmps122
 go_wp2_with fail
 refine (av _ _ _ _ (decide_eq_true ⟨m1, m2⟩)).mono ?_
 rintro e w1 ⟨rfl, rfl⟩
 go_wp2_with fail
 refine (av _ _ _ _ (decide_eq_true ⟨m3, m4⟩)).mono ?_
 rintro e w1 ⟨rfl, rfl⟩
 go_wp2_with fail
 refine (av _ _ _ _ A.out).mono ?_
 rintro e w1 ⟨rfl, rfl⟩
 go_wp2
 exact bodyPost_ret (v := .tuple #[.agg #[.int .i64 0, .int .i64 0, .int .i64 0], .int .i64 7]) (by simp [results, Tryz.results122, go_sem]) rfl ⟨rfl, oG⟩

/- the ways on which a form does not fit -/
theorem Lx (y m k wk n : Int) (w : World) (h : Cv.iK y m = true) (k1 : 1 ≤ k) (k2 : k ≤ 4) (hw : ¬ (0 ≤ wk ∧ wk ≤ 6) ∨ (k = 1 ∧ wk ≠ 0)) :
  Calls Tryz.prog 122 #[.int .i64 y, .int .i64 m, .agg #[.int .i64 k, .int .i64 wk, .int .i64 n]] w fun e w' => e = .returned (.tuple #[.agg #[.int .i64 0, .int .i64 0, .int .i64 0], .int .i64 3]) ∧ Below w.heap.size w w' := by
 obtain ⟨m1, m2, m3, m4⟩ := Cv.eO.1 h
 clear h
 by_cases a : 0 ≤ wk ∧ wk ≤ 6
 ·have A : Hid (decide (0 ≤ wk ∧ wk ≤ 6) = true) := decide_eq_true a
  have b : k = 1 ∧ wk ≠ 0 := by omega
  obtain ⟨b1, b2⟩ := b
  have b1' : (k == 1) = true := by simp [b1]
  have b2' : (wk != 0) = true := by simp [b2]
  clear a hw b1 b2
  go_enter Tryz.func122, Tryz.ntmps122
  go_wp2_with fail
  refine (av _ _ _ _ (decide_eq_true ⟨m1, m2⟩)).mono ?_
  rintro e w1 ⟨rfl, rfl⟩
  go_wp2_with fail
  refine (av _ _ _ _ (decide_eq_true ⟨m3, m4⟩)).mono ?_
  rintro e w1 ⟨rfl, rfl⟩
  go_wp2_with fail
  refine (av _ _ _ _ (decide_eq_true ⟨k1, k2⟩)).mono ?_
  rintro e w1 ⟨rfl, rfl⟩
  go_wp2_with fail
  refine (av _ _ _ _ A.out).mono ?_
  rintro e w1 ⟨rfl, rfl⟩
  go_wp2
  exact bodyPost_ret (v := .tuple #[.agg #[.int .i64 0, .int .i64 0, .int .i64 0], .int .i64 3]) (by simp [results, Tryz.results122, go_sem]) rfl ⟨rfl, oG⟩
 ·have A : Hid (decide (0 ≤ wk ∧ wk ≤ 6) = false) := decide_eq_false a
  clear a hw
  go_enter Tryz.func122, Tryz.ntmps122
  go_wp2_with fail
  refine (av _ _ _ _ (decide_eq_true ⟨m1, m2⟩)).mono ?_
  rintro e w1 ⟨rfl, rfl⟩
  go_wp2_with fail
  refine (av _ _ _ _ (decide_eq_true ⟨m3, m4⟩)).mono ?_
  rintro e w1 ⟨rfl, rfl⟩
  go_wp2_with fail
  refine (av _ _ _ _ (decide_eq_true ⟨k1, k2⟩)).mono ?_
  rintro e w1 ⟨rfl, rfl⟩
  go_wp2_with fail
  refine (av _ _ _ _ A.out).mono ?_
  rintro e w1 ⟨rfl, rfl⟩
  go_wp2
  exact bodyPost_ret (v := .tuple #[.agg #[.int .i64 0, .int .i64 0, .int .i64 0], .int .i64 3]) (by simp [results, Tryz.results122, go_sem]) rfl ⟨rfl, oG⟩
end
section
open Go.RowKit

theorem LF (n : Int) : (n.tmod 7 < 0 → (n.tmod 7 + 7 + 4) % 7 = (n + 4) % 7) ∧ (¬ n.tmod 7 < 0 → (n.tmod 7 + 4) % 7 = (n + 4) % 7) ∧ -6 ≤ n.tmod 7 ∧ n.tmod 7 ≤ 6 := by
 have := KR n
 omega
theorem gL (n : Int) (w : World) :
  Calls Tryz.prog 170 #[.int .i64 n] w fun e w' => e = .returned (.int .i64 (Cv.wd n)) ∧ w' = w := by
 obtain ⟨t0, t1, t2, t3⟩ := LF n
 by_cases h : n.tmod 7 < 0
 ·have hh : Hid (Cv.wd n = (n.tmod 7 + 7 + 4) % 7) := (t0 h).symm
  clear t0 t1
  go_enter Tryz.func170, Tryz.ntmps170
  go_wp2
  go_ret
  exact ⟨ay (by rw [hh.out]), rfl⟩
 ·have hh : Hid (Cv.wd n = (n.tmod 7 + 4) % 7) := (t1 h).symm
  clear t0 t1
  go_enter Tryz.func170, Tryz.ntmps170
  go_wp2
  go_ret
  exact ⟨ay (by rw [hh.out]), rfl⟩

end
section
open Go.RowKit

theorem Jo (y m wk n : Int) (w : World) (h : Cv.iK y m = true) (f1 : 0 ≤ wk) (f2 : wk ≤ 6) (hn : n ≠ 0) :
  Calls Tryz.prog 122 #[.int .i64 y, .int .i64 m, .agg #[.int .i64 2, .int .i64 wk, .int .i64 n]] w fun e w' => e = .returned (.tuple #[.agg #[.int .i64 0, .int .i64 0, .int .i64 0], .int .i64 3]) ∧ Below w.heap.size w w' := by
 obtain ⟨m1, m2, m3, m4⟩ := Cv.eO.1 h
 clear h
 have k1 : (1 : Int) ≤ 2 := by omega
 have k2 : (2 : Int) ≤ 4 := by omega
 have hn' : (n != 0) = true := by simp [hn]
 go_enter Tryz.func122, Tryz.ntmps122
 go_wp2_with fail
 refine (av _ _ _ _ (decide_eq_true ⟨m1, m2⟩)).mono ?_
 rintro e w1 ⟨rfl, rfl⟩
 go_wp2_with fail
 refine (av _ _ _ _ (decide_eq_true ⟨m3, m4⟩)).mono ?_
 rintro e w1 ⟨rfl, rfl⟩
 go_wp2_with fail
 refine (av _ _ _ _ (decide_eq_true ⟨k1, k2⟩)).mono ?_
 rintro e w1 ⟨rfl, rfl⟩
 go_wp2_with fail
 refine (av _ _ _ _ (decide_eq_true ⟨f1, f2⟩)).mono ?_
 rintro e w1 ⟨rfl, rfl⟩
 go_wp2_with fail
 refine (fJ _ _ _ (by omega) (by omega)).mono ?_
 rintro e w1 ⟨rfl, rfl⟩
 go_wp2
 exact bodyPost_ret (v := .tuple #[.agg #[.int .i64 0, .int .i64 0, .int .i64 0], .int .i64 3]) (by simp [results, Tryz.results122, go_sem]) rfl ⟨rfl, oG⟩

theorem ron_n (y m k wk n : Int) (w : World) (h : Cv.iK y m = true) (k1 : 1 ≤ k) (k2 : k ≤ 4) (f1 : 0 ≤ wk) (f2 : wk ≤ 6) (hk : k ≠ 2) (hw : ¬ (k = 1 ∧ wk ≠ 0)) (hn : ¬ (1 ≤ n ∧ n ≤ Cv.dim y m)) :
  Calls Tryz.prog 122 #[.int .i64 y, .int .i64 m, .agg #[.int .i64 k, .int .i64 wk, .int .i64 n]] w fun e w' => e = .returned (.tuple #[.agg #[.int .i64 0, .int .i64 0, .int .i64 0], .int .i64 3]) ∧ Below w.heap.size w w' := by
 obtain ⟨m1, m2, m3, m4⟩ := Cv.eO.1 h
 have A : Hid (decide (1 ≤ n ∧ n ≤ Cv.dim y m) = false) := decide_eq_false hn
 have e2 : (k == 2) = false := by simp [hk]
 have e2' : (k != 2) = true := by simp [hk]
 by_cases e : k = 1
 ·have e1 : (k == 1) = true := by simp [e]
  have e0 : (wk != 0) = false := by simp; omega
  clear h hn hk hw e
  go_enter Tryz.func122, Tryz.ntmps122
  go_wp2_with fail
  refine (av _ _ _ _ (decide_eq_true ⟨m1, m2⟩)).mono ?_
  rintro e w1 ⟨rfl, rfl⟩
  go_wp2_with fail
  refine (av _ _ _ _ (decide_eq_true ⟨m3, m4⟩)).mono ?_
  rintro e w1 ⟨rfl, rfl⟩
  go_wp2_with fail
  refine (av _ _ _ _ (decide_eq_true ⟨k1, k2⟩)).mono ?_
  rintro e w1 ⟨rfl, rfl⟩
  go_wp2_with fail
  refine (av _ _ _ _ (decide_eq_true ⟨f1, f2⟩)).mono ?_
  rintro e w1 ⟨rfl, rfl⟩
  go_wp2_with fail
  refine (fJ _ _ _ (by omega) (by omega)).mono ?_
  rintro e w1 ⟨rfl, rfl⟩
  go_wp2_with fail
  refine (av _ _ _ _ A.out).mono ?_
  rintro e w1 ⟨rfl, rfl⟩
  go_wp2
  exact bodyPost_ret (v := .tuple #[.agg #[.int .i64 0, .int .i64 0, .int .i64 0], .int .i64 3]) (by simp [results, Tryz.results122, go_sem]) rfl ⟨rfl, oG⟩
 ·have e1 : (k == 1) = false := by simp [e]
  clear h hn hk hw e
  go_enter Tryz.func122, Tryz.ntmps122
  go_wp2_with fail
  refine (av _ _ _ _ (decide_eq_true ⟨m1, m2⟩)).mono ?_
  rintro e w1 ⟨rfl, rfl⟩
  go_wp2_with fail
  refine (av _ _ _ _ (decide_eq_true ⟨m3, m4⟩)).mono ?_
  rintro e w1 ⟨rfl, rfl⟩
  go_wp2_with fail
  refine (av _ _ _ _ (decide_eq_true ⟨k1, k2⟩)).mono ?_
  rintro e w1 ⟨rfl, rfl⟩
  go_wp2_with fail
  refine (av _ _ _ _ (decide_eq_true ⟨f1, f2⟩)).mono ?_
  rintro e w1 ⟨rfl, rfl⟩
  go_wp2_with fail
  refine (fJ _ _ _ (by omega) (by omega)).mono ?_
  rintro e w1 ⟨rfl, rfl⟩
  go_wp2_with fail
  refine (av _ _ _ _ A.out).mono ?_
  rintro e w1 ⟨rfl, rfl⟩
  go_wp2
  exact bodyPost_ret (v := .tuple #[.agg #[.int .i64 0, .int .i64 0, .int .i64 0], .int .i64 3]) (by simp [results, Tryz.results122, go_sem]) rfl ⟨rfl, oG⟩

theorem KJ (y m wk n : Int) (w : World) (h : Cv.iK y m = true) (hf : Cv.kQ 1 wk n (Cv.dim y m) = true) :
  Calls Tryz.prog 122 #[.int .i64 y, .int .i64 m, .agg #[.int .i64 1, .int .i64 wk, .int .i64 n]] w fun e w' => ∃ a b c : Int, ∃ r : Int, e = .returned (.tuple #[.agg #[.int .i64 a, .int .i64 b, .int .i64 c], .int .i64 r]) ∧ ((r = 0 ∧ -719162 ≤ Cv.tgt y m 1 wk n ∧ Cv.tgt y m 1 wk n ≤ 2932896 ∧ Cv.gX a b c = true ∧ Cv.num a b c = Cv.tgt y m 1 wk n) ∨ (r = 3 ∧ a = 0 ∧ b = 0 ∧ c = 0 ∧ (Cv.tgt y m 1 wk n < -719162 ∨ 2932896 < Cv.tgt y m 1 wk n))) ∧ Below w.heap.size w w' := by
 obtain ⟨m1, m2, m3, m4⟩ := Cv.eO.1 h
 obtain ⟨f1, f2, f3⟩ := Cv.jK.1 hf
 have n1 : 1 ≤ n := by omega
 have n2 : n ≤ Cv.dim y m := by omega
 have wk0 : wk = 0 := by omega
 subst wk0
 have nb := Cv.iM (Cv.qR h)
 have db := Cv.jX y m
 obtain ⟨x, hx⟩ : ∃ x, x = Cv.num y m 1 - 1 + n := ⟨_, rfl⟩
 have TG : Hid (Cv.tgt y m 1 0 n = x) := by
  show Cv.tgt y m 1 0 n = _
  unfold Cv.tgt
  simp
  omega
 have X : Hid (Cv.num y m 1 - 1 + n = x) := hx.symm
 have x1 : -719162 ≤ x := by omega
 have x2 : x ≤ 2932927 := by omega
 have k1 : (1 : Int) ≤ 1 := by omega
 have k2 : (1 : Int) ≤ 4 := by omega
 clear h hf f3 hx
 go_enter Tryz.func122, Tryz.ntmps122
 go_wp2_with fail
 refine (av _ _ _ _ (decide_eq_true ⟨m1, m2⟩)).mono ?_
 rintro e w1 ⟨rfl, rfl⟩
 go_wp2_with fail
 refine (av _ _ _ _ (decide_eq_true ⟨m3, m4⟩)).mono ?_
 rintro e w1 ⟨rfl, rfl⟩
 go_wp2_with fail
 refine (av _ _ _ _ (decide_eq_true ⟨k1, k2⟩)).mono ?_
 rintro e w1 ⟨rfl, rfl⟩
 go_wp2_with fail
 refine (av _ _ _ _ (decide_eq_true ⟨f1, f2⟩)).mono ?_
 rintro e w1 ⟨rfl, rfl⟩
 go_wp2_with fail
 refine (fJ _ _ _ (by omega) (by omega)).mono ?_
 rintro e w1 ⟨rfl, rfl⟩
 go_wp2_with fail
 refine (av _ _ _ _ (decide_eq_true ⟨n1, n2⟩)).mono ?_
 rintro e w1 ⟨rfl, rfl⟩
 go_wp2_with fail
 refine (fU _ _ _ _ (by omega) (by omega) (by omega) (by omega) (by omega) (by omega)).mono ?_
 rintro e w1 ⟨rfl, hb⟩
 obtain ⟨hc1, hz1⟩ := dZ hb
 have s1 := hb.size
 simp at s1
 have t1 : w.heap.size < w1.heap.size := by omega
 have t1' : w.heap.size + 1 < w1.heap.size := by omega
 go_wp2_with fail
 rw [X.out]
 go_loopw [9, 10] (fun v i wr => v = .int .i64 x ∧ i = .int .i64 0 ∧ Below w1.heap.size w1 wr) (fun _ _ _ => 0)
 case atStart => exact ⟨rfl, rfl, q4B _ _⟩
 case round =>
  obtain ⟨rfl, rfl, hbq⟩ := hrel
  obtain ⟨hcq, hzq⟩ := dZ hbq
  have sq := hbq.size
  have tq : w.heap.size < wr.heap.size := by omega
  have tq' : w.heap.size + 1 < wr.heap.size := by omega
  go_wp2_with fail
  go_quiet (fail)
  have s2' : w.heap.size + 1 < w1.heap.size := by omega
  go_wp2_with fail
  refine (nY _).mono ?_
  rintro e w2 ⟨rfl, hb2'⟩
  have hb2 : Below wr.heap.size wr w2 := (below_drewN (q4B _ _) _).trans hb2'
  clear hb2'
  obtain ⟨hc3, hz3⟩ := dZ hb2
  have s2 := hb2.size
  have t2 : w.heap.size + 1 < w2.heap.size := by omega
  go_wp2_with fail
  refine (qx _).mono ?_
  rintro e w3 ⟨rfl, hb3⟩
  obtain ⟨hc4, hz4⟩ := dZ hb3
  have s3 := hb3.size
  have t3 : w.heap.size + 1 < w3.heap.size := by omega
  by_cases hin : -719162 ≤ x ∧ x ≤ 2932896
  ·go_wp2_with fail
   refine (av _ _ _ _ (decide_eq_true hin)).mono ?_
   rintro e w4 ⟨rfl, rfl⟩
   go_wp2_with fail
   refine (lM _ _ hin.1 hin.2).mono ?_
   rintro e w5 ⟨a, b, c, rfl, hv, hn, hb5⟩
   have HV := hid hv
   have HN := hid hn
   clear hv hn
   obtain ⟨hc5, hz5⟩ := dZ hb5
   go_wp2
   refine bodyPost_ret (v := .tuple #[.agg #[.int .i64 a, .int .i64 b, .int .i64 c], .int .i64 0]) (by simp [results, Tryz.results122, go_sem, hcq, hc1, hc3, hc4, hc5, tq, tq', s2', t2, t3]) rfl ⟨a, b, c, 0, rfl, Or.inl ⟨rfl, by rw [TG.out]; exact hin.1, by rw [TG.out]; exact hin.2, HV.out, by rw [TG.out]; exact HN.out⟩, ?_⟩
   refine Below.setCell (Below.setCell (Below.setCell (Below.trans (Below.trans (Below.trans (Below.trans (Below.trans oG (hb.mono (by simp; omega))) (hbq.mono (by omega))) (hb2.mono (by omega))) (hb3.mono (by omega))) (hb5.mono (by omega))) (by simp) _) (by simp) _) (by simp) _
  ·have B : Hid (decide (-719162 ≤ x ∧ x ≤ 2932896) = false) := decide_eq_false hin
   go_wp2_with fail
   refine (av _ _ _ _ B.out).mono ?_
   rintro e w4 ⟨rfl, rfl⟩
   go_wp2
   refine bodyPost_ret (v := .tuple #[.agg #[.int .i64 0, .int .i64 0, .int .i64 0], .int .i64 3]) (by simp [results, Tryz.results122, go_sem, hcq, hc1, hc3, hc4, tq, tq', s2', t2, t3]) rfl ⟨0, 0, 0, 3, rfl, Or.inr ⟨rfl, rfl, rfl, rfl, by rw [TG.out]; omega⟩, ?_⟩
   refine Below.setCell (Below.setCell (Below.setCell (Below.trans (Below.trans (Below.trans (Below.trans oG (hb.mono (by simp; omega))) (hbq.mono (by omega))) (hb2.mono (by omega))) (hb3.mono (by omega))) (by simp) _) (by simp) _) (by simp) _

theorem KL (y m wk n : Int) (w : World) (h : Cv.iK y m = true) (hf : Cv.kQ 2 wk n (Cv.dim y m) = true) :
  Calls Tryz.prog 122 #[.int .i64 y, .int .i64 m, .agg #[.int .i64 2, .int .i64 wk, .int .i64 n]] w fun e w' => ∃ a b c : Int, ∃ r : Int, e = .returned (.tuple #[.agg #[.int .i64 a, .int .i64 b, .int .i64 c], .int .i64 r]) ∧ ((r = 0 ∧ -719162 ≤ Cv.tgt y m 2 wk n ∧ Cv.tgt y m 2 wk n ≤ 2932896 ∧ Cv.gX a b c = true ∧ Cv.num a b c = Cv.tgt y m 2 wk n) ∨ (r = 3 ∧ a = 0 ∧ b = 0 ∧ c = 0 ∧ (Cv.tgt y m 2 wk n < -719162 ∨ 2932896 < Cv.tgt y m 2 wk n))) ∧ Below w.heap.size w w' := by
 obtain ⟨m1, m2, m3, m4⟩ := Cv.eO.1 h
 obtain ⟨f1, f2, f3⟩ := Cv.jK.1 hf
 have n0 : n = 0 := by omega
 subst n0
 have nb := Cv.iM (Cv.qR h)
 have db := Cv.jX y m
 obtain ⟨x, hx⟩ : ∃ x, x = Cv.num y m 1 - 1 + Cv.dim y m := ⟨_, rfl⟩
 obtain ⟨r, hr⟩ : ∃ r, r = (Cv.wd x - wk + 7) % 7 := ⟨_, rfl⟩
 have r0 : 0 ≤ r ∧ r ≤ 6 := by omega
 have KEY : Hid (∀ k : Int, 0 ≤ k → k ≤ r → (Cv.wd (x - k) = wk ↔ k = r)) := by
  intro k k0 k6
  subst hr
  unfold Cv.wd at k6 ⊢
  omega
 have TG : Hid (Cv.tgt y m 2 wk 0 = x - r) := by
  show Cv.tgt y m 2 wk 0 = _
  unfold Cv.tgt Cv.upto Cv.frm
  simp
  rw [hr, hx]
  first
   | omega
   | (rw [show Cv.num y m 1 + Cv.dim y m - 1 = Cv.num y m 1 - 1 + Cv.dim y m by omega]; omega)
 have X : Hid (Cv.num y m 1 - 1 + Cv.dim y m = x) := hx.symm
 have x1 : -719162 ≤ x := by omega
 have x2 : x ≤ 2932927 := by omega
 have k1 : (1 : Int) ≤ 2 := by omega
 have k2 : (2 : Int) ≤ 4 := by omega
 clear h hf f3 hx hr
 go_enter Tryz.func122, Tryz.ntmps122
 go_wp2_with fail
 refine (av _ _ _ _ (decide_eq_true ⟨m1, m2⟩)).mono ?_
 rintro e w1 ⟨rfl, rfl⟩
 go_wp2_with fail
 refine (av _ _ _ _ (decide_eq_true ⟨m3, m4⟩)).mono ?_
 rintro e w1 ⟨rfl, rfl⟩
 go_wp2_with fail
 refine (av _ _ _ _ (decide_eq_true ⟨k1, k2⟩)).mono ?_
 rintro e w1 ⟨rfl, rfl⟩
 go_wp2_with fail
 refine (av _ _ _ _ (decide_eq_true ⟨f1, f2⟩)).mono ?_
 rintro e w1 ⟨rfl, rfl⟩
 go_wp2_with fail
 refine (fJ _ _ _ (by omega) (by omega)).mono ?_
 rintro e w1 ⟨rfl, rfl⟩
 go_wp2_with fail
 refine (fU _ _ _ _ (by omega) (by omega) (by omega) (by omega) (by omega) (by omega)).mono ?_
 rintro e w1 ⟨rfl, hb⟩
 obtain ⟨hc1, hz1⟩ := dZ hb
 have s1 := hb.size
 simp at s1
 have t1 : w.heap.size < w1.heap.size := by omega
 have t1' : w.heap.size + 1 < w1.heap.size := by omega
 go_wp2_with fail
 rw [X.out]
 go_loopw [9, 10] (fun v i wr => ∃ k : Int, 0 ≤ k ∧ k ≤ r ∧ v = .int .i64 (x - k) ∧ i = .int .i64 k ∧ Below w1.heap.size w1 wr) (fun _ i _ => (7 - intOf i).toNat)
 case atStart => exact ⟨0, by omega, by omega, by go_num, rfl, q4B _ _⟩
 case round =>
  obtain ⟨k, k0, kr, rfl, rfl, hbq⟩ := hrel
  obtain ⟨hcq, hzq⟩ := dZ hbq
  have sq := hbq.size
  have tq : w.heap.size < wr.heap.size := by omega
  have tq' : w.heap.size + 1 < wr.heap.size := by omega
  have k7 : k < 7 := by omega
  by_cases hk : k = r
  ·have E : Hid (Cv.wd (x - k) = wk) := (KEY.out k k0 kr).2 hk
   have e : (Cv.wd (x - k) != wk) = false := by rw [E.out]; simp
   subst hk
   go_wp2_with fail
   go_quiet ((go_at_call 170; exact Calls.quiet_of_same (gL _ _)))
   have s2' : w.heap.size + 1 < w1.heap.size := by omega
   go_wp2_with fail
   refine (nY _).mono ?_
   rintro e w2 ⟨rfl, hb2'⟩
   have hb2 : Below wr.heap.size wr w2 := (below_drewN (q4B _ _) _).trans hb2'
   clear hb2'
   obtain ⟨hc3, hz3⟩ := dZ hb2
   have s2 := hb2.size
   have t2 : w.heap.size + 1 < w2.heap.size := by omega
   go_wp2_with fail
   refine (qx _).mono ?_
   rintro e w3 ⟨rfl, hb3⟩
   obtain ⟨hc4, hz4⟩ := dZ hb3
   have s3 := hb3.size
   have t3 : w.heap.size + 1 < w3.heap.size := by omega
   by_cases hin : -719162 ≤ x - k ∧ x - k ≤ 2932896
   ·go_wp2_with fail
    refine (av _ _ _ _ (decide_eq_true hin)).mono ?_
    rintro e w4 ⟨rfl, rfl⟩
    go_wp2_with fail
    refine (lM _ _ hin.1 hin.2).mono ?_
    rintro e w5 ⟨a, b, c, rfl, hv, hn, hb5⟩
    have HV := hid hv
    have HN := hid hn
    clear hv hn
    obtain ⟨hc5, hz5⟩ := dZ hb5
    go_wp2
    refine bodyPost_ret (v := .tuple #[.agg #[.int .i64 a, .int .i64 b, .int .i64 c], .int .i64 0]) (by simp [results, Tryz.results122, go_sem, hcq, hc1, hc3, hc4, hc5, tq, tq', s2', t2, t3]) rfl ⟨a, b, c, 0, rfl, Or.inl ⟨rfl, by rw [TG.out]; exact hin.1, by rw [TG.out]; exact hin.2, HV.out, by rw [TG.out]; exact HN.out⟩, ?_⟩
    refine Below.setCell (Below.setCell (Below.setCell (Below.trans (Below.trans (Below.trans (Below.trans (Below.trans oG (hb.mono (by simp; omega))) (hbq.mono (by omega))) (hb2.mono (by omega))) (hb3.mono (by omega))) (hb5.mono (by omega))) (by simp) _) (by simp) _) (by simp) _
   ·have B : Hid (decide (-719162 ≤ x - k ∧ x - k ≤ 2932896) = false) := decide_eq_false hin
    go_wp2_with fail
    refine (av _ _ _ _ B.out).mono ?_
    rintro e w4 ⟨rfl, rfl⟩
    go_wp2
    refine bodyPost_ret (v := .tuple #[.agg #[.int .i64 0, .int .i64 0, .int .i64 0], .int .i64 3]) (by simp [results, Tryz.results122, go_sem, hcq, hc1, hc3, hc4, tq, tq', s2', t2, t3]) rfl ⟨0, 0, 0, 3, rfl, Or.inr ⟨rfl, rfl, rfl, rfl, by rw [TG.out]; omega⟩, ?_⟩
    refine Below.setCell (Below.setCell (Below.setCell (Below.trans (Below.trans (Below.trans (Below.trans oG (hb.mono (by simp; omega))) (hbq.mono (by omega))) (hb2.mono (by omega))) (hb3.mono (by omega))) (by simp) _) (by simp) _) (by simp) _
  ·have E : Hid (¬ Cv.wd (x - k) = wk) := fun z => hk ((KEY.out k k0 kr).1 z)
   have e : (Cv.wd (x - k) != wk) = true := by simp [E.out]
   go_wp2_with fail
   go_quiet ((go_at_call 170; exact Calls.quiet_of_same (gL _ _)))
   go_wp2
   go_roundw
   case rel => exact ⟨k + 1, by omega, by omega, by go_num, rfl, below_drewN hbq _⟩
   case measure => simp [intOf]; omega

theorem KM (y m wk n : Int) (w : World) (h : Cv.iK y m = true) (hf : Cv.kQ 3 wk n (Cv.dim y m) = true) :
  Calls Tryz.prog 122 #[.int .i64 y, .int .i64 m, .agg #[.int .i64 3, .int .i64 wk, .int .i64 n]] w fun e w' => ∃ a b c : Int, ∃ r : Int, e = .returned (.tuple #[.agg #[.int .i64 a, .int .i64 b, .int .i64 c], .int .i64 r]) ∧ ((r = 0 ∧ -719162 ≤ Cv.tgt y m 3 wk n ∧ Cv.tgt y m 3 wk n ≤ 2932896 ∧ Cv.gX a b c = true ∧ Cv.num a b c = Cv.tgt y m 3 wk n) ∨ (r = 3 ∧ a = 0 ∧ b = 0 ∧ c = 0 ∧ (Cv.tgt y m 3 wk n < -719162 ∨ 2932896 < Cv.tgt y m 3 wk n))) ∧ Below w.heap.size w w' := by
 obtain ⟨m1, m2, m3, m4⟩ := Cv.eO.1 h
 obtain ⟨f1, f2, f3⟩ := Cv.jK.1 hf
 have n1 : 1 ≤ n := by omega
 have n2 : n ≤ Cv.dim y m := by omega
 have nb := Cv.iM (Cv.qR h)
 have db := Cv.jX y m
 obtain ⟨x, hx⟩ : ∃ x, x = Cv.num y m 1 - 1 + n := ⟨_, rfl⟩
 obtain ⟨r, hr⟩ : ∃ r, r = (wk - Cv.wd x + 7) % 7 := ⟨_, rfl⟩
 have r0 : 0 ≤ r ∧ r ≤ 6 := by omega
 have KEY : Hid (∀ k : Int, 0 ≤ k → k ≤ r → (Cv.wd (x + k) = wk ↔ k = r)) := by
  intro k k0 k6
  subst hr
  unfold Cv.wd at k6 ⊢
  omega
 have TG : Hid (Cv.tgt y m 3 wk n = x + r) := by
  show Cv.tgt y m 3 wk n = _
  unfold Cv.tgt Cv.upto Cv.frm
  simp
  rw [hr, hx]
  first
   | omega
   | (rw [show Cv.num y m 1 + n - 1 = Cv.num y m 1 - 1 + n by omega]; omega)
 have X : Hid (Cv.num y m 1 - 1 + n = x) := hx.symm
 have x1 : -719162 ≤ x := by omega
 have x2 : x ≤ 2932927 := by omega
 have k1 : (1 : Int) ≤ 3 := by omega
 have k2 : (3 : Int) ≤ 4 := by omega
 clear h hf f3 hx hr
 go_enter Tryz.func122, Tryz.ntmps122
 go_wp2_with fail
 refine (av _ _ _ _ (decide_eq_true ⟨m1, m2⟩)).mono ?_
 rintro e w1 ⟨rfl, rfl⟩
 go_wp2_with fail
 refine (av _ _ _ _ (decide_eq_true ⟨m3, m4⟩)).mono ?_
 rintro e w1 ⟨rfl, rfl⟩
 go_wp2_with fail
 refine (av _ _ _ _ (decide_eq_true ⟨k1, k2⟩)).mono ?_
 rintro e w1 ⟨rfl, rfl⟩
 go_wp2_with fail
 refine (av _ _ _ _ (decide_eq_true ⟨f1, f2⟩)).mono ?_
 rintro e w1 ⟨rfl, rfl⟩
 go_wp2_with fail
 refine (fJ _ _ _ (by omega) (by omega)).mono ?_
 rintro e w1 ⟨rfl, rfl⟩
 go_wp2_with fail
 refine (av _ _ _ _ (decide_eq_true ⟨n1, n2⟩)).mono ?_
 rintro e w1 ⟨rfl, rfl⟩
 go_wp2_with fail
 refine (fU _ _ _ _ (by omega) (by omega) (by omega) (by omega) (by omega) (by omega)).mono ?_
 rintro e w1 ⟨rfl, hb⟩
 obtain ⟨hc1, hz1⟩ := dZ hb
 have s1 := hb.size
 simp at s1
 have t1 : w.heap.size < w1.heap.size := by omega
 have t1' : w.heap.size + 1 < w1.heap.size := by omega
 go_wp2_with fail
 rw [X.out]
 go_loopw [9, 10] (fun v i wr => ∃ k : Int, 0 ≤ k ∧ k ≤ r ∧ v = .int .i64 (x + k) ∧ i = .int .i64 k ∧ Below w1.heap.size w1 wr) (fun _ i _ => (7 - intOf i).toNat)
 case atStart => exact ⟨0, by omega, by omega, by go_num, rfl, q4B _ _⟩
 case round =>
  obtain ⟨k, k0, kr, rfl, rfl, hbq⟩ := hrel
  obtain ⟨hcq, hzq⟩ := dZ hbq
  have sq := hbq.size
  have tq : w.heap.size < wr.heap.size := by omega
  have tq' : w.heap.size + 1 < wr.heap.size := by omega
  have k7 : k < 7 := by omega
  by_cases hk : k = r
  ·have E : Hid (Cv.wd (x + k) = wk) := (KEY.out k k0 kr).2 hk
   have e : (Cv.wd (x + k) != wk) = false := by rw [E.out]; simp
   subst hk
   go_wp2_with fail
   go_quiet ((go_at_call 170; exact Calls.quiet_of_same (gL _ _)))
   have s2' : w.heap.size + 1 < w1.heap.size := by omega
   go_wp2_with fail
   refine (nY _).mono ?_
   rintro e w2 ⟨rfl, hb2'⟩
   have hb2 : Below wr.heap.size wr w2 := (below_drewN (q4B _ _) _).trans hb2'
   clear hb2'
   obtain ⟨hc3, hz3⟩ := dZ hb2
   have s2 := hb2.size
   have t2 : w.heap.size + 1 < w2.heap.size := by omega
   go_wp2_with fail
   refine (qx _).mono ?_
   rintro e w3 ⟨rfl, hb3⟩
   obtain ⟨hc4, hz4⟩ := dZ hb3
   have s3 := hb3.size
   have t3 : w.heap.size + 1 < w3.heap.size := by omega
   by_cases hin : -719162 ≤ x + k ∧ x + k ≤ 2932896
   ·go_wp2_with fail
    refine (av _ _ _ _ (decide_eq_true hin)).mono ?_
    rintro e w4 ⟨rfl, rfl⟩
    go_wp2_with fail
    refine (lM _ _ hin.1 hin.2).mono ?_
    rintro e w5 ⟨a, b, c, rfl, hv, hn, hb5⟩
    have HV := hid hv
    have HN := hid hn
    clear hv hn
    obtain ⟨hc5, hz5⟩ := dZ hb5
    go_wp2
    refine bodyPost_ret (v := .tuple #[.agg #[.int .i64 a, .int .i64 b, .int .i64 c], .int .i64 0]) (by simp [results, Tryz.results122, go_sem, hcq, hc1, hc3, hc4, hc5, tq, tq', s2', t2, t3]) rfl ⟨a, b, c, 0, rfl, Or.inl ⟨rfl, by rw [TG.out]; exact hin.1, by rw [TG.out]; exact hin.2, HV.out, by rw [TG.out]; exact HN.out⟩, ?_⟩
    refine Below.setCell (Below.setCell (Below.setCell (Below.trans (Below.trans (Below.trans (Below.trans (Below.trans oG (hb.mono (by simp; omega))) (hbq.mono (by omega))) (hb2.mono (by omega))) (hb3.mono (by omega))) (hb5.mono (by omega))) (by simp) _) (by simp) _) (by simp) _
   ·have B : Hid (decide (-719162 ≤ x + k ∧ x + k ≤ 2932896) = false) := decide_eq_false hin
    go_wp2_with fail
    refine (av _ _ _ _ B.out).mono ?_
    rintro e w4 ⟨rfl, rfl⟩
    go_wp2
    refine bodyPost_ret (v := .tuple #[.agg #[.int .i64 0, .int .i64 0, .int .i64 0], .int .i64 3]) (by simp [results, Tryz.results122, go_sem, hcq, hc1, hc3, hc4, tq, tq', s2', t2, t3]) rfl ⟨0, 0, 0, 3, rfl, Or.inr ⟨rfl, rfl, rfl, rfl, by rw [TG.out]; omega⟩, ?_⟩
    refine Below.setCell (Below.setCell (Below.setCell (Below.trans (Below.trans (Below.trans (Below.trans oG (hb.mono (by simp; omega))) (hbq.mono (by omega))) (hb2.mono (by omega))) (hb3.mono (by omega))) (by simp) _) (by simp) _) (by simp) _
  ·have E : Hid (¬ Cv.wd (x + k) = wk) := fun z => hk ((KEY.out k k0 kr).1 z)
   have e : (Cv.wd (x + k) != wk) = true := by simp [E.out]
   go_wp2_with fail
   go_quiet ((go_at_call 170; exact Calls.quiet_of_same (gL _ _)))
   go_wp2
   go_roundw
   case rel => exact ⟨k + 1, by omega, by omega, by go_num, rfl, below_drewN hbq _⟩
   case measure => simp [intOf]; omega

theorem KO (y m wk n : Int) (w : World) (h : Cv.iK y m = true) (hf : Cv.kQ 4 wk n (Cv.dim y m) = true) :
  Calls Tryz.prog 122 #[.int .i64 y, .int .i64 m, .agg #[.int .i64 4, .int .i64 wk, .int .i64 n]] w fun e w' => ∃ a b c : Int, ∃ r : Int, e = .returned (.tuple #[.agg #[.int .i64 a, .int .i64 b, .int .i64 c], .int .i64 r]) ∧ ((r = 0 ∧ -719162 ≤ Cv.tgt y m 4 wk n ∧ Cv.tgt y m 4 wk n ≤ 2932896 ∧ Cv.gX a b c = true ∧ Cv.num a b c = Cv.tgt y m 4 wk n) ∨ (r = 3 ∧ a = 0 ∧ b = 0 ∧ c = 0 ∧ (Cv.tgt y m 4 wk n < -719162 ∨ 2932896 < Cv.tgt y m 4 wk n))) ∧ Below w.heap.size w w' := by
 obtain ⟨m1, m2, m3, m4⟩ := Cv.eO.1 h
 obtain ⟨f1, f2, f3⟩ := Cv.jK.1 hf
 have n1 : 1 ≤ n := by omega
 have n2 : n ≤ Cv.dim y m := by omega
 have nb := Cv.iM (Cv.qR h)
 have db := Cv.jX y m
 obtain ⟨x, hx⟩ : ∃ x, x = Cv.num y m 1 - 1 + n := ⟨_, rfl⟩
 obtain ⟨r, hr⟩ : ∃ r, r = (Cv.wd x - wk + 7) % 7 := ⟨_, rfl⟩
 have r0 : 0 ≤ r ∧ r ≤ 6 := by omega
 have KEY : Hid (∀ k : Int, 0 ≤ k → k ≤ r → (Cv.wd (x - k) = wk ↔ k = r)) := by
  intro k k0 k6
  subst hr
  unfold Cv.wd at k6 ⊢
  omega
 have TG : Hid (Cv.tgt y m 4 wk n = x - r) := by
  show Cv.tgt y m 4 wk n = _
  unfold Cv.tgt Cv.upto Cv.frm
  simp
  rw [hr, hx]
  first
   | omega
   | (rw [show Cv.num y m 1 + n - 1 = Cv.num y m 1 - 1 + n by omega]; omega)
 have X : Hid (Cv.num y m 1 - 1 + n = x) := hx.symm
 have x1 : -719162 ≤ x := by omega
 have x2 : x ≤ 2932927 := by omega
 have k1 : (1 : Int) ≤ 4 := by omega
 have k2 : (4 : Int) ≤ 4 := by omega
 clear h hf f3 hx hr
 go_enter Tryz.func122, Tryz.ntmps122
 go_wp2_with fail
 refine (av _ _ _ _ (decide_eq_true ⟨m1, m2⟩)).mono ?_
 rintro e w1 ⟨rfl, rfl⟩
 go_wp2_with fail
 refine (av _ _ _ _ (decide_eq_true ⟨m3, m4⟩)).mono ?_
 rintro e w1 ⟨rfl, rfl⟩
 go_wp2_with fail
 refine (av _ _ _ _ (decide_eq_true ⟨k1, k2⟩)).mono ?_
 rintro e w1 ⟨rfl, rfl⟩
 go_wp2_with fail
 refine (av _ _ _ _ (decide_eq_true ⟨f1, f2⟩)).mono ?_
 rintro e w1 ⟨rfl, rfl⟩
 go_wp2_with fail
 refine (fJ _ _ _ (by omega) (by omega)).mono ?_
 rintro e w1 ⟨rfl, rfl⟩
 go_wp2_with fail
 refine (av _ _ _ _ (decide_eq_true ⟨n1, n2⟩)).mono ?_
 rintro e w1 ⟨rfl, rfl⟩
 go_wp2_with fail
 refine (fU _ _ _ _ (by omega) (by omega) (by omega) (by omega) (by omega) (by omega)).mono ?_
 rintro e w1 ⟨rfl, hb⟩
 obtain ⟨hc1, hz1⟩ := dZ hb
 have s1 := hb.size
 simp at s1
 have t1 : w.heap.size < w1.heap.size := by omega
 have t1' : w.heap.size + 1 < w1.heap.size := by omega
 go_wp2_with fail
 rw [X.out]
 go_loopw [9, 10] (fun v i wr => ∃ k : Int, 0 ≤ k ∧ k ≤ r ∧ v = .int .i64 (x - k) ∧ i = .int .i64 k ∧ Below w1.heap.size w1 wr) (fun _ i _ => (7 - intOf i).toNat)
 case atStart => exact ⟨0, by omega, by omega, by go_num, rfl, q4B _ _⟩
 case round =>
  obtain ⟨k, k0, kr, rfl, rfl, hbq⟩ := hrel
  obtain ⟨hcq, hzq⟩ := dZ hbq
  have sq := hbq.size
  have tq : w.heap.size < wr.heap.size := by omega
  have tq' : w.heap.size + 1 < wr.heap.size := by omega
  have k7 : k < 7 := by omega
  by_cases hk : k = r
  ·have E : Hid (Cv.wd (x - k) = wk) := (KEY.out k k0 kr).2 hk
   have e : (Cv.wd (x - k) != wk) = false := by rw [E.out]; simp
   subst hk
   go_wp2_with fail
   go_quiet ((go_at_call 170; exact Calls.quiet_of_same (gL _ _)))
   have s2' : w.heap.size + 1 < w1.heap.size := by omega
   go_wp2_with fail
   refine (nY _).mono ?_
   rintro e w2 ⟨rfl, hb2'⟩
   have hb2 : Below wr.heap.size wr w2 := (below_drewN (q4B _ _) _).trans hb2'
   clear hb2'
   obtain ⟨hc3, hz3⟩ := dZ hb2
   have s2 := hb2.size
   have t2 : w.heap.size + 1 < w2.heap.size := by omega
   go_wp2_with fail
   refine (qx _).mono ?_
   rintro e w3 ⟨rfl, hb3⟩
   obtain ⟨hc4, hz4⟩ := dZ hb3
   have s3 := hb3.size
   have t3 : w.heap.size + 1 < w3.heap.size := by omega
   by_cases hin : -719162 ≤ x - k ∧ x - k ≤ 2932896
   ·go_wp2_with fail
    refine (av _ _ _ _ (decide_eq_true hin)).mono ?_
    rintro e w4 ⟨rfl, rfl⟩
    go_wp2_with fail
    refine (lM _ _ hin.1 hin.2).mono ?_
    rintro e w5 ⟨a, b, c, rfl, hv, hn, hb5⟩
    have HV := hid hv
    have HN := hid hn
    clear hv hn
    obtain ⟨hc5, hz5⟩ := dZ hb5
    go_wp2
    refine bodyPost_ret (v := .tuple #[.agg #[.int .i64 a, .int .i64 b, .int .i64 c], .int .i64 0]) (by simp [results, Tryz.results122, go_sem, hcq, hc1, hc3, hc4, hc5, tq, tq', s2', t2, t3]) rfl ⟨a, b, c, 0, rfl, Or.inl ⟨rfl, by rw [TG.out]; exact hin.1, by rw [TG.out]; exact hin.2, HV.out, by rw [TG.out]; exact HN.out⟩, ?_⟩
    refine Below.setCell (Below.setCell (Below.setCell (Below.trans (Below.trans (Below.trans (Below.trans (Below.trans oG (hb.mono (by simp; omega))) (hbq.mono (by omega))) (hb2.mono (by omega))) (hb3.mono (by omega))) (hb5.mono (by omega))) (by simp) _) (by simp) _) (by simp) _
   ·have B : Hid (decide (-719162 ≤ x - k ∧ x - k ≤ 2932896) = false) := decide_eq_false hin
    go_wp2_with fail
    refine (av _ _ _ _ B.out).mono ?_
    rintro e w4 ⟨rfl, rfl⟩
    go_wp2
    refine bodyPost_ret (v := .tuple #[.agg #[.int .i64 0, .int .i64 0, .int .i64 0], .int .i64 3]) (by simp [results, Tryz.results122, go_sem, hcq, hc1, hc3, hc4, tq, tq', s2', t2, t3]) rfl ⟨0, 0, 0, 3, rfl, Or.inr ⟨rfl, rfl, rfl, rfl, by rw [TG.out]; omega⟩, ?_⟩
    refine Below.setCell (Below.setCell (Below.setCell (Below.trans (Below.trans (Below.trans (Below.trans oG (hb.mono (by simp; omega))) (hbq.mono (by omega))) (hb2.mono (by omega))) (hb3.mono (by omega))) (by simp) _) (by simp) _) (by simp) _
  ·have E : Hid (¬ Cv.wd (x - k) = wk) := fun z => hk ((KEY.out k k0 kr).1 z)
   have e : (Cv.wd (x - k) != wk) = true := by simp [E.out]
   go_wp2_with fail
   go_quiet ((go_at_call 170; exact Calls.quiet_of_same (gL _ _)))
   go_wp2
   go_roundw
   case rel => exact ⟨k + 1, by omega, by omega, by go_num, rfl, below_drewN hbq _⟩
   case measure => simp [intOf]; omega

end
section
open Go.RowKit

theorem Jm (y m k wk n : Int) (w : World) (h : Cv.onE y m k wk n = 0) :
  Calls Tryz.prog 122 #[.int .i64 y, .int .i64 m, .agg #[.int .i64 k, .int .i64 wk, .int .i64 n]] w fun e w' => ∃ a b c : Int, e = .returned (.tuple #[.agg #[.int .i64 a, .int .i64 b, .int .i64 c], .int .i64 0]) ∧ Cv.gX a b c = true ∧ Cv.num a b c = Cv.tgt y m k wk n ∧ Below w.heap.size w w' := by
 obtain ⟨h1, k1, k2, hf, t1, t2⟩ := Cv.qE h
 have fin : ∀ (e : Ending) (w' : World), (∃ a b c : Int, ∃ r : Int, e = .returned (.tuple #[.agg #[.int .i64 a, .int .i64 b, .int .i64 c], .int .i64 r]) ∧ ((r = 0 ∧ -719162 ≤ Cv.tgt y m k wk n ∧ Cv.tgt y m k wk n ≤ 2932896 ∧ Cv.gX a b c = true ∧ Cv.num a b c = Cv.tgt y m k wk n) ∨ (r = 3 ∧ a = 0 ∧ b = 0 ∧ c = 0 ∧ (Cv.tgt y m k wk n < -719162 ∨ 2932896 < Cv.tgt y m k wk n))) ∧ Below w.heap.size w w') → ∃ a b c : Int, e = .returned (.tuple #[.agg #[.int .i64 a, .int .i64 b, .int .i64 c], .int .i64 0]) ∧ Cv.gX a b c = true ∧ Cv.num a b c = Cv.tgt y m k wk n ∧ Below w.heap.size w w' := by
  rintro e w' ⟨a, b, c, r, he, q, hb⟩
  rcases q with ⟨rfl, _, _, hv, hn⟩ | ⟨_, _, _, _, q⟩
  ·exact ⟨a, b, c, he, hv, hn, hb⟩
  ·omega
 have kk : k = 1 ∨ k = 2 ∨ k = 3 ∨ k = 4 := by omega
 rcases kk with rfl | rfl | rfl | rfl
 ·exact (KJ y m wk n w h1 hf).mono fin
 ·exact (KL y m wk n w h1 hf).mono fin
 ·exact (KM y m wk n w h1 hf).mono fin
 ·exact (KO y m wk n w h1 hf).mono fin
theorem Kw (y m k wk n : Int) (w : World) (h1 : Cv.iK y m = true) (k1 : 1 ≤ k) (k2 : k ≤ 4) (hf : Cv.kQ k wk n (Cv.dim y m) = true) (ht : Cv.tgt y m k wk n < -719162 ∨ 2932896 < Cv.tgt y m k wk n) :
  Calls Tryz.prog 122 #[.int .i64 y, .int .i64 m, .agg #[.int .i64 k, .int .i64 wk, .int .i64 n]] w fun e w' => e = .returned (.tuple #[.agg #[.int .i64 0, .int .i64 0, .int .i64 0], .int .i64 3]) ∧ Below w.heap.size w w' := by
 have fin : ∀ (e : Ending) (w' : World), (∃ a b c : Int, ∃ r : Int, e = .returned (.tuple #[.agg #[.int .i64 a, .int .i64 b, .int .i64 c], .int .i64 r]) ∧ ((r = 0 ∧ -719162 ≤ Cv.tgt y m k wk n ∧ Cv.tgt y m k wk n ≤ 2932896 ∧ Cv.gX a b c = true ∧ Cv.num a b c = Cv.tgt y m k wk n) ∨ (r = 3 ∧ a = 0 ∧ b = 0 ∧ c = 0 ∧ (Cv.tgt y m k wk n < -719162 ∨ 2932896 < Cv.tgt y m k wk n))) ∧ Below w.heap.size w w') → e = .returned (.tuple #[.agg #[.int .i64 0, .int .i64 0, .int .i64 0], .int .i64 3]) ∧ Below w.heap.size w w' := by
  rintro e w' ⟨a, b, c, r, he, q, hb⟩
  rcases q with ⟨_, _, _, _, _⟩ | ⟨rfl, rfl, rfl, rfl, q⟩
  ·omega
  ·exact ⟨he, hb⟩
 have kk : k = 1 ∨ k = 2 ∨ k = 3 ∨ k = 4 := by omega
 rcases kk with rfl | rfl | rfl | rfl
 ·exact (KJ y m wk n w h1 hf).mono fin
 ·exact (KL y m wk n w h1 hf).mono fin
 ·exact (KM y m wk n w h1 hf).mono fin
 ·exact (KO y m wk n w h1 hf).mono fin
theorem Kt (y m k wk n c : Int) (w : World) (h : Cv.onE y m k wk n = c) (hc : c ≠ 0) :
  Calls Tryz.prog 122 #[.int .i64 y, .int .i64 m, .agg #[.int .i64 k, .int .i64 wk, .int .i64 n]] w fun e w' => e = .returned (.tuple #[.agg #[.int .i64 0, .int .i64 0, .int .i64 0], .int .i64 c]) ∧ Below w.heap.size w w' := by
 unfold Cv.onE at h
 by_cases h1 : Cv.iK y m = false
 ·rw [if_pos h1] at h; subst h; exact Kv y m k wk n w h1
 rw [if_neg h1] at h
 have h1' : Cv.iK y m = true := by simpa using h1
 by_cases h2 : k < 1 ∨ 4 < k
 ·rw [if_pos h2] at h; subst h; exact Jn y m k wk n w h1' h2
 rw [if_neg h2] at h
 by_cases h3 : Cv.kQ k wk n (Cv.dim y m) = false
 ·rw [if_pos h3] at h; subst h
  have hf : ¬ (0 ≤ wk ∧ wk ≤ 6 ∧ (k = 2 ∧ n = 0 ∨ k ≠ 2 ∧ ¬ (k = 1 ∧ wk ≠ 0) ∧ 1 ≤ n ∧ n ≤ Cv.dim y m)) := fun q => by rw [Cv.jK.2 q] at h3; cases h3
  by_cases a : ¬ (0 ≤ wk ∧ wk ≤ 6) ∨ (k = 1 ∧ wk ≠ 0)
  ·exact Lx y m k wk n w h1' (by omega) (by omega) a
  by_cases b : k = 2
  ·subst b; exact Jo y m wk n w h1' (by omega) (by omega) (by omega)
  ·exact ron_n y m k wk n w h1' (by omega) (by omega) (by omega) (by omega) b (by omega) (by omega)
 rw [if_neg h3] at h
 have h3' : Cv.kQ k wk n (Cv.dim y m) = true := by simpa using h3
 by_cases h4 : Cv.tgt y m k wk n < -719162 ∨ 2932896 < Cv.tgt y m k wk n
 ·rw [if_pos h4] at h; subst h; exact Kw y m k wk n w h1' (by omega) (by omega) h3' h4
 rw [if_neg h4] at h
 exact absurd h.symm hc

theorem Ku (y m k wk n c : Int) (w : World) (h : Cv.onE y m k wk n = c) :
  Calls Tryz.prog 122 #[.int .i64 y, .int .i64 m, .agg #[.int .i64 k, .int .i64 wk, .int .i64 n]] w fun e w' => ∃ a b d : Int, e = .returned (.tuple #[.agg #[.int .i64 a, .int .i64 b, .int .i64 d], .int .i64 c]) ∧ Below w.heap.size w w' := by
 by_cases hc : c = 0
 ·subst hc
  refine (Jm y m k wk n w h).mono ?_
  rintro e w' ⟨a, b, d, he, _, _, hb⟩
  exact ⟨a, b, d, he, hb⟩
 ·refine (Kt y m k wk n c w h hc).mono ?_
  rintro e w' ⟨he, hb⟩
  exact ⟨0, 0, 0, he, hb⟩
end
end Go.Proofs.YtkhlkohlccndgaaGreat
