/- The contract of the document's OnOf, the ways on which the weekday fits. -/
import Derived.Test.YtodnokopfknmnaaRefC
namespace Go.Proofs.Ytodnokopfknmnaa
open Go.RowKit
set_option linter.unusedVariables false
set_option linter.unusedSimpArgs false

set_option maxHeartbeats 1000000 in
theorem ron_last (y m wk n : Int) (w : World) (h : Cv.monB y m = true) (f1 : 0 ≤ wk) (f2 : wk ≤ 6) (hn : n ≠ 0) :
    Calls Try.prog 20 #[.int .i64 y, .int .i64 m, .agg #[.int .i64 2, .int .i64 wk, .int .i64 n]] w fun e w' => e = .returned (.tuple #[.agg #[.int .i64 0, .int .i64 0, .int .i64 0], .int .i64 3]) ∧ Below w.heap.size w w' := by
  obtain ⟨m1, m2, m3, m4⟩ := Cv.mon_iff.1 h
  clear h
  have k1 : (1 : Int) ≤ 2 := by omega
  have k2 : (2 : Int) ≤ 4 := by omega
  have hn' : (n != 0) = true := by simp [hn]
  go_enter Try.func20, Try.ntmps20
  go_wp2_with fail
  refine (between_is _ _ _ _ (decide_eq_true ⟨m1, m2⟩)).mono ?_
  rintro e w1 ⟨rfl, rfl⟩
  go_wp2_with fail
  refine (between_is _ _ _ _ (decide_eq_true ⟨m3, m4⟩)).mono ?_
  rintro e w1 ⟨rfl, rfl⟩
  go_wp2_with fail
  refine (between_is _ _ _ _ (decide_eq_true ⟨k1, k2⟩)).mono ?_
  rintro e w1 ⟨rfl, rfl⟩
  go_wp2_with fail
  refine (between_is _ _ _ _ (decide_eq_true ⟨f1, f2⟩)).mono ?_
  rintro e w1 ⟨rfl, rfl⟩
  go_wp2_with fail
  refine (rMonth_any _ _ _ (by omega) (by omega)).mono ?_
  rintro e w1 ⟨rfl, rfl⟩
  go_wp2
  exact bodyPost_ret (v := .tuple #[.agg #[.int .i64 0, .int .i64 0, .int .i64 0], .int .i64 3]) (by simp [results, Try.results20, go_sem]) rfl ⟨rfl, fin2⟩

set_option maxHeartbeats 1000000 in
theorem ron_n (y m k wk n : Int) (w : World) (h : Cv.monB y m = true) (k1 : 1 ≤ k) (k2 : k ≤ 4) (f1 : 0 ≤ wk) (f2 : wk ≤ 6) (hk : k ≠ 2) (hw : ¬ (k = 1 ∧ wk ≠ 0)) (hn : ¬ (1 ≤ n ∧ n ≤ Cv.dim y m)) :
    Calls Try.prog 20 #[.int .i64 y, .int .i64 m, .agg #[.int .i64 k, .int .i64 wk, .int .i64 n]] w fun e w' => e = .returned (.tuple #[.agg #[.int .i64 0, .int .i64 0, .int .i64 0], .int .i64 3]) ∧ Below w.heap.size w w' := by
  obtain ⟨m1, m2, m3, m4⟩ := Cv.mon_iff.1 h
  have A : Hid (decide (1 ≤ n ∧ n ≤ Cv.dim y m) = false) := decide_eq_false hn
  have e2 : (k == 2) = false := by simp [hk]
  have e2' : (k != 2) = true := by simp [hk]
  by_cases e : k = 1
  · have e1 : (k == 1) = true := by simp [e]
    have e0 : (wk != 0) = false := by simp; omega
    clear h hn hk hw e
    go_enter Try.func20, Try.ntmps20
    go_wp2_with fail
    refine (between_is _ _ _ _ (decide_eq_true ⟨m1, m2⟩)).mono ?_
    rintro e w1 ⟨rfl, rfl⟩
    go_wp2_with fail
    refine (between_is _ _ _ _ (decide_eq_true ⟨m3, m4⟩)).mono ?_
    rintro e w1 ⟨rfl, rfl⟩
    go_wp2_with fail
    refine (between_is _ _ _ _ (decide_eq_true ⟨k1, k2⟩)).mono ?_
    rintro e w1 ⟨rfl, rfl⟩
    go_wp2_with fail
    refine (between_is _ _ _ _ (decide_eq_true ⟨f1, f2⟩)).mono ?_
    rintro e w1 ⟨rfl, rfl⟩
    go_wp2_with fail
    refine (rMonth_any _ _ _ (by omega) (by omega)).mono ?_
    rintro e w1 ⟨rfl, rfl⟩
    go_wp2_with fail
    refine (between_is _ _ _ _ A.out).mono ?_
    rintro e w1 ⟨rfl, rfl⟩
    go_wp2
    exact bodyPost_ret (v := .tuple #[.agg #[.int .i64 0, .int .i64 0, .int .i64 0], .int .i64 3]) (by simp [results, Try.results20, go_sem]) rfl ⟨rfl, fin2⟩
  · have e1 : (k == 1) = false := by simp [e]
    clear h hn hk hw e
    go_enter Try.func20, Try.ntmps20
    go_wp2_with fail
    refine (between_is _ _ _ _ (decide_eq_true ⟨m1, m2⟩)).mono ?_
    rintro e w1 ⟨rfl, rfl⟩
    go_wp2_with fail
    refine (between_is _ _ _ _ (decide_eq_true ⟨m3, m4⟩)).mono ?_
    rintro e w1 ⟨rfl, rfl⟩
    go_wp2_with fail
    refine (between_is _ _ _ _ (decide_eq_true ⟨k1, k2⟩)).mono ?_
    rintro e w1 ⟨rfl, rfl⟩
    go_wp2_with fail
    refine (between_is _ _ _ _ (decide_eq_true ⟨f1, f2⟩)).mono ?_
    rintro e w1 ⟨rfl, rfl⟩
    go_wp2_with fail
    refine (rMonth_any _ _ _ (by omega) (by omega)).mono ?_
    rintro e w1 ⟨rfl, rfl⟩
    go_wp2_with fail
    refine (between_is _ _ _ _ A.out).mono ?_
    rintro e w1 ⟨rfl, rfl⟩
    go_wp2
    exact bodyPost_ret (v := .tuple #[.agg #[.int .i64 0, .int .i64 0, .int .i64 0], .int .i64 3]) (by simp [results, Try.results20, go_sem]) rfl ⟨rfl, fin2⟩

set_option maxHeartbeats 4000000 in
theorem ron_1 (y m wk n : Int) (w : World) (h : Cv.monB y m = true) (hf : Cv.fitB 1 wk n (Cv.dim y m) = true) :
    Calls Try.prog 20 #[.int .i64 y, .int .i64 m, .agg #[.int .i64 1, .int .i64 wk, .int .i64 n]] w fun e w' => ∃ a b c : Int, ∃ r : Int, e = .returned (.tuple #[.agg #[.int .i64 a, .int .i64 b, .int .i64 c], .int .i64 r]) ∧ ((r = 0 ∧ -719162 ≤ Cv.tgt y m 1 wk n ∧ Cv.tgt y m 1 wk n ≤ 2932896 ∧ Cv.vldB a b c = true ∧ Cv.num a b c = Cv.tgt y m 1 wk n) ∨ (r = 3 ∧ a = 0 ∧ b = 0 ∧ c = 0 ∧ (Cv.tgt y m 1 wk n < -719162 ∨ 2932896 < Cv.tgt y m 1 wk n))) ∧ Below w.heap.size w w' := by
  obtain ⟨m1, m2, m3, m4⟩ := Cv.mon_iff.1 h
  obtain ⟨f1, f2, f3⟩ := Cv.fit_iff.1 hf
  have n1 : 1 ≤ n := by omega
  have n2 : n ≤ Cv.dim y m := by omega
  have wk0 : wk = 0 := by omega
  subst wk0
  have nb := Cv.num_bd (Cv.vld_one h)
  have db := Cv.dim_bd y m
  obtain ⟨x, hx⟩ : ∃ x, x = Cv.num y m 1 - 1 + n := ⟨_, rfl⟩
  have TG : Hid (Cv.tgt y m 1 0 n = x) := by
    show Cv.tgt y m 1 0 n = _
    unfold Cv.tgt
    simp
    omega
  have X : Hid (Cv.num y m 1 - 1 + n = x) := hx.symm
  have x1 : -719162 ≤ x := by omega
  have x2 : x ≤ 2932927 := by omega
  have k1 : (1 : Int) ≤ 1 := by omega
  have k2 : (1 : Int) ≤ 4 := by omega
  clear h hf f3 hx
  go_enter Try.func20, Try.ntmps20
  go_wp2_with fail
  refine (between_is _ _ _ _ (decide_eq_true ⟨m1, m2⟩)).mono ?_
  rintro e w1 ⟨rfl, rfl⟩
  go_wp2_with fail
  refine (between_is _ _ _ _ (decide_eq_true ⟨m3, m4⟩)).mono ?_
  rintro e w1 ⟨rfl, rfl⟩
  go_wp2_with fail
  refine (between_is _ _ _ _ (decide_eq_true ⟨k1, k2⟩)).mono ?_
  rintro e w1 ⟨rfl, rfl⟩
  go_wp2_with fail
  refine (between_is _ _ _ _ (decide_eq_true ⟨f1, f2⟩)).mono ?_
  rintro e w1 ⟨rfl, rfl⟩
  go_wp2_with fail
  refine (rMonth_any _ _ _ (by omega) (by omega)).mono ?_
  rintro e w1 ⟨rfl, rfl⟩
  go_wp2_with fail
  refine (between_is _ _ _ _ (decide_eq_true ⟨n1, n2⟩)).mono ?_
  rintro e w1 ⟨rfl, rfl⟩
  go_wp2_with fail
  refine (rDays_any _ _ _ _ (by omega) (by omega) (by omega) (by omega) (by omega) (by omega)).mono ?_
  rintro e w1 ⟨rfl, hb⟩
  obtain ⟨hc1, hz1⟩ := bcell hb
  have s1 := hb.size
  simp at s1
  have t1 : w.heap.size < w1.heap.size := by omega
  have t1' : w.heap.size + 1 < w1.heap.size := by omega
  go_wp2_with fail
  rw [X.out]
  go_loopw [9, 10] (fun v i wr => v = .int .i64 x ∧ i = .int .i64 0 ∧ Below w1.heap.size w1 wr) (fun _ _ _ => 0)
  case atStart => exact ⟨rfl, rfl, Below.refl _ _⟩
  case round =>
    obtain ⟨rfl, rfl, hbq⟩ := hrel
    obtain ⟨hcq, hzq⟩ := bcell hbq
    have sq := hbq.size
    have tq : w.heap.size < wr.heap.size := by omega
    have tq' : w.heap.size + 1 < wr.heap.size := by omega
    go_wp2_with fail
    go_quiet (fail)
    have s2' : w.heap.size + 1 < w1.heap.size := by omega
    go_wp2_with fail
    refine (first_any _).mono ?_
    rintro e w2 ⟨rfl, hb2'⟩
    have hb2 : Below wr.heap.size wr w2 := (below_drewN (Below.refl _ _) _).trans hb2'
    clear hb2'
    obtain ⟨hc3, hz3⟩ := bcell hb2
    have s2 := hb2.size
    have t2 : w.heap.size + 1 < w2.heap.size := by omega
    go_wp2_with fail
    refine (last_any _).mono ?_
    rintro e w3 ⟨rfl, hb3⟩
    obtain ⟨hc4, hz4⟩ := bcell hb3
    have s3 := hb3.size
    have t3 : w.heap.size + 1 < w3.heap.size := by omega
    by_cases hin : -719162 ≤ x ∧ x ≤ 2932896
    · go_wp2_with fail
      refine (between_is _ _ _ _ (decide_eq_true hin)).mono ?_
      rintro e w4 ⟨rfl, rfl⟩
      go_wp2_with fail
      refine (dateOf_any _ _ hin.1 hin.2).mono ?_
      rintro e w5 ⟨a, b, c, rfl, hv, hn, hb5⟩
      have HV := hid hv
      have HN := hid hn
      clear hv hn
      obtain ⟨hc5, hz5⟩ := bcell hb5
      go_wp2
      refine bodyPost_ret (v := .tuple #[.agg #[.int .i64 a, .int .i64 b, .int .i64 c], .int .i64 0]) (by simp [results, Try.results20, go_sem, hcq, hc1, hc3, hc4, hc5, tq, tq', s2', t2, t3]) rfl ⟨a, b, c, 0, rfl, Or.inl ⟨rfl, by rw [TG.out]; exact hin.1, by rw [TG.out]; exact hin.2, HV.out, by rw [TG.out]; exact HN.out⟩, ?_⟩
      refine Below.setCell (Below.setCell (Below.setCell (Below.trans (Below.trans (Below.trans (Below.trans (Below.trans fin2 (hb.mono (by simp; omega))) (hbq.mono (by omega))) (hb2.mono (by omega))) (hb3.mono (by omega))) (hb5.mono (by omega))) (by simp) _) (by simp) _) (by simp) _
    · have B : Hid (decide (-719162 ≤ x ∧ x ≤ 2932896) = false) := decide_eq_false hin
      go_wp2_with fail
      refine (between_is _ _ _ _ B.out).mono ?_
      rintro e w4 ⟨rfl, rfl⟩
      go_wp2
      refine bodyPost_ret (v := .tuple #[.agg #[.int .i64 0, .int .i64 0, .int .i64 0], .int .i64 3]) (by simp [results, Try.results20, go_sem, hcq, hc1, hc3, hc4, tq, tq', s2', t2, t3]) rfl ⟨0, 0, 0, 3, rfl, Or.inr ⟨rfl, rfl, rfl, rfl, by rw [TG.out]; omega⟩, ?_⟩
      refine Below.setCell (Below.setCell (Below.setCell (Below.trans (Below.trans (Below.trans (Below.trans fin2 (hb.mono (by simp; omega))) (hbq.mono (by omega))) (hb2.mono (by omega))) (hb3.mono (by omega))) (by simp) _) (by simp) _) (by simp) _

set_option maxHeartbeats 4000000 in
theorem ron_2 (y m wk n : Int) (w : World) (h : Cv.monB y m = true) (hf : Cv.fitB 2 wk n (Cv.dim y m) = true) :
    Calls Try.prog 20 #[.int .i64 y, .int .i64 m, .agg #[.int .i64 2, .int .i64 wk, .int .i64 n]] w fun e w' => ∃ a b c : Int, ∃ r : Int, e = .returned (.tuple #[.agg #[.int .i64 a, .int .i64 b, .int .i64 c], .int .i64 r]) ∧ ((r = 0 ∧ -719162 ≤ Cv.tgt y m 2 wk n ∧ Cv.tgt y m 2 wk n ≤ 2932896 ∧ Cv.vldB a b c = true ∧ Cv.num a b c = Cv.tgt y m 2 wk n) ∨ (r = 3 ∧ a = 0 ∧ b = 0 ∧ c = 0 ∧ (Cv.tgt y m 2 wk n < -719162 ∨ 2932896 < Cv.tgt y m 2 wk n))) ∧ Below w.heap.size w w' := by
  obtain ⟨m1, m2, m3, m4⟩ := Cv.mon_iff.1 h
  obtain ⟨f1, f2, f3⟩ := Cv.fit_iff.1 hf
  have n0 : n = 0 := by omega
  subst n0
  have nb := Cv.num_bd (Cv.vld_one h)
  have db := Cv.dim_bd y m
  obtain ⟨x, hx⟩ : ∃ x, x = Cv.num y m 1 - 1 + Cv.dim y m := ⟨_, rfl⟩
  obtain ⟨r, hr⟩ : ∃ r, r = (Cv.wd x - wk + 7) % 7 := ⟨_, rfl⟩
  have r0 : 0 ≤ r ∧ r ≤ 6 := by omega
  have KEY : Hid (∀ k : Int, 0 ≤ k → k ≤ r → (Cv.wd (x - k) = wk ↔ k = r)) := by
    intro k k0 k6
    subst hr
    unfold Cv.wd at k6 ⊢
    omega
  have TG : Hid (Cv.tgt y m 2 wk 0 = x - r) := by
    show Cv.tgt y m 2 wk 0 = _
    unfold Cv.tgt Cv.upto Cv.frm
    simp
    rw [hr, hx]
    first
      | omega
      | (rw [show Cv.num y m 1 + Cv.dim y m - 1 = Cv.num y m 1 - 1 + Cv.dim y m by omega]; omega)
  have X : Hid (Cv.num y m 1 - 1 + Cv.dim y m = x) := hx.symm
  have x1 : -719162 ≤ x := by omega
  have x2 : x ≤ 2932927 := by omega
  have k1 : (1 : Int) ≤ 2 := by omega
  have k2 : (2 : Int) ≤ 4 := by omega
  clear h hf f3 hx hr
  go_enter Try.func20, Try.ntmps20
  go_wp2_with fail
  refine (between_is _ _ _ _ (decide_eq_true ⟨m1, m2⟩)).mono ?_
  rintro e w1 ⟨rfl, rfl⟩
  go_wp2_with fail
  refine (between_is _ _ _ _ (decide_eq_true ⟨m3, m4⟩)).mono ?_
  rintro e w1 ⟨rfl, rfl⟩
  go_wp2_with fail
  refine (between_is _ _ _ _ (decide_eq_true ⟨k1, k2⟩)).mono ?_
  rintro e w1 ⟨rfl, rfl⟩
  go_wp2_with fail
  refine (between_is _ _ _ _ (decide_eq_true ⟨f1, f2⟩)).mono ?_
  rintro e w1 ⟨rfl, rfl⟩
  go_wp2_with fail
  refine (rMonth_any _ _ _ (by omega) (by omega)).mono ?_
  rintro e w1 ⟨rfl, rfl⟩
  go_wp2_with fail
  refine (rDays_any _ _ _ _ (by omega) (by omega) (by omega) (by omega) (by omega) (by omega)).mono ?_
  rintro e w1 ⟨rfl, hb⟩
  obtain ⟨hc1, hz1⟩ := bcell hb
  have s1 := hb.size
  simp at s1
  have t1 : w.heap.size < w1.heap.size := by omega
  have t1' : w.heap.size + 1 < w1.heap.size := by omega
  go_wp2_with fail
  rw [X.out]
  go_loopw [9, 10] (fun v i wr => ∃ k : Int, 0 ≤ k ∧ k ≤ r ∧ v = .int .i64 (x - k) ∧ i = .int .i64 k ∧ Below w1.heap.size w1 wr) (fun _ i _ => (7 - intOf i).toNat)
  case atStart => exact ⟨0, by omega, by omega, by go_num, rfl, Below.refl _ _⟩
  case round =>
    obtain ⟨k, k0, kr, rfl, rfl, hbq⟩ := hrel
    obtain ⟨hcq, hzq⟩ := bcell hbq
    have sq := hbq.size
    have tq : w.heap.size < wr.heap.size := by omega
    have tq' : w.heap.size + 1 < wr.heap.size := by omega
    have k7 : k < 7 := by omega
    by_cases hk : k = r
    · have E : Hid (Cv.wd (x - k) = wk) := (KEY.out k k0 kr).2 hk
      have e : (Cv.wd (x - k) != wk) = false := by rw [E.out]; simp
      subst hk
      go_wp2_with fail
      go_quiet ((go_at_call 18; exact Calls.quiet_of_same (rWeekday_any _ _)))
      have s2' : w.heap.size + 1 < w1.heap.size := by omega
      go_wp2_with fail
      refine (first_any _).mono ?_
      rintro e w2 ⟨rfl, hb2'⟩
      have hb2 : Below wr.heap.size wr w2 := (below_drewN (Below.refl _ _) _).trans hb2'
      clear hb2'
      obtain ⟨hc3, hz3⟩ := bcell hb2
      have s2 := hb2.size
      have t2 : w.heap.size + 1 < w2.heap.size := by omega
      go_wp2_with fail
      refine (last_any _).mono ?_
      rintro e w3 ⟨rfl, hb3⟩
      obtain ⟨hc4, hz4⟩ := bcell hb3
      have s3 := hb3.size
      have t3 : w.heap.size + 1 < w3.heap.size := by omega
      by_cases hin : -719162 ≤ x - k ∧ x - k ≤ 2932896
      · go_wp2_with fail
        refine (between_is _ _ _ _ (decide_eq_true hin)).mono ?_
        rintro e w4 ⟨rfl, rfl⟩
        go_wp2_with fail
        refine (dateOf_any _ _ hin.1 hin.2).mono ?_
        rintro e w5 ⟨a, b, c, rfl, hv, hn, hb5⟩
        have HV := hid hv
        have HN := hid hn
        clear hv hn
        obtain ⟨hc5, hz5⟩ := bcell hb5
        go_wp2
        refine bodyPost_ret (v := .tuple #[.agg #[.int .i64 a, .int .i64 b, .int .i64 c], .int .i64 0]) (by simp [results, Try.results20, go_sem, hcq, hc1, hc3, hc4, hc5, tq, tq', s2', t2, t3]) rfl ⟨a, b, c, 0, rfl, Or.inl ⟨rfl, by rw [TG.out]; exact hin.1, by rw [TG.out]; exact hin.2, HV.out, by rw [TG.out]; exact HN.out⟩, ?_⟩
        refine Below.setCell (Below.setCell (Below.setCell (Below.trans (Below.trans (Below.trans (Below.trans (Below.trans fin2 (hb.mono (by simp; omega))) (hbq.mono (by omega))) (hb2.mono (by omega))) (hb3.mono (by omega))) (hb5.mono (by omega))) (by simp) _) (by simp) _) (by simp) _
      · have B : Hid (decide (-719162 ≤ x - k ∧ x - k ≤ 2932896) = false) := decide_eq_false hin
        go_wp2_with fail
        refine (between_is _ _ _ _ B.out).mono ?_
        rintro e w4 ⟨rfl, rfl⟩
        go_wp2
        refine bodyPost_ret (v := .tuple #[.agg #[.int .i64 0, .int .i64 0, .int .i64 0], .int .i64 3]) (by simp [results, Try.results20, go_sem, hcq, hc1, hc3, hc4, tq, tq', s2', t2, t3]) rfl ⟨0, 0, 0, 3, rfl, Or.inr ⟨rfl, rfl, rfl, rfl, by rw [TG.out]; omega⟩, ?_⟩
        refine Below.setCell (Below.setCell (Below.setCell (Below.trans (Below.trans (Below.trans (Below.trans fin2 (hb.mono (by simp; omega))) (hbq.mono (by omega))) (hb2.mono (by omega))) (hb3.mono (by omega))) (by simp) _) (by simp) _) (by simp) _
    · have E : Hid (¬ Cv.wd (x - k) = wk) := fun z => hk ((KEY.out k k0 kr).1 z)
      have e : (Cv.wd (x - k) != wk) = true := by simp [E.out]
      go_wp2_with fail
      go_quiet ((go_at_call 18; exact Calls.quiet_of_same (rWeekday_any _ _)))
      go_wp2
      go_roundw
      case rel => exact ⟨k + 1, by omega, by omega, by go_num, rfl, below_drewN hbq _⟩
      case measure => simp [intOf]; omega

set_option maxHeartbeats 4000000 in
theorem ron_3 (y m wk n : Int) (w : World) (h : Cv.monB y m = true) (hf : Cv.fitB 3 wk n (Cv.dim y m) = true) :
    Calls Try.prog 20 #[.int .i64 y, .int .i64 m, .agg #[.int .i64 3, .int .i64 wk, .int .i64 n]] w fun e w' => ∃ a b c : Int, ∃ r : Int, e = .returned (.tuple #[.agg #[.int .i64 a, .int .i64 b, .int .i64 c], .int .i64 r]) ∧ ((r = 0 ∧ -719162 ≤ Cv.tgt y m 3 wk n ∧ Cv.tgt y m 3 wk n ≤ 2932896 ∧ Cv.vldB a b c = true ∧ Cv.num a b c = Cv.tgt y m 3 wk n) ∨ (r = 3 ∧ a = 0 ∧ b = 0 ∧ c = 0 ∧ (Cv.tgt y m 3 wk n < -719162 ∨ 2932896 < Cv.tgt y m 3 wk n))) ∧ Below w.heap.size w w' := by
  obtain ⟨m1, m2, m3, m4⟩ := Cv.mon_iff.1 h
  obtain ⟨f1, f2, f3⟩ := Cv.fit_iff.1 hf
  have n1 : 1 ≤ n := by omega
  have n2 : n ≤ Cv.dim y m := by omega
  have nb := Cv.num_bd (Cv.vld_one h)
  have db := Cv.dim_bd y m
  obtain ⟨x, hx⟩ : ∃ x, x = Cv.num y m 1 - 1 + n := ⟨_, rfl⟩
  obtain ⟨r, hr⟩ : ∃ r, r = (wk - Cv.wd x + 7) % 7 := ⟨_, rfl⟩
  have r0 : 0 ≤ r ∧ r ≤ 6 := by omega
  have KEY : Hid (∀ k : Int, 0 ≤ k → k ≤ r → (Cv.wd (x + k) = wk ↔ k = r)) := by
    intro k k0 k6
    subst hr
    unfold Cv.wd at k6 ⊢
    omega
  have TG : Hid (Cv.tgt y m 3 wk n = x + r) := by
    show Cv.tgt y m 3 wk n = _
    unfold Cv.tgt Cv.upto Cv.frm
    simp
    rw [hr, hx]
    first
      | omega
      | (rw [show Cv.num y m 1 + n - 1 = Cv.num y m 1 - 1 + n by omega]; omega)
  have X : Hid (Cv.num y m 1 - 1 + n = x) := hx.symm
  have x1 : -719162 ≤ x := by omega
  have x2 : x ≤ 2932927 := by omega
  have k1 : (1 : Int) ≤ 3 := by omega
  have k2 : (3 : Int) ≤ 4 := by omega
  clear h hf f3 hx hr
  go_enter Try.func20, Try.ntmps20
  go_wp2_with fail
  refine (between_is _ _ _ _ (decide_eq_true ⟨m1, m2⟩)).mono ?_
  rintro e w1 ⟨rfl, rfl⟩
  go_wp2_with fail
  refine (between_is _ _ _ _ (decide_eq_true ⟨m3, m4⟩)).mono ?_
  rintro e w1 ⟨rfl, rfl⟩
  go_wp2_with fail
  refine (between_is _ _ _ _ (decide_eq_true ⟨k1, k2⟩)).mono ?_
  rintro e w1 ⟨rfl, rfl⟩
  go_wp2_with fail
  refine (between_is _ _ _ _ (decide_eq_true ⟨f1, f2⟩)).mono ?_
  rintro e w1 ⟨rfl, rfl⟩
  go_wp2_with fail
  refine (rMonth_any _ _ _ (by omega) (by omega)).mono ?_
  rintro e w1 ⟨rfl, rfl⟩
  go_wp2_with fail
  refine (between_is _ _ _ _ (decide_eq_true ⟨n1, n2⟩)).mono ?_
  rintro e w1 ⟨rfl, rfl⟩
  go_wp2_with fail
  refine (rDays_any _ _ _ _ (by omega) (by omega) (by omega) (by omega) (by omega) (by omega)).mono ?_
  rintro e w1 ⟨rfl, hb⟩
  obtain ⟨hc1, hz1⟩ := bcell hb
  have s1 := hb.size
  simp at s1
  have t1 : w.heap.size < w1.heap.size := by omega
  have t1' : w.heap.size + 1 < w1.heap.size := by omega
  go_wp2_with fail
  rw [X.out]
  go_loopw [9, 10] (fun v i wr => ∃ k : Int, 0 ≤ k ∧ k ≤ r ∧ v = .int .i64 (x + k) ∧ i = .int .i64 k ∧ Below w1.heap.size w1 wr) (fun _ i _ => (7 - intOf i).toNat)
  case atStart => exact ⟨0, by omega, by omega, by go_num, rfl, Below.refl _ _⟩
  case round =>
    obtain ⟨k, k0, kr, rfl, rfl, hbq⟩ := hrel
    obtain ⟨hcq, hzq⟩ := bcell hbq
    have sq := hbq.size
    have tq : w.heap.size < wr.heap.size := by omega
    have tq' : w.heap.size + 1 < wr.heap.size := by omega
    have k7 : k < 7 := by omega
    by_cases hk : k = r
    · have E : Hid (Cv.wd (x + k) = wk) := (KEY.out k k0 kr).2 hk
      have e : (Cv.wd (x + k) != wk) = false := by rw [E.out]; simp
      subst hk
      go_wp2_with fail
      go_quiet ((go_at_call 18; exact Calls.quiet_of_same (rWeekday_any _ _)))
      have s2' : w.heap.size + 1 < w1.heap.size := by omega
      go_wp2_with fail
      refine (first_any _).mono ?_
      rintro e w2 ⟨rfl, hb2'⟩
      have hb2 : Below wr.heap.size wr w2 := (below_drewN (Below.refl _ _) _).trans hb2'
      clear hb2'
      obtain ⟨hc3, hz3⟩ := bcell hb2
      have s2 := hb2.size
      have t2 : w.heap.size + 1 < w2.heap.size := by omega
      go_wp2_with fail
      refine (last_any _).mono ?_
      rintro e w3 ⟨rfl, hb3⟩
      obtain ⟨hc4, hz4⟩ := bcell hb3
      have s3 := hb3.size
      have t3 : w.heap.size + 1 < w3.heap.size := by omega
      by_cases hin : -719162 ≤ x + k ∧ x + k ≤ 2932896
      · go_wp2_with fail
        refine (between_is _ _ _ _ (decide_eq_true hin)).mono ?_
        rintro e w4 ⟨rfl, rfl⟩
        go_wp2_with fail
        refine (dateOf_any _ _ hin.1 hin.2).mono ?_
        rintro e w5 ⟨a, b, c, rfl, hv, hn, hb5⟩
        have HV := hid hv
        have HN := hid hn
        clear hv hn
        obtain ⟨hc5, hz5⟩ := bcell hb5
        go_wp2
        refine bodyPost_ret (v := .tuple #[.agg #[.int .i64 a, .int .i64 b, .int .i64 c], .int .i64 0]) (by simp [results, Try.results20, go_sem, hcq, hc1, hc3, hc4, hc5, tq, tq', s2', t2, t3]) rfl ⟨a, b, c, 0, rfl, Or.inl ⟨rfl, by rw [TG.out]; exact hin.1, by rw [TG.out]; exact hin.2, HV.out, by rw [TG.out]; exact HN.out⟩, ?_⟩
        refine Below.setCell (Below.setCell (Below.setCell (Below.trans (Below.trans (Below.trans (Below.trans (Below.trans fin2 (hb.mono (by simp; omega))) (hbq.mono (by omega))) (hb2.mono (by omega))) (hb3.mono (by omega))) (hb5.mono (by omega))) (by simp) _) (by simp) _) (by simp) _
      · have B : Hid (decide (-719162 ≤ x + k ∧ x + k ≤ 2932896) = false) := decide_eq_false hin
        go_wp2_with fail
        refine (between_is _ _ _ _ B.out).mono ?_
        rintro e w4 ⟨rfl, rfl⟩
        go_wp2
        refine bodyPost_ret (v := .tuple #[.agg #[.int .i64 0, .int .i64 0, .int .i64 0], .int .i64 3]) (by simp [results, Try.results20, go_sem, hcq, hc1, hc3, hc4, tq, tq', s2', t2, t3]) rfl ⟨0, 0, 0, 3, rfl, Or.inr ⟨rfl, rfl, rfl, rfl, by rw [TG.out]; omega⟩, ?_⟩
        refine Below.setCell (Below.setCell (Below.setCell (Below.trans (Below.trans (Below.trans (Below.trans fin2 (hb.mono (by simp; omega))) (hbq.mono (by omega))) (hb2.mono (by omega))) (hb3.mono (by omega))) (by simp) _) (by simp) _) (by simp) _
    · have E : Hid (¬ Cv.wd (x + k) = wk) := fun z => hk ((KEY.out k k0 kr).1 z)
      have e : (Cv.wd (x + k) != wk) = true := by simp [E.out]
      go_wp2_with fail
      go_quiet ((go_at_call 18; exact Calls.quiet_of_same (rWeekday_any _ _)))
      go_wp2
      go_roundw
      case rel => exact ⟨k + 1, by omega, by omega, by go_num, rfl, below_drewN hbq _⟩
      case measure => simp [intOf]; omega

set_option maxHeartbeats 4000000 in
theorem ron_4 (y m wk n : Int) (w : World) (h : Cv.monB y m = true) (hf : Cv.fitB 4 wk n (Cv.dim y m) = true) :
    Calls Try.prog 20 #[.int .i64 y, .int .i64 m, .agg #[.int .i64 4, .int .i64 wk, .int .i64 n]] w fun e w' => ∃ a b c : Int, ∃ r : Int, e = .returned (.tuple #[.agg #[.int .i64 a, .int .i64 b, .int .i64 c], .int .i64 r]) ∧ ((r = 0 ∧ -719162 ≤ Cv.tgt y m 4 wk n ∧ Cv.tgt y m 4 wk n ≤ 2932896 ∧ Cv.vldB a b c = true ∧ Cv.num a b c = Cv.tgt y m 4 wk n) ∨ (r = 3 ∧ a = 0 ∧ b = 0 ∧ c = 0 ∧ (Cv.tgt y m 4 wk n < -719162 ∨ 2932896 < Cv.tgt y m 4 wk n))) ∧ Below w.heap.size w w' := by
  obtain ⟨m1, m2, m3, m4⟩ := Cv.mon_iff.1 h
  obtain ⟨f1, f2, f3⟩ := Cv.fit_iff.1 hf
  have n1 : 1 ≤ n := by omega
  have n2 : n ≤ Cv.dim y m := by omega
  have nb := Cv.num_bd (Cv.vld_one h)
  have db := Cv.dim_bd y m
  obtain ⟨x, hx⟩ : ∃ x, x = Cv.num y m 1 - 1 + n := ⟨_, rfl⟩
  obtain ⟨r, hr⟩ : ∃ r, r = (Cv.wd x - wk + 7) % 7 := ⟨_, rfl⟩
  have r0 : 0 ≤ r ∧ r ≤ 6 := by omega
  have KEY : Hid (∀ k : Int, 0 ≤ k → k ≤ r → (Cv.wd (x - k) = wk ↔ k = r)) := by
    intro k k0 k6
    subst hr
    unfold Cv.wd at k6 ⊢
    omega
  have TG : Hid (Cv.tgt y m 4 wk n = x - r) := by
    show Cv.tgt y m 4 wk n = _
    unfold Cv.tgt Cv.upto Cv.frm
    simp
    rw [hr, hx]
    first
      | omega
      | (rw [show Cv.num y m 1 + n - 1 = Cv.num y m 1 - 1 + n by omega]; omega)
  have X : Hid (Cv.num y m 1 - 1 + n = x) := hx.symm
  have x1 : -719162 ≤ x := by omega
  have x2 : x ≤ 2932927 := by omega
  have k1 : (1 : Int) ≤ 4 := by omega
  have k2 : (4 : Int) ≤ 4 := by omega
  clear h hf f3 hx hr
  go_enter Try.func20, Try.ntmps20
  go_wp2_with fail
  refine (between_is _ _ _ _ (decide_eq_true ⟨m1, m2⟩)).mono ?_
  rintro e w1 ⟨rfl, rfl⟩
  go_wp2_with fail
  refine (between_is _ _ _ _ (decide_eq_true ⟨m3, m4⟩)).mono ?_
  rintro e w1 ⟨rfl, rfl⟩
  go_wp2_with fail
  refine (between_is _ _ _ _ (decide_eq_true ⟨k1, k2⟩)).mono ?_
  rintro e w1 ⟨rfl, rfl⟩
  go_wp2_with fail
  refine (between_is _ _ _ _ (decide_eq_true ⟨f1, f2⟩)).mono ?_
  rintro e w1 ⟨rfl, rfl⟩
  go_wp2_with fail
  refine (rMonth_any _ _ _ (by omega) (by omega)).mono ?_
  rintro e w1 ⟨rfl, rfl⟩
  go_wp2_with fail
  refine (between_is _ _ _ _ (decide_eq_true ⟨n1, n2⟩)).mono ?_
  rintro e w1 ⟨rfl, rfl⟩
  go_wp2_with fail
  refine (rDays_any _ _ _ _ (by omega) (by omega) (by omega) (by omega) (by omega) (by omega)).mono ?_
  rintro e w1 ⟨rfl, hb⟩
  obtain ⟨hc1, hz1⟩ := bcell hb
  have s1 := hb.size
  simp at s1
  have t1 : w.heap.size < w1.heap.size := by omega
  have t1' : w.heap.size + 1 < w1.heap.size := by omega
  go_wp2_with fail
  rw [X.out]
  go_loopw [9, 10] (fun v i wr => ∃ k : Int, 0 ≤ k ∧ k ≤ r ∧ v = .int .i64 (x - k) ∧ i = .int .i64 k ∧ Below w1.heap.size w1 wr) (fun _ i _ => (7 - intOf i).toNat)
  case atStart => exact ⟨0, by omega, by omega, by go_num, rfl, Below.refl _ _⟩
  case round =>
    obtain ⟨k, k0, kr, rfl, rfl, hbq⟩ := hrel
    obtain ⟨hcq, hzq⟩ := bcell hbq
    have sq := hbq.size
    have tq : w.heap.size < wr.heap.size := by omega
    have tq' : w.heap.size + 1 < wr.heap.size := by omega
    have k7 : k < 7 := by omega
    by_cases hk : k = r
    · have E : Hid (Cv.wd (x - k) = wk) := (KEY.out k k0 kr).2 hk
      have e : (Cv.wd (x - k) != wk) = false := by rw [E.out]; simp
      subst hk
      go_wp2_with fail
      go_quiet ((go_at_call 18; exact Calls.quiet_of_same (rWeekday_any _ _)))
      have s2' : w.heap.size + 1 < w1.heap.size := by omega
      go_wp2_with fail
      refine (first_any _).mono ?_
      rintro e w2 ⟨rfl, hb2'⟩
      have hb2 : Below wr.heap.size wr w2 := (below_drewN (Below.refl _ _) _).trans hb2'
      clear hb2'
      obtain ⟨hc3, hz3⟩ := bcell hb2
      have s2 := hb2.size
      have t2 : w.heap.size + 1 < w2.heap.size := by omega
      go_wp2_with fail
      refine (last_any _).mono ?_
      rintro e w3 ⟨rfl, hb3⟩
      obtain ⟨hc4, hz4⟩ := bcell hb3
      have s3 := hb3.size
      have t3 : w.heap.size + 1 < w3.heap.size := by omega
      by_cases hin : -719162 ≤ x - k ∧ x - k ≤ 2932896
      · go_wp2_with fail
        refine (between_is _ _ _ _ (decide_eq_true hin)).mono ?_
        rintro e w4 ⟨rfl, rfl⟩
        go_wp2_with fail
        refine (dateOf_any _ _ hin.1 hin.2).mono ?_
        rintro e w5 ⟨a, b, c, rfl, hv, hn, hb5⟩
        have HV := hid hv
        have HN := hid hn
        clear hv hn
        obtain ⟨hc5, hz5⟩ := bcell hb5
        go_wp2
        refine bodyPost_ret (v := .tuple #[.agg #[.int .i64 a, .int .i64 b, .int .i64 c], .int .i64 0]) (by simp [results, Try.results20, go_sem, hcq, hc1, hc3, hc4, hc5, tq, tq', s2', t2, t3]) rfl ⟨a, b, c, 0, rfl, Or.inl ⟨rfl, by rw [TG.out]; exact hin.1, by rw [TG.out]; exact hin.2, HV.out, by rw [TG.out]; exact HN.out⟩, ?_⟩
        refine Below.setCell (Below.setCell (Below.setCell (Below.trans (Below.trans (Below.trans (Below.trans (Below.trans fin2 (hb.mono (by simp; omega))) (hbq.mono (by omega))) (hb2.mono (by omega))) (hb3.mono (by omega))) (hb5.mono (by omega))) (by simp) _) (by simp) _) (by simp) _
      · have B : Hid (decide (-719162 ≤ x - k ∧ x - k ≤ 2932896) = false) := decide_eq_false hin
        go_wp2_with fail
        refine (between_is _ _ _ _ B.out).mono ?_
        rintro e w4 ⟨rfl, rfl⟩
        go_wp2
        refine bodyPost_ret (v := .tuple #[.agg #[.int .i64 0, .int .i64 0, .int .i64 0], .int .i64 3]) (by simp [results, Try.results20, go_sem, hcq, hc1, hc3, hc4, tq, tq', s2', t2, t3]) rfl ⟨0, 0, 0, 3, rfl, Or.inr ⟨rfl, rfl, rfl, rfl, by rw [TG.out]; omega⟩, ?_⟩
        refine Below.setCell (Below.setCell (Below.setCell (Below.trans (Below.trans (Below.trans (Below.trans fin2 (hb.mono (by simp; omega))) (hbq.mono (by omega))) (hb2.mono (by omega))) (hb3.mono (by omega))) (by simp) _) (by simp) _) (by simp) _
    · have E : Hid (¬ Cv.wd (x - k) = wk) := fun z => hk ((KEY.out k k0 kr).1 z)
      have e : (Cv.wd (x - k) != wk) = true := by simp [E.out]
      go_wp2_with fail
      go_quiet ((go_at_call 18; exact Calls.quiet_of_same (rWeekday_any _ _)))
      go_wp2
      go_roundw
      case rel => exact ⟨k + 1, by omega, by omega, by go_num, rfl, below_drewN hbq _⟩
      case measure => simp [intOf]; omega

end Go.Proofs.Ytodnokopfknmnaa
