/- The walk of the law LocalTells. -/
import Derived.Test.YtnmdfbbfgiaijaaLcC
import Derived.Test.YtnmdfbbfgiaijaaTbC
import Derived.Test.YtnmdfbbfgiaijaaTbW
import Derived.Test.YtnmdfbbfgiaijaaTbN
import Derived.Test.YtnmdfbbfgiaijaaBaA
import Derived.OneCell
import Derived.Deep.DeepMust
import Derived.Deep.Cut
import Derived.Deep.CutRange
namespace Go.Proofs.Ytnmdfbbfgiaijaa
open Go.RowKit
set_option linter.unusedVariables false
set_option linter.unusedSimpArgs false

theorem inYears_dec (n : Int) : Tb.inYears n = decide ((-62135596800 : Int) ≤ n ∧ n ≤ 253402300799) := rfl
theorem rdInts_nil (w : World) : RdInts w (.slice none 0 0) [] := rd_nil
theorem wallErr_bad {t : Tb.Tbl} {n : Int} (h : Tb.tableE t ≠ 0) : Tb.wallErr t n = Tb.tableE t := if_pos h
theorem wallErr_out {t : Tb.Tbl} {n : Int} (h : Tb.tableE t = 0) (h2 : Tb.inYears n = false) : Tb.wallErr t n = 3 := by unfold Tb.wallErr; rw [if_neg (by simp [h]), if_pos h2]
theorem wallErr_in {t : Tb.Tbl} {n : Int} (h : Tb.tableE t = 0) (h2 : Tb.inYears n = true) : Tb.wallErr t n = Tb.wallE t n := by unfold Tb.wallErr; rw [if_neg (by simp [h]), if_neg (by simp [h2])]
theorem whenErr_bad {t : Tb.Tbl} {y m d s : Int} (h : Tb.tableE t ≠ 0) : Tb.whenErr t y m d s = Tb.tableE t := if_pos h
theorem whenErr_out {t : Tb.Tbl} {y m d s : Int} (h : Tb.tableE t = 0) (h2 : Tb.dayB y m d s = false) : Tb.whenErr t y m d s = 3 := by unfold Tb.whenErr; rw [if_neg (by simp [h]), if_pos h2]
theorem whenErr_in {t : Tb.Tbl} {y m d s : Int} (h : Tb.tableE t = 0) (h2 : Tb.dayB y m d s = true) : Tb.whenErr t y m d s = 0 := by unfold Tb.whenErr; rw [if_neg (by simp [h]), if_neg (by simp [h2])]
theorem whenL_no {t : Tb.Tbl} {y m d s : Int} (h : Tb.whenErr t y m d s ≠ 0) : Tb.whenL t y m d s = [] := if_neg h
theorem whenL_yes {t : Tb.Tbl} {y m d s : Int} (h : Tb.whenErr t y m d s = 0) : Tb.whenL t y m d s = Tb.spans (Cv.num y m d * 86400 + s) Tb.least t.first.shift t.ch := if_pos h
theorem whenL_len {t : Tb.Tbl} {y m d s : Int} (h : t.ch.length ≤ maxLen) (h2 : Tb.whenErr t y m d s = 0 → t.ch.length ≤ 1000) : (Tb.whenL t y m d s).length ≤ 1000000 := by
  unfold Tb.whenL
  split
  · rename_i q
    have := Tb.spans_len t.ch (Cv.num y m d * 86400 + s) Tb.least t.first.shift
    have := h2 q
    omega
  · simp

set_option maxRecDepth 100000 in
set_option maxHeartbeats 8000000 in
theorem localTells_is (t : Tb.Tbl) (v : Value) (at_ y m d s : Int) (w : World) (h : RdCh w v t.ch) (hs : Tb.Sized t) :
    Calls Try.prog 3 #[tbV t.first v, .int .i64 at_, .agg #[.int .i64 y, .int .i64 m, .int .i64 d], .int .i64 s] w fun e w' => e = .returned (.bool true) ∧ Below w.heap.size w w' := by
  obtain ⟨f, ch⟩ := t
  have HS := hid hs
  have H := hid h
  clear hs
  simp only at h
  obtain ⟨a, cap, rfl, _⟩ := h
  have B0 : Hid (Below w.heap.size w ((w.alloc (.cells (tbL f (.slice a ch.length cap)).toArray 26)).alloc (.cells [Value.int .i64 y, .int .i64 m, .int .i64 d].toArray 28))) := ((Below.refl _ _).alloc (Nat.le_refl _) _).alloc (by simp) _
  have T0 := hid (ca_alloc (ca_new w (tbL f (.slice a ch.length cap)) 26) (.cells [Value.int .i64 y, .int .i64 m, .int .i64 d].toArray 28))
  have D0 : Hid (CellsAt ((w.alloc (.cells (tbL f (.slice a ch.length cap)).toArray 26)).alloc (.cells [Value.int .i64 y, .int .i64 m, .int .i64 d].toArray 28)) (w.heap.size + 1) [.int .i64 y, .int .i64 m, .int .i64 d]) := by
    have := ca_new (w.alloc (.cells (tbL f (.slice a ch.length cap)).toArray 26)) [.int .i64 y, .int .i64 m, .int .i64 d] 28
    show CellsAt _ _ _
    simpa using this
  obtain ⟨N, hN⟩ : ∃ N, w.heap.size = N := ⟨_, rfl⟩
  rw [hN] at T0 D0
  have HN := hid hN
  go_enter Try.func3, Try.ntmps3
  go_wp2_with fail
  refine (wall_any ⟨f, ch⟩ _ at_ _ (rdCh_below H.out B0.out) HS.out).mono ?_
  rintro e w1 ⟨hb1, xa, xb, xc, xs, rfl, WY, WN⟩
  obtain ⟨EW, hEW⟩ : ∃ EW, Tb.wallErr ⟨f, ch⟩ at_ = EW := ⟨_, rfl⟩
  rw [hEW] at WY WN ⊢
  have HEW := hid hEW
  have HWY := hid WY
  have HWN := hid WN
  clear hEW WY WN
  have B1 : Hid (Below w.heap.size w w1) := B0.out.trans (hb1.mono B0.out.size)
  have T1 := hid (ca_below T0.out hb1)
  have D1 := hid (ca_below D0.out hb1)
  clear B0 T0 D0 hb1 hN
  obtain ⟨X, hX⟩ : ∃ X, w1.heap.size = X := ⟨_, rfl⟩
  have B2 := hid (Below.alloc B1.out B1.out.size (.cells [Value.int .i64 xa, .int .i64 xb, .int .i64 xc].toArray 28))
  have T2 := hid (ca_alloc T1.out (.cells [Value.int .i64 xa, .int .i64 xb, .int .i64 xc].toArray 28))
  have D2 := hid (ca_alloc D1.out (.cells [Value.int .i64 xa, .int .i64 xb, .int .i64 xc].toArray 28))
  have X2 := hid (ca_new w1 [.int .i64 xa, .int .i64 xb, .int .i64 xc] 28)
  rw [hX] at X2
  have sT := T1.out.1
  have sD := D1.out.1
  rw [hX] at sT sD
  obtain ⟨t0, _⟩ := ca_at T1.out 0 rfl
  obtain ⟨t1, _⟩ := ca_at T1.out 1 rfl
  obtain ⟨t2, _⟩ := ca_at T1.out 2 rfl
  obtain ⟨t3, _⟩ := ca_at T1.out 3 rfl
  obtain ⟨d0, _⟩ := ca_at D1.out 0 rfl
  obtain ⟨d1, _⟩ := ca_at D1.out 1 rfl
  obtain ⟨d2, _⟩ := ca_at D1.out 2 rfl
  go_wp2_with fail
  clear t0 t1 t2 t3 d0 d1 d2 sT sD B1 T1 D1 hX
  refine (when_any ⟨f, ch⟩ _ y m d s _ (rdCh_below H.out B2.out) HS.out).mono ?_
  rintro e V ⟨hb3, u, rfl, RU⟩
  obtain ⟨EH, hEH⟩ : ∃ EH, Tb.whenErr ⟨f, ch⟩ y m d s = EH := ⟨_, rfl⟩
  rw [hEH]
  have HEH := hid hEH
  have HRU := hid RU
  clear hEH RU
  have BV0 : Hid (Below w.heap.size w V) := B2.out.trans (hb3.mono B2.out.size)
  have TV := hid (ca_below T2.out hb3)
  have DV := hid (ca_below D2.out hb3)
  have XV := hid (ca_below X2.out hb3)
  clear B2 T2 D2 X2 hb3
  have sT := TV.out.1
  have sD := DV.out.1
  have sX := XV.out.1
  obtain ⟨t0, _⟩ := ca_at TV.out 0 rfl
  obtain ⟨t1, _⟩ := ca_at TV.out 1 rfl
  obtain ⟨t2, _⟩ := ca_at TV.out 2 rfl
  obtain ⟨t3, _⟩ := ca_at TV.out 3 rfl
  go_wp2_with fail
  refine (checkTable_any ⟨f, ch⟩ _ _ (rdCh_below H.out BV0.out) HS.out.ch HS.out.first HS.out.names).mono ?_
  rintro e w4 ⟨rfl, hb4⟩
  have BV : Hid (Below V.heap.size V w4) := hb4
  clear hb4 t0 t1 t2 t3
  obtain ⟨E0, hE0⟩ : ∃ E0, Tb.tableE ⟨f, ch⟩ = E0 := ⟨_, rfl⟩
  rw [hE0]
  have HE0 := hid hE0
  clear hE0
  have FIN : Hid (∀ (wq wz : World) (zv : Value) (L : List Int), Below V.heap.size V wq → RdInts wq zv L → L = Tb.whenL ⟨f, ch⟩ y m d s → (EH = 0 → ch.length ≤ 1000) → Calls Try.prog 14 #[u, zv] wq fun e w' => e = .returned (.bool true) ∧ Below wq.heap.size wq w') := by
    intro wq wz zv L hb hz hL h1000
    subst hL
    exact sameInts_yes _ _ _ _ (rd_below HRU.out hb) hz (whenL_len HS.out.ch (by rw [HEH.out]; exact h1000))
  by_cases e0 : E0 = 0
  case neg =>
    have e1 : EW = E0 := by rw [← HEW.out, ← HE0.out]; exact wallErr_bad (by rw [HE0.out]; exact e0)
    have e2 : EH = E0 := by rw [← HEH.out, ← HE0.out]; exact whenErr_bad (by rw [HE0.out]; exact e0)
    have hL : Hid (([] : List Int) = Tb.whenL ⟨f, ch⟩ y m d s) := (whenL_no (by rw [HEH.out, e2]; exact e0)).symm
    obtain ⟨rfl, rfl, rfl, rfl⟩ := HWN.out (by rw [e1]; exact e0)
    subst e1 e2
    have q0 : (EH == 0) = false := by simp [e0]
    have E00 := hid e0
    clear e0
    have X4 := hid (ca_below XV.out BV.out)
    obtain ⟨x0, _⟩ := ca_at X4.out 0 rfl
    obtain ⟨x1, _⟩ := ca_at X4.out 1 rfl
    obtain ⟨x2, _⟩ := ca_at X4.out 2 rfl
    have s4 := X4.out.1
    go_wp2_with fail
    have Y4 := hid (ca_new w4 [.int .i64 0, .int .i64 0, .int .i64 0] 28)
    have XA := hid (ca_alloc X4.out (.cells #[.int .i64 0, .int .i64 0, .int .i64 0] 28))
    have BA := hid (Below.alloc BV.out BV.out.size (.cells #[.int .i64 0, .int .i64 0, .int .i64 0] 28))
    refine (localBegun_is _).mono ?_
    rintro e w5 ⟨rfl, hb5⟩
    have Y5 := hid (ca_below Y4.out hb5)
    have X5 := hid (ca_below XA.out hb5)
    have B5 : Hid (Below V.heap.size V w5) := BA.out.trans (hb5.mono BA.out.size)
    clear x0 x1 x2 s4 X4 Y4 XA BA hb5
    obtain ⟨x0, _⟩ := ca_at X5.out 0 rfl
    obtain ⟨x1, _⟩ := ca_at X5.out 1 rfl
    obtain ⟨x2, _⟩ := ca_at X5.out 2 rfl
    obtain ⟨y0, _⟩ := ca_at Y5.out 0 rfl
    obtain ⟨y1, _⟩ := ca_at Y5.out 1 rfl
    obtain ⟨y2, _⟩ := ca_at Y5.out 2 rfl
    have sx := X5.out.1
    have sy := Y5.out.1
    go_wp2_with (go_at_call 14; refine (FIN.out _ w5 _ [] B5.out (rdInts_nil _) hL.out (fun q => absurd q E00.out)).mono ?_; rintro e w6 ⟨rfl, hb6⟩)
    go_ret
    exact ⟨rfl, BV0.out.trans ((B5.out.trans (hb6.mono B5.out.size)).mono BV0.out.size)⟩
  subst e0
  have chl : ch.length ≤ 1000 := (Tb.good_parts HE0.out).1
  obtain ⟨Z1, hZ1⟩ : ∃ Z1, Tb.inYears at_ = Z1 := ⟨_, rfl⟩
  obtain ⟨Z2, hZ2⟩ : ∃ Z2, Tb.dayB y m d s = Z2 := ⟨_, rfl⟩
  have HZ1 := hid hZ1
  have HZ2 := hid hZ2
  clear hZ1 hZ2
  go_upto_region 5 with fail
  go_cut [47] from 36 to 47 (fun sv wc => sv = .bool (!Z1) ∧ Hid (Below V.heap.size V wc))
  case first =>
    by_cases c1 : at_ < -62135596800
    · have hz : Z1 = false := by rw [← HZ1.out, inYears_dec]; simp; omega
      subst hz
      go_wp2_with fail
      refine (least_any _).mono ?_
      rintro e w5 ⟨rfl, hb5⟩
      go_wp2_with fail
      go_meet
      exact ⟨by simp [c1], BV.out.trans (hb5.mono BV.out.size)⟩
    by_cases c2 : 253402300799 < at_
    · have hz : Z1 = false := by rw [← HZ1.out, inYears_dec]; simp; omega
      subst hz
      go_wp2_with fail
      refine (least_any _).mono ?_
      rintro e w5 ⟨rfl, hb5⟩
      go_wp2_with fail
      refine (most_any _).mono ?_
      rintro e w6 ⟨rfl, hb6⟩
      go_wp2_with fail
      go_meet
      exact ⟨by simp [c1, c2], (BV.out.trans (hb5.mono BV.out.size)).trans (hb6.mono (Nat.le_trans BV.out.size hb5.size))⟩
    · have hz : Z1 = true := by rw [← HZ1.out, inYears_dec]; simp; omega
      subst hz
      go_wp2_with fail
      refine (least_any _).mono ?_
      rintro e w5 ⟨rfl, hb5⟩
      go_wp2_with fail
      refine (most_any _).mono ?_
      rintro e w6 ⟨rfl, hb6⟩
      go_wp2_with fail
      go_meet
      exact ⟨by simp [c1, c2], (BV.out.trans (hb5.mono BV.out.size)).trans (hb6.mono (Nat.le_trans BV.out.size hb5.size))⟩
  case rest =>
  clear BV
  obtain ⟨rfl, BV⟩ := hcut
  cases Z1
  · have hlet : True := trivial
    go_upto_region 7 with fail
    go_cut [62] from 48 to 62 (fun sv wc => sv = .bool (!Z2) ∧ Hid (Below V.heap.size V wc))
    case first =>
      have D5 := hid (ca_below DV.out BV.out)
      obtain ⟨d0, _⟩ := ca_at D5.out 0 rfl
      obtain ⟨d1, _⟩ := ca_at D5.out 1 rfl
      obtain ⟨d2, _⟩ := ca_at D5.out 2 rfl
      have s5 := D5.out.1
      obtain ⟨Z, hZ⟩ : ∃ Z, Cv.vldB y m d = Z := ⟨_, rfl⟩
      have HZ := hid hZ
      have HD : Hid (Z2 = (Z && decide (0 ≤ s ∧ s < 86400))) := by show _ = _; rw [← HZ2.out, ← HZ.out]; rfl
      clear hZ
      by_cases c1 : s < 0
      case' neg => by_cases c2 : 86400 ≤ s
      all_goals
        cases Z
        · have hz : Z2 = false := by rw [HD.out]; rfl
          subst hz
          go_wp2_with fail
          refine (isDate_no y m d _ HZ.out).mono ?_
          rintro e w6 ⟨rfl, hb6⟩
          go_wp2_with fail
          go_meet
          exact ⟨by first | rfl | simp [*], BV.out.trans (hb6.mono BV.out.size)⟩
        · have hz : Z2 = decide (0 ≤ s ∧ s < 86400) := by rw [HD.out]; rfl
          subst hz
          go_wp2_with fail
          refine (isDate_yes y m d _ HZ.out).mono ?_
          rintro e w6 ⟨rfl, hb6⟩
          go_wp2_with fail
          go_meet
          exact ⟨congrArg Value.bool (by rw [Bool.eq_iff_iff]; simp <;> omega), BV.out.trans (hb6.mono BV.out.size)⟩
    case rest =>
    clear BV
    obtain ⟨rfl, BV⟩ := hcut
    have D5 := hid (ca_below DV.out BV.out)
    have T5 := hid (ca_below TV.out BV.out)
    cases Z2
    · have e1 : EW = 3 := by rw [← HEW.out]; exact wallErr_out HE0.out HZ1.out
      obtain ⟨rfl, rfl, rfl, rfl⟩ := HWN.out (by rw [e1]; decide)
      subst e1
      have e2 : EH = 3 := by rw [← HEH.out]; exact whenErr_out HE0.out HZ2.out
      have hL : Hid (([] : List Int) = Tb.whenL ⟨f, ch⟩ y m d s) := (whenL_no (by rw [HEH.out, e2]; decide)).symm
      subst e2
      have X5 := hid (ca_below XV.out BV.out)
      have YA := hid (ca_new wc [.int .i64 0, .int .i64 0, .int .i64 0] 28)
      have XA := hid (ca_alloc X5.out (.cells #[.int .i64 0, .int .i64 0, .int .i64 0] 28))
      have TA := hid (ca_alloc T5.out (.cells #[.int .i64 0, .int .i64 0, .int .i64 0] 28))
      have DA := hid (ca_alloc D5.out (.cells #[.int .i64 0, .int .i64 0, .int .i64 0] 28))
      have BA := hid (Below.alloc BV.out BV.out.size (.cells #[.int .i64 0, .int .i64 0, .int .i64 0] 28))
      have sY : V.heap.size ≤ wc.heap.size := BV.out.size
      go_wp2_with fail
      have XB := XA
      have YB := YA
      have TB := TA
      have DB := DA
      have BB := BA
      clear XA YA TA DA BA
      refine (localBegun_is _).mono ?_
      rintro e w10 ⟨rfl, hb10⟩
      have X10 := hid (ca_below XB.out hb10)
      have Y10 := hid (ca_below YB.out hb10)
      have B10 : Hid (Below V.heap.size V w10) := BB.out.trans (hb10.mono BB.out.size)
      clear hb10 XB YB BB
      obtain ⟨x0, _⟩ := ca_at X10.out 0 rfl
      obtain ⟨x1, _⟩ := ca_at X10.out 1 rfl
      obtain ⟨x2, _⟩ := ca_at X10.out 2 rfl
      obtain ⟨y0, _⟩ := ca_at Y10.out 0 rfl
      obtain ⟨y1, _⟩ := ca_at Y10.out 1 rfl
      obtain ⟨y2, _⟩ := ca_at Y10.out 2 rfl
      have sx := X10.out.1
      have sy := Y10.out.1
      go_wp2_with (go_at_call 14; refine (FIN.out _ w10 _ _ B10.out (rdInts_nil _) hL.out (fun _ => chl)).mono ?_; rintro e w11 ⟨rfl, hb11⟩)
      go_ret
      exact ⟨rfl, BV0.out.trans ((B10.out.trans (hb11.mono B10.out.size)).mono BV0.out.size)⟩
    · have e1 : EW = 3 := by rw [← HEW.out]; exact wallErr_out HE0.out HZ1.out
      obtain ⟨rfl, rfl, rfl, rfl⟩ := HWN.out (by rw [e1]; decide)
      subst e1
      have e2 : EH = 0 := by rw [← HEH.out]; exact whenErr_in HE0.out HZ2.out
      have hL : Hid (Tb.spans (Cv.num y m d * 86400 + s) Tb.least f.shift ch = Tb.whenL ⟨f, ch⟩ y m d s) := hid (whenL_yes (t := ⟨f, ch⟩) (by rw [HEH.out, e2])).symm
      have hday : Cv.vldB y m d = true ∧ (0 ≤ s ∧ s < 86400) := by have := HZ2.out; unfold Tb.dayB at this; simp at this; exact this
      have HDAY := hid hday
      clear hday
      subst e2
      have X5 := hid (ca_below XV.out BV.out)
      have YA := hid (ca_new wc [.int .i64 0, .int .i64 0, .int .i64 0] 28)
      have XA := hid (ca_alloc X5.out (.cells #[.int .i64 0, .int .i64 0, .int .i64 0] 28))
      have TA := hid (ca_alloc T5.out (.cells #[.int .i64 0, .int .i64 0, .int .i64 0] 28))
      have DA := hid (ca_alloc D5.out (.cells #[.int .i64 0, .int .i64 0, .int .i64 0] 28))
      have BA := hid (Below.alloc BV.out BV.out.size (.cells #[.int .i64 0, .int .i64 0, .int .i64 0] 28))
      have sY : V.heap.size ≤ wc.heap.size := BV.out.size
      have s5 := T5.out.1
      have s6 := D5.out.1
      obtain ⟨t0, _⟩ := ca_at T5.out 0 rfl
      obtain ⟨t1, _⟩ := ca_at T5.out 1 rfl
      obtain ⟨t2, _⟩ := ca_at T5.out 2 rfl
      obtain ⟨t3, _⟩ := ca_at T5.out 3 rfl
      obtain ⟨d0, _⟩ := ca_at D5.out 0 rfl
      obtain ⟨d1, _⟩ := ca_at D5.out 1 rfl
      obtain ⟨d2, _⟩ := ca_at D5.out 2 rfl
      go_wp2_with fail
      clear t0 t1 t2 t3 d0 d1 d2 s5 s6
      have XB := XA
      have YB := YA
      have TB := TA
      have DB := DA
      have BB := BA
      clear XA YA TA DA BA
      refine (whenOf_any ⟨f, ch⟩ _ y m d s _ (rdCh_below H.out (BV0.out.trans (BB.out.mono BV0.out.size))) HDAY.out.1 HDAY.out.2.1 HDAY.out.2.2 HE0.out).mono ?_
      rintro e w9 ⟨zv, rfl, ho, hb9⟩
      have X9 := hid (ca_below XB.out hb9)
      have Y9 := hid (ca_below YB.out hb9)
      have B9 : Hid (Below V.heap.size V w9) := BB.out.trans (hb9.mono BB.out.size)
      have RZ := hid (ownInts_rd ho)
      clear XB YB TB DB BB hb9 ho
      go_wp2_with fail
      refine (localBegun_is _).mono ?_
      rintro e w10 ⟨rfl, hb10⟩
      have X10 := hid (ca_below X9.out hb10)
      have Y10 := hid (ca_below Y9.out hb10)
      have B10 : Hid (Below V.heap.size V w10) := B9.out.trans (hb10.mono B9.out.size)
      have RW := hid (rd_below RZ.out hb10)
      clear hb10 X9 Y9 B9
      obtain ⟨x0, _⟩ := ca_at X10.out 0 rfl
      obtain ⟨x1, _⟩ := ca_at X10.out 1 rfl
      obtain ⟨x2, _⟩ := ca_at X10.out 2 rfl
      obtain ⟨y0, _⟩ := ca_at Y10.out 0 rfl
      obtain ⟨y1, _⟩ := ca_at Y10.out 1 rfl
      obtain ⟨y2, _⟩ := ca_at Y10.out 2 rfl
      have sx := X10.out.1
      have sy := Y10.out.1
      go_wp2_with (go_at_call 14; refine (FIN.out _ w10 _ _ B10.out RW.out hL.out (fun _ => chl)).mono ?_; rintro e w11 ⟨rfl, hb11⟩)
      go_ret
      exact ⟨rfl, BV0.out.trans ((B10.out.trans (hb11.mono B10.out.size)).mono BV0.out.size)⟩
  · have hlet : True := trivial
    go_upto_region 7 with fail
    go_cut [62] from 48 to 62 (fun sv wc => sv = .bool (!Z2) ∧ Hid (Below V.heap.size V wc))
    case first =>
      have D5 := hid (ca_below DV.out BV.out)
      obtain ⟨d0, _⟩ := ca_at D5.out 0 rfl
      obtain ⟨d1, _⟩ := ca_at D5.out 1 rfl
      obtain ⟨d2, _⟩ := ca_at D5.out 2 rfl
      have s5 := D5.out.1
      obtain ⟨Z, hZ⟩ : ∃ Z, Cv.vldB y m d = Z := ⟨_, rfl⟩
      have HZ := hid hZ
      have HD : Hid (Z2 = (Z && decide (0 ≤ s ∧ s < 86400))) := by show _ = _; rw [← HZ2.out, ← HZ.out]; rfl
      clear hZ
      by_cases c1 : s < 0
      case' neg => by_cases c2 : 86400 ≤ s
      all_goals
        cases Z
        · have hz : Z2 = false := by rw [HD.out]; rfl
          subst hz
          go_wp2_with fail
          refine (isDate_no y m d _ HZ.out).mono ?_
          rintro e w6 ⟨rfl, hb6⟩
          go_wp2_with fail
          go_meet
          exact ⟨by first | rfl | simp [*], BV.out.trans (hb6.mono BV.out.size)⟩
        · have hz : Z2 = decide (0 ≤ s ∧ s < 86400) := by rw [HD.out]; rfl
          subst hz
          go_wp2_with fail
          refine (isDate_yes y m d _ HZ.out).mono ?_
          rintro e w6 ⟨rfl, hb6⟩
          go_wp2_with fail
          go_meet
          exact ⟨congrArg Value.bool (by rw [Bool.eq_iff_iff]; simp <;> omega), BV.out.trans (hb6.mono BV.out.size)⟩
    case rest =>
    clear BV
    obtain ⟨rfl, BV⟩ := hcut
    have D5 := hid (ca_below DV.out BV.out)
    have T5 := hid (ca_below TV.out BV.out)
    cases Z2
    · have e1 : Hid (Tb.wallE ⟨f, ch⟩ at_ = EW) := by show _ = _; rw [← HEW.out]; exact (wallErr_in HE0.out HZ1.out).symm
      have e2 : EH = 3 := by rw [← HEH.out]; exact whenErr_out HE0.out HZ2.out
      have hL : Hid (([] : List Int) = Tb.whenL ⟨f, ch⟩ y m d s) := (whenL_no (by rw [HEH.out, e2]; decide)).symm
      subst e2
      have X5 := hid (ca_below XV.out BV.out)
      have YA := hid (ca_new wc [.int .i64 0, .int .i64 0, .int .i64 0] 28)
      have XA := hid (ca_alloc X5.out (.cells #[.int .i64 0, .int .i64 0, .int .i64 0] 28))
      have TA := hid (ca_alloc T5.out (.cells #[.int .i64 0, .int .i64 0, .int .i64 0] 28))
      have DA := hid (ca_alloc D5.out (.cells #[.int .i64 0, .int .i64 0, .int .i64 0] 28))
      have BA := hid (Below.alloc BV.out BV.out.size (.cells #[.int .i64 0, .int .i64 0, .int .i64 0] 28))
      have sY : V.heap.size ≤ wc.heap.size := BV.out.size
      have s5 := T5.out.1
      have s6 := D5.out.1
      obtain ⟨t0, _⟩ := ca_at T5.out 0 rfl
      obtain ⟨t1, _⟩ := ca_at T5.out 1 rfl
      obtain ⟨t2, _⟩ := ca_at T5.out 2 rfl
      obtain ⟨t3, _⟩ := ca_at T5.out 3 rfl
      obtain ⟨d0, _⟩ := ca_at D5.out 0 rfl
      obtain ⟨d1, _⟩ := ca_at D5.out 1 rfl
      obtain ⟨d2, _⟩ := ca_at D5.out 2 rfl
      go_wp2_with fail
      clear t0 t1 t2 t3 d0 d1 d2 s5 s6
      have hlk := Tb.goodL_bd (Tb.look_bd HE0.out at_)
      have hyr := HZ1.out
      rw [inYears_dec] at hyr
      simp only [decide_eq_true_eq] at hyr
      refine (wallOf_any ⟨f, ch⟩ _ at_ _ (rdCh_below H.out (BV0.out.trans (BA.out.mono BV0.out.size))) chl ⟨hlk.1, hlk.2.1⟩ hyr.1 hyr.2).mono ?_
      rintro e w7 ⟨hb7, ya, yb, yc, ys, rfl, YY, YN⟩
      rw [e1.out] at YY YN ⊢
      clear hlk hyr
      have hxy : xa = ya ∧ xb = yb ∧ xc = yc ∧ xs = ys := by
        by_cases q : EW = 0
        · obtain ⟨a1, a2, a3⟩ := HWY.out q
          obtain ⟨b1, b2, b3⟩ := YY q
          obtain ⟨i1, i2, i3⟩ := Cv.num_inj a1 b1 (a2.trans b2.symm)
          exact ⟨i1, i2, i3, a3.trans b3.symm⟩
        · obtain ⟨a1, a2, a3, a4⟩ := HWN.out q
          obtain ⟨b1, b2, b3, b4⟩ := YN q
          exact ⟨a1.trans b1.symm, a2.trans b2.symm, a3.trans b3.symm, a4.trans b4.symm⟩
      obtain ⟨rfl, rfl, rfl, rfl⟩ := hxy
      clear YY YN
      have X7 := hid (ca_below XA.out hb7)
      have Y7 := hid (ca_below YA.out hb7)
      have T7 := hid (ca_below TA.out hb7)
      have D7 := hid (ca_below DA.out hb7)
      have B7 : Hid (Below V.heap.size V w7) := BA.out.trans (hb7.mono BA.out.size)
      clear XA YA TA DA BA hb7
      obtain ⟨y0, g0⟩ := ca_at Y7.out 0 rfl
      obtain ⟨y1, g1⟩ := ca_at Y7.out 1 rfl
      obtain ⟨y2, g2⟩ := ca_at Y7.out 2 rfl
      have s7 := Y7.out.1
      have neT : ¬ N = wc.heap.size := by omega
      have neD : ¬ N + 1 = wc.heap.size := by omega
      have neX : ¬ X = wc.heap.size := by omega
      have XB := hid (ca_far (o := 2) (u := .int .i64 xc) (ca_far (o := 1) (u := .int .i64 xb) (ca_far (o := 0) (u := .int .i64 xa) X7.out neX) neX) neX)
      have TB := hid (ca_far (o := 2) (u := .int .i64 xc) (ca_far (o := 1) (u := .int .i64 xb) (ca_far (o := 0) (u := .int .i64 xa) T7.out neT) neT) neT)
      have DB := hid (ca_far (o := 2) (u := .int .i64 xc) (ca_far (o := 1) (u := .int .i64 xb) (ca_far (o := 0) (u := .int .i64 xa) D7.out neD) neD) neD)
      have YB := hid (ca_put (ca_put (ca_put Y7.out 0 (.int .i64 xa) (by simp)) 1 (.int .i64 xb) (by simp)) 2 (.int .i64 xc) (by simp))
      have BB := hid (below_set (o := 2) (below_set (o := 1) (below_set (o := 0) B7.out sY (.int .i64 xa)) sY (.int .i64 xb)) sY (.int .i64 xc))
      go_wp2_with fail
      clear X7 T7 D7 Y7 B7 y0 g0 y1 g1 y2 g2 s7
      refine (localBegun_is _).mono ?_
      rintro e w10 ⟨rfl, hb10⟩
      have X10 := hid (ca_below XB.out hb10)
      have Y10 := hid (ca_below YB.out hb10)
      have B10 : Hid (Below V.heap.size V w10) := BB.out.trans (hb10.mono BB.out.size)
      clear hb10 XB YB BB
      obtain ⟨x0, _⟩ := ca_at X10.out 0 rfl
      obtain ⟨x1, _⟩ := ca_at X10.out 1 rfl
      obtain ⟨x2, _⟩ := ca_at X10.out 2 rfl
      obtain ⟨y0, _⟩ := ca_at Y10.out 0 rfl
      obtain ⟨y1, _⟩ := ca_at Y10.out 1 rfl
      obtain ⟨y2, _⟩ := ca_at Y10.out 2 rfl
      have sx := X10.out.1
      have sy := Y10.out.1
      go_wp2_with (go_at_call 14; refine (FIN.out _ w10 _ _ B10.out (rdInts_nil _) hL.out (fun _ => chl)).mono ?_; rintro e w11 ⟨rfl, hb11⟩)
      go_ret
      exact ⟨rfl, BV0.out.trans ((B10.out.trans (hb11.mono B10.out.size)).mono BV0.out.size)⟩
    · have e1 : Hid (Tb.wallE ⟨f, ch⟩ at_ = EW) := by show _ = _; rw [← HEW.out]; exact (wallErr_in HE0.out HZ1.out).symm
      have e2 : EH = 0 := by rw [← HEH.out]; exact whenErr_in HE0.out HZ2.out
      have hL : Hid (Tb.spans (Cv.num y m d * 86400 + s) Tb.least f.shift ch = Tb.whenL ⟨f, ch⟩ y m d s) := hid (whenL_yes (t := ⟨f, ch⟩) (by rw [HEH.out, e2])).symm
      have hday : Cv.vldB y m d = true ∧ (0 ≤ s ∧ s < 86400) := by have := HZ2.out; unfold Tb.dayB at this; simp at this; exact this
      have HDAY := hid hday
      clear hday
      subst e2
      have X5 := hid (ca_below XV.out BV.out)
      have YA := hid (ca_new wc [.int .i64 0, .int .i64 0, .int .i64 0] 28)
      have XA := hid (ca_alloc X5.out (.cells #[.int .i64 0, .int .i64 0, .int .i64 0] 28))
      have TA := hid (ca_alloc T5.out (.cells #[.int .i64 0, .int .i64 0, .int .i64 0] 28))
      have DA := hid (ca_alloc D5.out (.cells #[.int .i64 0, .int .i64 0, .int .i64 0] 28))
      have BA := hid (Below.alloc BV.out BV.out.size (.cells #[.int .i64 0, .int .i64 0, .int .i64 0] 28))
      have sY : V.heap.size ≤ wc.heap.size := BV.out.size
      have s5 := T5.out.1
      have s6 := D5.out.1
      obtain ⟨t0, _⟩ := ca_at T5.out 0 rfl
      obtain ⟨t1, _⟩ := ca_at T5.out 1 rfl
      obtain ⟨t2, _⟩ := ca_at T5.out 2 rfl
      obtain ⟨t3, _⟩ := ca_at T5.out 3 rfl
      obtain ⟨d0, _⟩ := ca_at D5.out 0 rfl
      obtain ⟨d1, _⟩ := ca_at D5.out 1 rfl
      obtain ⟨d2, _⟩ := ca_at D5.out 2 rfl
      go_wp2_with fail
      clear t0 t1 t2 t3 d0 d1 d2 s5 s6
      have hlk := Tb.goodL_bd (Tb.look_bd HE0.out at_)
      have hyr := HZ1.out
      rw [inYears_dec] at hyr
      simp only [decide_eq_true_eq] at hyr
      refine (wallOf_any ⟨f, ch⟩ _ at_ _ (rdCh_below H.out (BV0.out.trans (BA.out.mono BV0.out.size))) chl ⟨hlk.1, hlk.2.1⟩ hyr.1 hyr.2).mono ?_
      rintro e w7 ⟨hb7, ya, yb, yc, ys, rfl, YY, YN⟩
      rw [e1.out] at YY YN ⊢
      clear hlk hyr
      have hxy : xa = ya ∧ xb = yb ∧ xc = yc ∧ xs = ys := by
        by_cases q : EW = 0
        · obtain ⟨a1, a2, a3⟩ := HWY.out q
          obtain ⟨b1, b2, b3⟩ := YY q
          obtain ⟨i1, i2, i3⟩ := Cv.num_inj a1 b1 (a2.trans b2.symm)
          exact ⟨i1, i2, i3, a3.trans b3.symm⟩
        · obtain ⟨a1, a2, a3, a4⟩ := HWN.out q
          obtain ⟨b1, b2, b3, b4⟩ := YN q
          exact ⟨a1.trans b1.symm, a2.trans b2.symm, a3.trans b3.symm, a4.trans b4.symm⟩
      obtain ⟨rfl, rfl, rfl, rfl⟩ := hxy
      clear YY YN
      have X7 := hid (ca_below XA.out hb7)
      have Y7 := hid (ca_below YA.out hb7)
      have T7 := hid (ca_below TA.out hb7)
      have D7 := hid (ca_below DA.out hb7)
      have B7 : Hid (Below V.heap.size V w7) := BA.out.trans (hb7.mono BA.out.size)
      clear XA YA TA DA BA hb7
      obtain ⟨y0, g0⟩ := ca_at Y7.out 0 rfl
      obtain ⟨y1, g1⟩ := ca_at Y7.out 1 rfl
      obtain ⟨y2, g2⟩ := ca_at Y7.out 2 rfl
      have s7 := Y7.out.1
      have neT : ¬ N = wc.heap.size := by omega
      have neD : ¬ N + 1 = wc.heap.size := by omega
      have neX : ¬ X = wc.heap.size := by omega
      have XB := hid (ca_far (o := 2) (u := .int .i64 xc) (ca_far (o := 1) (u := .int .i64 xb) (ca_far (o := 0) (u := .int .i64 xa) X7.out neX) neX) neX)
      have TB := hid (ca_far (o := 2) (u := .int .i64 xc) (ca_far (o := 1) (u := .int .i64 xb) (ca_far (o := 0) (u := .int .i64 xa) T7.out neT) neT) neT)
      have DB := hid (ca_far (o := 2) (u := .int .i64 xc) (ca_far (o := 1) (u := .int .i64 xb) (ca_far (o := 0) (u := .int .i64 xa) D7.out neD) neD) neD)
      have YB := hid (ca_put (ca_put (ca_put Y7.out 0 (.int .i64 xa) (by simp)) 1 (.int .i64 xb) (by simp)) 2 (.int .i64 xc) (by simp))
      have BB := hid (below_set (o := 2) (below_set (o := 1) (below_set (o := 0) B7.out sY (.int .i64 xa)) sY (.int .i64 xb)) sY (.int .i64 xc))
      have s5 := T7.out.1
      have s6 := D7.out.1
      obtain ⟨t0, _⟩ := ca_at T7.out 0 rfl
      obtain ⟨t1, _⟩ := ca_at T7.out 1 rfl
      obtain ⟨t2, _⟩ := ca_at T7.out 2 rfl
      obtain ⟨t3, _⟩ := ca_at T7.out 3 rfl
      obtain ⟨d0, _⟩ := ca_at D7.out 0 rfl
      obtain ⟨d1, _⟩ := ca_at D7.out 1 rfl
      obtain ⟨d2, _⟩ := ca_at D7.out 2 rfl
      go_wp2_with fail
      clear X7 T7 D7 Y7 B7 y0 g0 y1 g1 y2 g2 s7
      clear t0 t1 t2 t3 d0 d1 d2 s5 s6
      refine (whenOf_any ⟨f, ch⟩ _ y m d s _ (rdCh_below H.out (BV0.out.trans (BB.out.mono BV0.out.size))) HDAY.out.1 HDAY.out.2.1 HDAY.out.2.2 HE0.out).mono ?_
      rintro e w9 ⟨zv, rfl, ho, hb9⟩
      have X9 := hid (ca_below XB.out hb9)
      have Y9 := hid (ca_below YB.out hb9)
      have B9 : Hid (Below V.heap.size V w9) := BB.out.trans (hb9.mono BB.out.size)
      have RZ := hid (ownInts_rd ho)
      clear XB YB TB DB BB hb9 ho
      go_wp2_with fail
      refine (localBegun_is _).mono ?_
      rintro e w10 ⟨rfl, hb10⟩
      have X10 := hid (ca_below X9.out hb10)
      have Y10 := hid (ca_below Y9.out hb10)
      have B10 : Hid (Below V.heap.size V w10) := B9.out.trans (hb10.mono B9.out.size)
      have RW := hid (rd_below RZ.out hb10)
      clear hb10 X9 Y9 B9
      obtain ⟨x0, _⟩ := ca_at X10.out 0 rfl
      obtain ⟨x1, _⟩ := ca_at X10.out 1 rfl
      obtain ⟨x2, _⟩ := ca_at X10.out 2 rfl
      obtain ⟨y0, _⟩ := ca_at Y10.out 0 rfl
      obtain ⟨y1, _⟩ := ca_at Y10.out 1 rfl
      obtain ⟨y2, _⟩ := ca_at Y10.out 2 rfl
      have sx := X10.out.1
      have sy := Y10.out.1
      go_wp2_with (go_at_call 14; refine (FIN.out _ w10 _ _ B10.out RW.out hL.out (fun _ => chl)).mono ?_; rintro e w11 ⟨rfl, hb11⟩)
      go_ret
      exact ⟨rfl, BV0.out.trans ((B10.out.trans (hb11.mono B10.out.size)).mono BV0.out.size)⟩
end Go.Proofs.Ytnmdfbbfgiaijaa
