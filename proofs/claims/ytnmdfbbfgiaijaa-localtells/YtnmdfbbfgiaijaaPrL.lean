/- The contracts of the program's local.Wall and local.When. -/
import Derived.Test.YtnmdfbbfgiaijaaPrF
import Derived.Test.YtnmdfbbfgiaijaaPrI
import Derived.Test.YtnmdfbbfgiaijaaCivB
import Derived.Test.YtnmdfbbfgiaijaaLcP
namespace Go.Proofs.Ytnmdfbbfgiaijaa
open Go.RowKit
set_option linter.unusedVariables false
set_option linter.unusedSimpArgs false

set_option maxRecDepth 100000 in
set_option maxHeartbeats 4000000 in
theorem when_any (t : Tb.Tbl) (v : Value) (y m d s : Int) (w : World) (h : RdCh w v t.ch) (hs : Tb.Sized t) :
    Calls Try.prog 6 #[tbV t.first v, .agg #[.int .i64 y, .int .i64 m, .int .i64 d], .int .i64 s] w (WhenEnd t y m d s w) := by
  have h' := h
  obtain ⟨a, cap, rfl, hc⟩ := h'
  clear hc
  obtain ⟨E, hE⟩ : ∃ E, Tb.tableE t = E := ⟨_, rfl⟩
  obtain ⟨V, hV⟩ : ∃ V, Cv.vldB y m d = V := ⟨_, rfl⟩
  obtain ⟨X, hX⟩ : ∃ X, Tb.whenErr t y m d s = X := ⟨_, rfl⟩
  obtain ⟨R, hR⟩ : ∃ R, Tb.whenL t y m d s = R := ⟨_, rfl⟩
  obtain ⟨D, hD⟩ : ∃ D, Cv.num y m d = D := ⟨_, rfl⟩
  show Calls Try.prog 6 #[tbV t.first (.slice a t.ch.length cap), .agg #[.int .i64 y, .int .i64 m, .int .i64 d], .int .i64 s] w fun e w' => Below w.heap.size w w' ∧ ∃ u, e = .returned (.tuple #[u, .int .i64 (Tb.whenErr t y m d s)]) ∧ RdInts w' u (Tb.whenL t y m d s)
  have HXE : Hid (X = if E ≠ 0 then E else if (V && decide (0 ≤ s ∧ s < 86400)) = false then 3 else 0) := by show _ = _; rw [← hX, Tb.whenErr, hE, Tb.dayB, hV]
  have HRE : Hid (R = if X = 0 then Tb.spans (D * 86400 + s) Tb.least t.first.shift t.ch else []) := by show _ = _; rw [← hR, Tb.whenL, hX, hD]
  have HC : Hid (∀ W, Below w.heap.size w W → Calls Try.prog 18 #[tbV t.first (.slice a t.ch.length cap)] W fun e w' => e = .returned (.int .i64 E) ∧ Below W.heap.size W w') := fun W hW => by
    rw [← hE]; exact pCheck_any t _ W (rdCh_below h hW) hs
  have HS : Hid (E = 0 → V = true → 0 ≤ s → s < 86400 → ∀ W, Below w.heap.size w W → Calls Try.prog 20 #[tbV t.first (.slice a t.ch.length cap), .int .i64 (D * 86400 + s)] W fun e w' => ∃ u, e = .returned u ∧ RdInts w' u (Tb.spans (D * 86400 + s) Tb.least t.first.shift t.ch) ∧ Below W.heap.size W w') := fun h0 h1 s1 s2 W hW => by
    have vb := Cv.num_bd (hV.trans h1)
    rw [hD] at vb
    exact whenShown_any t _ _ W (rdCh_below h hW) (hE.trans h0) (by omega) (by omega)
  have HB : Hid (V = true → -719162 ≤ D ∧ D ≤ 2932896) := fun h1 => by have vb := Cv.num_bd (hV.trans h1); rw [hD] at vb; exact ⟨by omega, by omega⟩
  have HDy : Hid (V = true → ∀ W, Calls Try.prog 19 #[.agg #[.int .i64 y, .int .i64 m, .int .i64 d]] W fun e w' => e = .returned (.tuple #[.int .i64 D, .int .i64 0]) ∧ Below W.heap.size W w') := fun h1 W => by rw [← hD]; exact days_yes y m d W (hV.trans h1)
  have HDn : Hid (V = false → ∀ W, Calls Try.prog 19 #[.agg #[.int .i64 y, .int .i64 m, .int .i64 d]] W fun e w' => e = .returned (.tuple #[.int .i64 0, .int .i64 3]) ∧ Below W.heap.size W w') := fun h1 W => days_no y m d W (hV.trans h1)
  rw [hX, hR]
  generalize Tb.spans (D * 86400 + s) Tb.least t.first.shift t.ch = Z at HS HRE
  obtain ⟨f, ch⟩ := t
  dsimp only at HC HS ⊢
  clear hE hV hX hR hD h hs
  obtain ⟨W0, hW⟩ : ∃ W0, (w.alloc (.cells (tbL f (.slice a ch.length cap)).toArray 26)).alloc (.cells #[.int .i64 y, .int .i64 m, .int .i64 d] 28) = W0 := ⟨_, rfl⟩
  have B0 : Hid (Below w.heap.size w W0) := by
    rw [← hW]
    exact ((Below.refl _ _).alloc (Nat.le_refl _) _).alloc (by simp) _
  have X0 : Hid (CellsAt W0 w.heap.size (tbL f (.slice a ch.length cap))) := by rw [← hW]; exact ca_alloc (ca_new _ _ _) _
  have Y0 : Hid (CellsAt W0 (w.heap.size + 1) [.int .i64 y, .int .i64 m, .int .i64 d]) := by
    rw [← hW]; show CellsAt _ _ _
    have := ca_new (w.alloc (.cells (tbL f (.slice a ch.length cap)).toArray 26)) [.int .i64 y, .int .i64 m, .int .i64 d] 28
    simpa using this
  have HC2 := hid (HC.out W0 B0.out)
  have HW := hid hW
  clear hW HC
  rw [← HW.out] at HC2
  go_enter Try.func6, Try.ntmps6
  go_wp2_with fail
  refine HC2.out.mono ?_
  rintro e w1 ⟨rfl, hb1⟩
  rw [HW.out] at hb1
  have X1 := hid (ca_below X0.out hb1)
  have Y1 := hid (ca_below Y0.out hb1)
  have B1 : Hid (Below w.heap.size w w1) := B0.out.trans (hb1.mono B0.out.size)
  clear HC2 X0 Y0 B0 HW hb1
  by_cases h0 : E = 0
  case neg =>
    have HX2 : Hid (X = E) := by show _ = _; rw [HXE.out, if_pos h0]
    have HR2 : Hid (R = []) := by show _ = _; rw [HRE.out, HX2.out, if_neg h0]
    have h0' : (E != 0) = true := by simp [h0]
    clear HXE HRE HS HB HDy HDn
    go_wp2
    refine bodyPost_ret (v := .tuple #[.slice none 0 0, .int .i64 E]) (by simp [results, Try.results6, go_sem, *]) rfl ⟨B1.out, _, by rw [HX2.out], by rw [HR2.out]; exact rdInts_no _ _ _⟩
  obtain ⟨y0, g0⟩ := ca_at Y1.out 0 rfl
  obtain ⟨y1, g1⟩ := ca_at Y1.out 1 rfl
  obtain ⟨y2, g2⟩ := ca_at Y1.out 2 rfl
  have sy := Y1.out.1
  cases V
  case false =>
    have HX2 : Hid (X = 3) := by show _ = _; rw [HXE.out]; simp [h0]
    have HR2 : Hid (R = []) := by show _ = _; rw [HRE.out, HX2.out]; rfl
    have HD2 := hid (HDn.out rfl)
    subst h0
    clear HXE HRE HS HB HDy HDn
    go_wp2_with fail
    refine (HD2.out _).mono ?_
    rintro e w2 ⟨rfl, hb2⟩
    have B2 : Hid (Below w.heap.size w w2) := B1.out.trans (hb2.mono B1.out.size)
    clear hb2 y0 g0 y1 g1 y2 g2 sy X1 Y1 B1
    go_wp2
    refine bodyPost_ret (v := .tuple #[.slice none 0 0, .int .i64 3]) (by simp [results, Try.results6, go_sem, *]) rfl ⟨B2.out, _, by rw [HX2.out], by rw [HR2.out]; exact rdInts_no _ _ _⟩
  have HD2 := hid (HDy.out rfl)
  obtain ⟨db1, db2⟩ := HB.out rfl
  by_cases hr : 0 ≤ s ∧ s < 86400
  case neg =>
    have HX2 : Hid (X = 3) := by show _ = _; rw [HXE.out]; simp [h0, hr]
    have HR2 : Hid (R = []) := by show _ = _; rw [HRE.out, HX2.out]; rfl
    subst h0
    clear HXE HRE HS HB HDy HDn
    go_wp2_with fail
    refine (HD2.out _).mono ?_
    rintro e w2 ⟨rfl, hb2⟩
    have B2 : Hid (Below w.heap.size w w2) := B1.out.trans (hb2.mono B1.out.size)
    clear hb2 y0 g0 y1 g1 y2 g2 sy X1 Y1 B1
    have hr' : s < 0 ∨ (0 ≤ s ∧ 86400 ≤ s) := by omega
    clear hr
    rcases hr' with hr | ⟨hr, hr2⟩
    all_goals
      go_wp2
      refine bodyPost_ret (v := .tuple #[.slice none 0 0, .int .i64 3]) (by simp [results, Try.results6, go_sem, *]) rfl ⟨B2.out, _, by rw [HX2.out], by rw [HR2.out]; exact rdInts_no _ _ _⟩
  obtain ⟨r1, r2⟩ := hr
  have HX2 : Hid (X = 0) := by show _ = _; rw [HXE.out]; simp [h0, r1, r2]
  have HR2 : Hid (R = Z) := by show _ = _; rw [HRE.out, HX2.out]; rfl
  have HS2 := hid (HS.out h0 rfl r1 r2)
  subst h0
  clear HXE HRE HS HB HDy HDn
  go_wp2_with fail
  refine (HD2.out _).mono ?_
  rintro e w2 ⟨rfl, hb2⟩
  have B2 : Hid (Below w.heap.size w w2) := B1.out.trans (hb2.mono B1.out.size)
  have X2 := hid (ca_below X1.out hb2)
  clear hb2 y0 g0 y1 g1 y2 g2 sy X1 Y1 B1
  obtain ⟨x0, f0⟩ := ca_at X2.out 0 rfl
  obtain ⟨x1, f1⟩ := ca_at X2.out 1 rfl
  obtain ⟨x2, f2⟩ := ca_at X2.out 2 rfl
  obtain ⟨x3, f3⟩ := ca_at X2.out 3 rfl
  have sx := X2.out.1
  go_wp2_with fail
  refine (HS2.out _ B2.out).mono ?_
  rintro e w3 ⟨u, rfl, hrd, hb3⟩
  have RD := hid hrd
  have B3 : Hid (Below w.heap.size w w3) := B2.out.trans (hb3.mono B2.out.size)
  clear hb3 hrd HS2 x0 f0 x1 f1 x2 f2 x3 f3 sx
  go_wp2
  refine bodyPost_ret (v := .tuple #[u, .int .i64 0]) (by simp [results, Try.results6, go_sem, *]) rfl ⟨B3.out, u, by rw [HX2.out], by rw [HR2.out]; exact RD.out⟩
end Go.Proofs.Ytnmdfbbfgiaijaa
