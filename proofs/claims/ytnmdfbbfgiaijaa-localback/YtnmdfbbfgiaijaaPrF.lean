/- Contracts of the program's moment.Parts and local.Wall. -/
import Derived.Test.YtnmdfbbfgiaijaaPrE
import Derived.Test.YtnmdfbbfgiaijaaCivC
namespace Go.Proofs.Ytnmdfbbfgiaijaa
open Go.RowKit
set_option linter.unusedVariables false
set_option linter.unusedSimpArgs false

theorem below_set3 {a w : World} (h : Below a.heap.size a w) {q o0 o1 o2 : Nat} (hq : a.heap.size ≤ q) {u0 u1 u2 : Value} {o : Obj} : Below a.heap.size a ((((w.setCell ⟨q, o0, none⟩ u0).setCell ⟨q, o1, none⟩ u1).setCell ⟨q, o2, none⟩ u2).alloc o) := by
  have := below_set (below_set (below_set h hq u0 (o := o0)) hq u1 (o := o1)) hq u2 (o := o2)
  exact this.alloc this.size _
set_option maxHeartbeats 1000000 in
theorem parts_any (n F s : Int) (w : World) (h1 : -1000000000000 ≤ n) (h2 : n ≤ 1000000000000) (hF : n / 86400 = F) (hs : n - 86400 * F = s) :
    Calls Try.prog 16 #[.int .i64 n] w fun e w' => e = .returned (.tuple #[.int .i64 F, .int .i64 s]) ∧ w' = w := by
  obtain ⟨q, hq⟩ : ∃ q, n.tdiv 86400 = q := ⟨_, rfl⟩
  obtain ⟨r, hr⟩ : ∃ r, n.tmod 86400 = r := ⟨_, rfl⟩
  have e1 : n = 86400 * q + r := by rw [← hq, ← hr]; exact (Int.mul_tdiv_add_tmod n 86400).symm
  have e2 : -86400 < r ∧ r < 86400 := by
    rw [← hr]
    rcases Int.le_total 0 n with h | h
    · rw [Int.tmod_eq_emod_of_nonneg h]; omega
    · have : n.tmod 86400 = -((-n) % 86400) := by
        have : n = -(-n) := by omega
        rw [this, Int.neg_tmod, Int.tmod_eq_emod_of_nonneg (by omega)]; simp
      rw [this]; omega
  obtain ⟨e2a, e2b⟩ := e2
  by_cases h0 : r < 0
  · have e3 : F = q - 1 := by omega
    have e4 : s = r + 86400 := by omega
    have b1 : -20000000 ≤ q ∧ q ≤ 20000000 := by omega
    obtain ⟨b1, b2⟩ := b1
    clear hF hs e1 h1 h2
    go_enter Try.func16, Try.ntmps16
    go_wp2
    exact bodyPost_ret (v := .tuple #[.int .i64 (q - 1), .int .i64 (r + 86400)]) (by simp [results, Try.results16, go_sem]) rfl ⟨by first | rfl | rw [e3, e4], rfl⟩
  · have e3 : F = q := by omega
    have e4 : s = r := by omega
    have b1 : -20000000 ≤ q ∧ q ≤ 20000000 := by omega
    obtain ⟨b1, b2⟩ := b1
    clear hF hs e1 h1 h2
    go_enter Try.func16, Try.ntmps16
    go_wp2
    exact bodyPost_ret (v := .tuple #[.int .i64 q, .int .i64 r]) (by simp [results, Try.results16, go_sem]) rfl ⟨by first | rfl | rw [e3, e4], rfl⟩
theorem wallErr_look (t : Tb.Tbl) (n : Int) (h : Tb.lookErr t n ≠ 0) : Tb.wallErr t n = Tb.lookErr t n := by
  unfold Tb.wallErr
  unfold Tb.lookErr at h ⊢
  by_cases h1 : Tb.tableE t = 0
  · simp only [h1] at h ⊢
    cases h2 : Tb.inYears n
    · simp
    · rw [h2] at h; simp at h
  · simp [h1]
theorem lookErr_good {t : Tb.Tbl} {n : Int} (h : Tb.lookErr t n = 0) : Tb.tableE t = 0 ∧ Tb.inYears n = true ∧ Tb.wallErr t n = Tb.wallE t n ∧ Tb.lookO t n = Tb.look t n := by
  have q1 : Tb.lookO t n = Tb.look t n := by unfold Tb.lookO; rw [if_pos h]
  unfold Tb.lookErr at h
  by_cases h1 : Tb.tableE t = 0
  · cases h2 : Tb.inYears n
    · simp [h1, h2] at h
    · exact ⟨h1, rfl, by unfold Tb.wallErr; simp [h1, h2], q1⟩
  · simp [h1] at h
set_option maxRecDepth 100000 in
set_option maxHeartbeats 4000000 in
theorem wall_any (t : Tb.Tbl) (v : Value) (at_ : Int) (w : World) (h : RdCh w v t.ch) (hs : Tb.Sized t) :
    Calls Try.prog 5 #[tbV t.first v, .int .i64 at_] w (WallEnd t at_ w) := by
  have h' := h
  obtain ⟨a, cap, rfl, hc⟩ := h'
  clear hc
  show Calls Try.prog 5 #[tbV t.first (.slice a t.ch.length cap), .int .i64 at_] w fun e w' => Below w.heap.size w w' ∧ ∃ a b c s : Int, e = .returned (.tuple #[.agg #[.int .i64 a, .int .i64 b, .int .i64 c], .int .i64 s, .int .i64 (Tb.wallErr t at_)]) ∧
    (Tb.wallErr t at_ = 0 → Cv.vldB a b c = true ∧ Cv.num a b c = Tb.wallD t at_ ∧ s = Tb.wallN t at_ - 86400 * Tb.wallD t at_) ∧ (Tb.wallErr t at_ ≠ 0 → a = 0 ∧ b = 0 ∧ c = 0 ∧ s = 0)
  have HC : Hid (∀ W, Below w.heap.size w W → Calls Try.prog 15 #[tbV t.first (.slice a t.ch.length cap), .int .i64 at_] W fun e w' => e = .returned (.tuple #[lcV (Tb.lookO t at_), .int .i64 (Tb.lookErr t at_)]) ∧ Below W.heap.size W w') := fun W hW => pLook_any t _ at_ W (rdCh_below h hW) hs
  have HA : Hid (Tb.lookErr t at_ ≠ 0 → Tb.wallErr t at_ = Tb.lookErr t at_) := wallErr_look t at_
  have HG : Hid (Tb.lookErr t at_ = 0 → ((-75600 ≤ (Tb.lookO t at_).shift ∧ (Tb.lookO t at_).shift ≤ 75600) ∧ (-62135596800 ≤ at_ ∧ at_ ≤ 253402300799)) ∧ Tb.wallErr t at_ = (if -719162 ≤ Tb.wallD t at_ ∧ Tb.wallD t at_ ≤ 2932896 then 0 else 3) ∧ Tb.wallN t at_ = at_ + (Tb.lookO t at_).shift) := fun q => by
    obtain ⟨g1, g2, g3, g4⟩ := lookErr_good q
    have b := Tb.goodL_bd (Tb.look_bd g1 at_)
    rw [g4]
    have g2' : decide ((-62135596800 : Int) ≤ at_ ∧ at_ ≤ 253402300799) = true := g2
    simp only [decide_eq_true_eq] at g2'
    exact ⟨⟨⟨b.1, b.2.1⟩, g2'⟩, g3, rfl⟩
  have HD : Hid (Tb.wallD t at_ = Tb.wallN t at_ / 86400) := rfl
  obtain ⟨E, hE⟩ : ∃ E, Tb.lookErr t at_ = E := ⟨_, rfl⟩
  obtain ⟨K, hK⟩ : ∃ K, Tb.lookO t at_ = K := ⟨_, rfl⟩
  obtain ⟨X, hX⟩ : ∃ X, Tb.wallErr t at_ = X := ⟨_, rfl⟩
  obtain ⟨n, hn⟩ : ∃ n, Tb.wallN t at_ = n := ⟨_, rfl⟩
  obtain ⟨F, hF⟩ : ∃ F, Tb.wallD t at_ = F := ⟨_, rfl⟩
  rw [hE, hK] at HC
  rw [hE, hX] at HA
  rw [hE, hX, hK, hn, hF] at HG
  rw [hn, hF] at HD
  rw [hX, hn, hF]
  obtain ⟨f, ch⟩ := t
  dsimp only at HC ⊢
  clear hE hK hX hn hF h hs
  obtain ⟨W0, hW⟩ : ∃ W0, (w.alloc (.cells (tbL f (.slice a ch.length cap)).toArray 26)).alloc (.cells #[.int .i64 0, .int .i64 0, .int .i64 0] 28) = W0 := ⟨_, rfl⟩
  have B0 : Hid (Below w.heap.size w W0) := by
    rw [← hW]
    exact ((Below.refl _ _).alloc (Nat.le_refl _) _).alloc (by simp) _
  have Z0 : Hid (CellsAt W0 (w.heap.size + 1) [.int .i64 0, .int .i64 0, .int .i64 0]) := by
    rw [← hW]; show CellsAt _ _ _
    have := ca_new (w.alloc (.cells (tbL f (.slice a ch.length cap)).toArray 26)) [.int .i64 0, .int .i64 0, .int .i64 0] 28
    simpa using this
  have HS := hid (HC.out W0 B0.out)
  have HW := hid hW
  clear hW HC
  rw [← HW.out] at HS
  go_enter Try.func5, Try.ntmps5
  go_wp2_with fail
  refine HS.out.mono ?_
  rintro e w1 ⟨rfl, hb1⟩
  rw [HW.out] at hb1
  have ZU := hid (ca_below Z0.out hb1)
  have BU : Hid (Below w.heap.size w w1) := B0.out.trans (hb1.mono B0.out.size)
  clear HS Z0 B0 HW hb1
  obtain ⟨z0, g0⟩ := ca_at ZU.out 0 rfl
  obtain ⟨z1, g1⟩ := ca_at ZU.out 1 rfl
  obtain ⟨z2, g2⟩ := ca_at ZU.out 2 rfl
  have sz := ZU.out.1
  have sw : w.heap.size < w1.heap.size := by omega
  have zz : ¬ w.heap.size + 1 = w1.heap.size := by omega
  by_cases h0 : E = 0
  case neg =>
    have HX := hid (HA.out h0)
    have h0' : (E != 0) = true := by simp [h0]
    clear HA HG HD
    go_wp2
    refine bodyPost_ret (v := .tuple #[.agg #[.int .i64 0, .int .i64 0, .int .i64 0], .int .i64 0, .int .i64 E]) (by simp [results, Try.results5, go_sem, *]) rfl ⟨?_, 0, 0, 0, 0, by rw [HX.out], fun q => absurd (HX.out.symm.trans q) h0, fun _ => ⟨rfl, rfl, rfl, rfl⟩⟩
    exact below_set3 BU.out (by omega)
  obtain ⟨⟨⟨q1, q2⟩, q3, q4⟩, qX, qn⟩ := HG.out h0
  have qF : F = n / 86400 := HD.out
  have HX : Hid (X = if -719162 ≤ F ∧ F ≤ 2932896 then 0 else 3) := qX
  have HP : Hid (∀ W, Calls Try.prog 16 #[.int .i64 (at_ + K.shift)] W fun e w' => e = .returned (.tuple #[.int .i64 F, .int .i64 (n - 86400 * F)]) ∧ w' = W) := fun W => by rw [← qn]; exact parts_any n F _ W (by omega) (by omega) qF.symm rfl
  obtain ⟨s, hs⟩ : ∃ s, n - 86400 * F = s := ⟨_, rfl⟩
  rw [hs] at HP
  have HSS := hid hs
  subst h0
  clear HA HG HD qX qn qF hs
  have zc : ∀ W, Below (w1.alloc (.cells (lcL K).toArray 23)).heap.size (w1.alloc (.cells (lcL K).toArray 23)) W → CellsAt W (w.heap.size + 1) [.int .i64 0, .int .i64 0, .int .i64 0] ∧ Below w.heap.size w W := fun W hW =>
    ⟨ca_below (ca_alloc ZU.out _) hW, (BU.out.alloc BU.out.size _).trans (hW.mono (by simp; omega))⟩
  have HZ := hid zc
  clear zc
  by_cases hr : -719162 ≤ F ∧ F ≤ 2932896
  case neg =>
    have HX3 : Hid (X = 3) := by show _ = _; rw [HX.out, if_neg hr]
    have hr' : F < -719162 ∨ 2932896 < F := by omega
    have HR := hid hr'
    clear hr hr' HX
    go_wp2_with (go_at_call 16; refine (HP.out _).mono ?_; rintro e w2 ⟨rfl, rfl⟩)
    refine (of_no F _ HR.out).mono ?_
    rintro e w3 ⟨rfl, hb3⟩
    obtain ⟨ZV, BV⟩ := HZ.out w3 hb3
    have BV' := hid BV
    have ZV' := hid ZV
    clear HZ hb3 BV ZU BU z0 g0 z1 g1 z2 g2 sz sw zz ZV
    obtain ⟨z0, g0⟩ := ca_at ZV'.out 0 rfl
    obtain ⟨z1, g1⟩ := ca_at ZV'.out 1 rfl
    obtain ⟨z2, g2⟩ := ca_at ZV'.out 2 rfl
    have sz := ZV'.out.1
    have zz : ¬ w.heap.size + 1 = w3.heap.size := by omega
    go_wp2
    refine bodyPost_ret (v := .tuple #[.agg #[.int .i64 0, .int .i64 0, .int .i64 0], .int .i64 0, .int .i64 3]) (by simp [results, Try.results5, go_sem, *]) rfl ⟨?_, 0, 0, 0, 0, by rw [HX3.out], fun q => absurd (HX3.out.symm.trans q) (by decide), fun _ => ⟨rfl, rfl, rfl, rfl⟩⟩
    exact below_set3 BV'.out (by omega)
  have HX0 : Hid (X = 0) := by show _ = _; rw [HX.out, if_pos hr]
  have HR := hid hr
  clear hr HX
  go_wp2_with (go_at_call 16; refine (HP.out _).mono ?_; rintro e w2 ⟨rfl, rfl⟩)
  refine (of_yes F _ HR.out.1 HR.out.2).mono ?_
  rintro e w3 ⟨y, m, d, rfl, hv, hnum, hb3⟩
  have HV := hid hv
  have HU := hid hnum
  obtain ⟨ZV, BV⟩ := HZ.out w3 hb3
  have BV' := hid BV
  have ZV' := hid ZV
  clear HZ hb3 BV ZU BU z0 g0 z1 g1 z2 g2 sz sw zz ZV hv hnum
  obtain ⟨z0, g0⟩ := ca_at ZV'.out 0 rfl
  obtain ⟨z1, g1⟩ := ca_at ZV'.out 1 rfl
  obtain ⟨z2, g2⟩ := ca_at ZV'.out 2 rfl
  have sz := ZV'.out.1
  have zz : ¬ w.heap.size + 1 = w3.heap.size := by omega
  go_wp2
  refine bodyPost_ret (v := .tuple #[.agg #[.int .i64 y, .int .i64 m, .int .i64 d], .int .i64 s, .int .i64 0]) (by simp [results, Try.results5, go_sem, *]) rfl ⟨?_, y, m, d, s, by rw [HX0.out], fun _ => ⟨HV.out, HU.out, HSS.out.symm⟩, fun q => absurd HX0.out q⟩
  exact below_set3 BV'.out (by omega)
end Go.Proofs.Ytnmdfbbfgiaijaa
