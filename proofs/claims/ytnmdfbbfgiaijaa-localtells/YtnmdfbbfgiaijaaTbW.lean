/- The contract of the document's WallOf. -/
import Derived.Test.YtnmdfbbfgiaijaaTbL
import Derived.Test.YtnmdfbbfgiaijaaRefB
namespace Go.Proofs.Ytnmdfbbfgiaijaa
open Go.RowKit
set_option linter.unusedVariables false
set_option linter.unusedSimpArgs false

theorem tdiv_near (n : Int) : n.tdiv 86400 = n / 86400 ∨ n.tdiv 86400 = n / 86400 + 1 := by
  rcases Int.le_total 0 n with h | h
  · left; exact Int.tdiv_eq_ediv_of_nonneg h
  · have h1 : n.tdiv 86400 = -((-n) / 86400) := by
      rw [← Int.tdiv_eq_ediv_of_nonneg (by omega), Int.neg_tdiv]; omega
    rw [h1]; omega

set_option maxRecDepth 100000 in
set_option maxHeartbeats 2000000 in
theorem wallOf_any (t : Tb.Tbl) (v : Value) (at_ : Int) (w : World) (h : RdCh w v t.ch) (hl : t.ch.length ≤ 1000) (hs : -75600 ≤ (Tb.look t at_).shift ∧ (Tb.look t at_).shift ≤ 75600) (h1 : Tb.least ≤ at_) (h2 : at_ ≤ Tb.most) :
    Calls Try.prog 11 #[tbV t.first v, .int .i64 at_] w fun e w' => Below w.heap.size w w' ∧ ∃ a b c s : Int, e = .returned (.tuple #[.agg #[.int .i64 a, .int .i64 b, .int .i64 c], .int .i64 s, .int .i64 (Tb.wallE t at_)]) ∧
      (Tb.wallE t at_ = 0 → Cv.vldB a b c = true ∧ Cv.num a b c = Tb.wallD t at_ ∧ s = Tb.wallN t at_ - 86400 * Tb.wallD t at_) ∧ (Tb.wallE t at_ ≠ 0 → a = 0 ∧ b = 0 ∧ c = 0 ∧ s = 0) := by
  obtain ⟨n, hn⟩ : ∃ n, Tb.wallN t at_ = n := ⟨_, rfl⟩
  obtain ⟨F, hF⟩ : ∃ F, n / 86400 = F := ⟨_, rfl⟩
  obtain ⟨E, hE⟩ : ∃ E, Tb.wallE t at_ = E := ⟨_, rfl⟩
  have hD : Tb.wallD t at_ = F := by unfold Tb.wallD; rw [hn, hF]
  have HE : Hid (E = if -719162 ≤ F ∧ F ≤ 2932896 then 0 else 3) := by show _ = _; rw [← hE]; unfold Tb.wallE; rw [hD]
  rw [hE, hD, hn]
  have hN : n = at_ + (Tb.look t at_).shift := hn.symm
  have LK := hid (fun W (hW : RdCh W v t.ch) => lookAt_any t v at_ W hW hl)
  obtain ⟨S, hS⟩ : ∃ S, Tb.look t at_ = S := ⟨_, rfl⟩
  rw [hS] at hN hs LK
  clear hE hD hn hS
  have H := hid h
  obtain ⟨a, cap, rfl, _⟩ := h
  obtain ⟨f, ch⟩ := t
  have nb : -70000000000 ≤ n ∧ n ≤ 260000000000 := by have h1' : (-62135596800 : Int) ≤ at_ := h1; have h2' : at_ ≤ 253402300799 := h2; omega
  have fb : F * 86400 ≤ n ∧ n < (F + 1) * 86400 := by omega
  have td := tdiv_near n
  rw [hF] at td
  have hsum : True := trivial
  have X0 := hid (ca_alloc (ca_new w (tbL f (.slice a ch.length cap)) 26) (.cells #[.int .i64 0, .int .i64 0, .int .i64 0] 28))
  have B0 : Hid (Below w.heap.size w ((w.alloc (.cells (tbL f (.slice a ch.length cap)).toArray 26)).alloc (.cells #[.int .i64 0, .int .i64 0, .int .i64 0] 28))) := ((Below.refl _ _).alloc (Nat.le_refl _) _).alloc (by simp) _
  have Y0 : Hid (CellsAt ((w.alloc (.cells (tbL f (.slice a ch.length cap)).toArray 26)).alloc (.cells #[.int .i64 0, .int .i64 0, .int .i64 0] 28)) (w.heap.size + 1) [.int .i64 0, .int .i64 0, .int .i64 0]) := by
    have := ca_new (w.alloc (.cells (tbL f (.slice a ch.length cap)).toArray 26)) [.int .i64 0, .int .i64 0, .int .i64 0] 28
    show CellsAt _ _ _
    simpa using this
  have hfd : ∀ w : World, (Instr.field 23 (.agg #[.int .i64 S.shift, .int .i64 S.save, strV S.name]) 0).run Try.prog w = .ok (.int .i64 S.shift) w := fun _ => by kernel_rfl
  clear hF h1 h2 hsum
  subst hN
  go_enter Try.func11, Try.ntmps11
  go_wp2_with fail
  refine (LK.out _ (rdCh_below H.out B0.out)).mono ?_
  rintro e w1 ⟨rfl, hb1⟩
  dsimp only [lcV]
  have X1 := hid (ca_below X0.out hb1)
  have Y1 := hid (ca_below Y0.out hb1)
  have B1 : Hid (Below w.heap.size w w1) := B0.out.trans (hb1.mono B0.out.size)
  clear X0 Y0 B0 hb1
  go_wp2_with fail
  go_loopw [8] (fun b wr => ∃ d : Int, b = .int .i64 d ∧ (d = F ∨ d = F + 1) ∧ wr = w1) (fun b _ => (intOf b - F).toNat)
  case atStart => exact ⟨_, rfl, td, rfl⟩
  case round =>
    clear td
    obtain ⟨d, rfl, hd, rfl⟩ := hrel
    by_cases hq : d = F + 1
    · have hm : IntKind.i64.wrap (d * 86400) = d * 86400 := by rw [IntKind.wrap_i64]; omega
      have hgt : at_ + S.shift < d * 86400 := by rw [hq]; exact fb.2
      go_wp2
      go_roundw
      case rel => exact ⟨d - 1, by go_num, by omega, trivial⟩
      case measure => simp [intOf]; omega
    · have hdF : d = F := by omega
      subst hdF
      have hm : IntKind.i64.wrap (d * 86400) = d * 86400 := by rw [IntKind.wrap_i64]; omega
      have hle : ¬ at_ + S.shift < d * 86400 := by omega
      clear hq hd
      go_wp2_with fail
      refine (first_any _).mono ?_
      rintro e w2 ⟨rfl, hb2⟩
      go_wp2_with fail
      refine (last_any _).mono ?_
      rintro e w3 ⟨rfl, hb3⟩
      have Y3 := hid (ca_below (ca_below Y1.out hb2) hb3)
      have B3 : Hid (Below w.heap.size w w3) := (B1.out.trans (hb2.mono B1.out.size)).trans (hb3.mono (by have := B1.out.size; have := hb2.size; omega))
      clear X1 Y1 B1 hb2 hb3
      by_cases hr : -719162 ≤ d ∧ d ≤ 2932896
      · have HE2 : Hid (E = 0) := by show _ = _; rw [HE.out, if_pos hr]
        clear HE
        go_wp2_with (go_at_call 22; refine (between_any _ _ _ _).mono ?_; rintro e w4 ⟨rfl, rfl⟩; simp only [hr])
        refine (dateOf_any d _ hr.1 hr.2).mono ?_
        rintro e w5 ⟨yy, mm, dd, rfl, hv, hnum, hb5⟩
        have Y5 := hid (ca_below Y3.out hb5)
        have B5 : Hid (Below w.heap.size w w5) := B3.out.trans (hb5.mono B3.out.size)
        have HV := hid hv
        have HNU := hid hnum
        clear Y3 B3 hb5 hv hnum
        obtain ⟨y0, g0⟩ := ca_at Y5.out 0 rfl
        obtain ⟨y1, g1⟩ := ca_at Y5.out 1 rfl
        obtain ⟨y2, g2⟩ := ca_at Y5.out 2 rfl
        have sy := Y5.out.1
        go_wp2
        refine bodyPost_ret (v := .tuple #[.agg #[.int .i64 yy, .int .i64 mm, .int .i64 dd], .int .i64 (at_ + S.shift - d * 86400), .int .i64 0]) (by simp [results, Try.results11, go_sem, *]) rfl ⟨?_, yy, mm, dd, at_ + S.shift - d * 86400, by rw [HE2.out], fun _ => ⟨HV.out, HNU.out, by rw [Int.mul_comm]⟩, fun q => absurd HE2.out q⟩
        exact below_set (below_set (below_set B5.out (by omega) _) (by omega) _) (by omega) _
      · have HE2 : Hid (E = 3) := by show _ = _; rw [HE.out, if_neg hr]
        clear HE
        obtain ⟨y0, g0⟩ := ca_at Y3.out 0 rfl
        obtain ⟨y1, g1⟩ := ca_at Y3.out 1 rfl
        obtain ⟨y2, g2⟩ := ca_at Y3.out 2 rfl
        have sy := Y3.out.1
        go_wp2_with (go_at_call 22; refine (between_any _ _ _ _).mono ?_; rintro e w4 ⟨rfl, rfl⟩; simp only [hr])
        refine bodyPost_ret (v := .tuple #[.agg #[.int .i64 0, .int .i64 0, .int .i64 0], .int .i64 0, .int .i64 3]) (by simp [results, Try.results11, go_sem, *]) rfl ⟨?_, 0, 0, 0, 0, by rw [HE2.out], fun q => absurd (HE2.out.symm.trans q) (by decide), fun _ => ⟨rfl, rfl, rfl, rfl⟩⟩
        exact below_set (below_set (below_set B3.out (by omega) _) (by omega) _) (by omega) _
end Go.Proofs.Ytnmdfbbfgiaijaa
