/- Contracts of the document's IsDate, FirstDay, LastDay and DateOf. -/
import Derived.Test.YtnmdfbbfgiaijaaRefA
import Derived.Deep.LoopGhost
namespace Go.Proofs.Ytnmdfbbfgiaijaa
open Go.RowKit
set_option linter.unusedVariables false
set_option linter.unusedSimpArgs false

theorem isDate_fin (w : World) (o : Obj) (n : Nat) : Below w.heap.size w ((w.alloc o).drewN n) := below_drewN ((Below.refl _ _).alloc (Nat.le_refl _) _) _

set_option maxHeartbeats 1000000 in
theorem isDate_yes (y m d : Int) (w : World) (h : Cv.vldB y m d = true) :
    Calls Try.prog 10 #[.agg #[.int .i64 y, .int .i64 m, .int .i64 d]] w fun e w' => e = .returned (.bool true) ∧ Below w.heap.size w w' := by
  obtain ⟨v1, v2, v3, v4, v5, v6⟩ := Cv.vld_iff.1 h
  clear h
  go_enter Try.func10, Try.ntmps10
  go_wp2_with fail
  go_quiet ((first | (go_at_call 22; exact Calls.quiet_of_same (between_is _ _ _ _ (decide_eq_true (by omega)))) | (go_at_call 25; exact Calls.quiet_of_same (rMonth_any _ _ _ (by omega) (by omega)))))
  go_wp2
  go_ret
  exact ⟨rfl, isDate_fin _ _ _⟩

set_option maxHeartbeats 1000000 in
theorem isDate_no (y m d : Int) (w : World) (h : Cv.vldB y m d = false) :
    Calls Try.prog 10 #[.agg #[.int .i64 y, .int .i64 m, .int .i64 d]] w fun e w' => e = .returned (.bool false) ∧ Below w.heap.size w w' := by
  have v : ¬ (1 ≤ y ∧ y ≤ 9999 ∧ 1 ≤ m ∧ m ≤ 12 ∧ 1 ≤ d ∧ d ≤ Cv.dim y m) := fun k => by rw [Cv.vld_iff.2 k] at h; cases h
  clear h
  by_cases a : 1 ≤ y ∧ y ≤ 9999
  · obtain ⟨a1, a2⟩ := a
    by_cases b : 1 ≤ m ∧ m ≤ 12
    · obtain ⟨b1, b2⟩ := b
      have c : Hid (decide (1 ≤ d ∧ d ≤ Cv.dim y m) = false) := decide_eq_false (by omega)
      clear v
      go_enter Try.func10, Try.ntmps10
      go_wp2_with fail
      go_quiet ((first | (go_at_call 22; exact Calls.quiet_of_same (between_is _ _ _ _ (decide_eq_true (by omega)))) | (go_at_call 22; exact Calls.quiet_of_same (between_is _ _ _ _ c.out)) | (go_at_call 25; exact Calls.quiet_of_same (rMonth_any _ _ _ (by omega) (by omega)))))
      go_wp2
      go_ret
      exact ⟨rfl, isDate_fin _ _ _⟩
    · have c : Hid (decide (1 ≤ m ∧ m ≤ 12) = false) := decide_eq_false b
      clear v b
      go_enter Try.func10, Try.ntmps10
      go_wp2_with fail
      go_quiet ((first | (go_at_call 22; exact Calls.quiet_of_same (between_is _ _ _ _ (decide_eq_true (by omega)))) | (go_at_call 22; exact Calls.quiet_of_same (between_is _ _ _ _ c.out))))
      go_wp2
      go_ret
      exact ⟨rfl, isDate_fin _ _ _⟩
  · have c : Hid (decide (1 ≤ y ∧ y ≤ 9999) = false) := decide_eq_false a
    clear v a
    go_enter Try.func10, Try.ntmps10
    go_wp2_with fail
    go_quiet ((go_at_call 22; exact Calls.quiet_of_same (between_is _ _ _ _ c.out)))
    go_wp2
    go_ret
    exact ⟨rfl, isDate_fin _ _ _⟩

set_option maxHeartbeats 400000 in
theorem first_any (w : World) : Calls Try.prog 23 #[] w fun e w' => e = .returned (.int .i64 (-719162)) ∧ Below w.heap.size w w' := by
  go_enter Try.func23, Try.ntmps23
  go_wp2_with fail
  refine (rDays_any _ _ _ _ (by omega) (by omega) (by omega) (by omega) (by omega) (by omega)).mono ?_
  rintro e w1 ⟨rfl, hb⟩
  rw [show Cv.num 1 1 1 = -719162 by decide]
  go_wp2
  go_ret
  exact ⟨rfl, hb⟩
set_option maxHeartbeats 400000 in
theorem last_any (w : World) : Calls Try.prog 24 #[] w fun e w' => e = .returned (.int .i64 2932896) ∧ Below w.heap.size w w' := by
  go_enter Try.func24, Try.ntmps24
  go_wp2_with fail
  refine (rDays_any _ _ _ _ (by omega) (by omega) (by omega) (by omega) (by omega) (by omega)).mono ?_
  rintro e w1 ⟨rfl, hb⟩
  rw [show Cv.num 9999 12 31 = 2932896 by decide]
  go_wp2
  go_ret
  exact ⟨rfl, hb⟩

theorem num11 (y : Int) : Cv.num y 1 1 = Cv.dby y - 719162 := by unfold Cv.num; rw [Cv.cum_one]; omega
set_option maxHeartbeats 2000000 in
theorem dateOf_any (n : Int) (w : World) (h1 : -719162 ≤ n) (h2 : n ≤ 2932896) :
    Calls Try.prog 27 #[.int .i64 n] w fun e w' => ∃ y m d : Int, e = .returned (.agg #[.int .i64 y, .int .i64 m, .int .i64 d]) ∧ Cv.vldB y m d = true ∧ Cv.num y m d = n ∧ Below w.heap.size w w' := by
  have n1 : Hid (Cv.num 1 1 1 ≤ n) := by show Cv.num 1 1 1 ≤ n; rw [show Cv.num 1 1 1 = -719162 by decide]; exact h1
  have n2 : Hid (n < Cv.num 10000 1 1) := by show n < Cv.num 10000 1 1; rw [show Cv.num 10000 1 1 = 2932897 by decide]; omega
  go_enter Try.func27, Try.ntmps27
  go_wp2_with fail
  go_loopw [3, 4] (fun a b wr => ∃ y z : Int, 1 ≤ y ∧ y < z ∧ z ≤ 10000 ∧ Cv.num y 1 1 ≤ n ∧ n < Cv.num z 1 1 ∧ a = .int .i64 y ∧ b = .int .i64 z ∧ w.heap.size < wr.heap.size ∧ Below (w.heap.size + 1) (w.alloc (.cells #[.int .i64 0, .int .i64 0, .int .i64 0] 28)) wr) (fun a b _ => (intOf b - intOf a).toNat)
  case atStart => exact ⟨1, 10000, by omega, by omega, by omega, n1.out, n2.out, rfl, rfl, by simp, Below.refl _ _⟩
  case round =>
    obtain ⟨y, z, y1, yz, z1, q1, q2, rfl, rfl, hs, hb⟩ := hrel
    clear n1 n2
    by_cases hc : 1 < z - y
    · obtain ⟨k, hk⟩ : ∃ k, k = (y + z) / 2 := ⟨_, rfl⟩
      have k1 : y < k := by omega
      have k2 : k < z := by omega
      have hk' : Hid ((y + z) / 2 = k) := hk.symm
      clear hk
      go_wp2_with fail
      rw [hk'.out]
      refine (rDays_any _ _ _ _ (by omega) (by omega) (by omega) (by omega) (by omega) (by omega)).mono ?_
      rintro e w1 ⟨rfl, hb1⟩
      have s1 := hb1.size
      by_cases hn : Cv.num k 1 1 ≤ n
      · go_wp2
        go_roundw
        case rel => exact ⟨k, z, by omega, by omega, by omega, hn, q2, rfl, rfl, by omega, hb.trans (hb1.mono (by omega))⟩
        case measure => simp [intOf]; omega
      · go_wp2
        go_roundw
        case rel => exact ⟨y, k, by omega, by omega, by omega, q1, by omega, rfl, rfl, by omega, hb.trans (hb1.mono (by omega))⟩
        case measure => simp [intOf]; omega
    · have hz : z = y + 1 := by omega
      subst hz
      clear hc yz
      obtain ⟨w9, rfl⟩ : ∃ w9, w9 = wr := ⟨_, rfl⟩
      have e12 : n < Cv.num y 12 1 + Cv.dim y 12 := by
        have a := Cv.cum_succ y 12 (by omega) (by omega)
        have b := Cv.cum_13 y
        have c := Cv.dby_succ y
        have d := num11 (y + 1)
        have e : (12 : Int) + 1 = 13 := rfl
        rw [e] at a
        unfold Cv.num at q2 ⊢
        rw [Cv.cum_one] at q2
        omega
      go_wp2_with fail
      go_loopg [] 12 (fun k wx => ∃ m : Int, (k : Int) = m ∧ 1 ≤ m ∧ m ≤ 12 ∧ n < Cv.num y m 1 + Cv.dim y m ∧ wx.cell? ⟨w9.heap.size, 0, none⟩ = some (.int .i64 y) ∧ wx.cell? ⟨w9.heap.size, 1, none⟩ = some (.int .i64 m) ∧ wx.cell? ⟨w9.heap.size, 2, none⟩ = some (.int .i64 1) ∧ wx.frozen? ⟨w9.heap.size, 1, none⟩ = false ∧ wx.frozen? ⟨w9.heap.size, 2, none⟩ = false ∧ w9.heap.size < wx.heap.size ∧ Below (w.heap.size + 1) (w.alloc (.cells #[.int .i64 0, .int .i64 0, .int .i64 0] 28)) wx)
      case atStart => exact ⟨12, rfl, by omega, by omega, e12, by simp, by simp, by simp, by simp, by simp, by simp, hb.alloc (by omega) _⟩
      case round =>
        obtain ⟨m, hk, m1, m2, q3, c0, c1, c2, f1, f2, hs9, hb9⟩ := hrel
        have db := Cv.dim_bd y m
        by_cases hn : n < Cv.num y m 1
        · have m3 : 1 < m := by
            by_cases e : m = 1
            · subst e; omega
            · omega
          have e : Hid (n < Cv.num y (m - 1) 1 + Cv.dim y (m - 1)) := by
            have a := Cv.cum_succ y (m - 1) (by omega) (by omega)
            rw [show m - 1 + 1 = m by omega] at a
            show n < Cv.num y (m - 1) 1 + Cv.dim y (m - 1)
            unfold Cv.num at hn ⊢
            omega
          have HK := hid hk
          clear hk
          go_wp2_with fail
          refine (rDays_any _ _ _ _ (by omega) (by omega) (by omega) (by omega) (by omega) (by omega)).mono ?_
          rintro e w1 ⟨rfl, hb1⟩
          have s1 := hb1.size
          have d0 := (hb1.cell (p := ⟨w9.heap.size, 0, none⟩) hs9).trans c0
          have d1 := (hb1.cell (p := ⟨w9.heap.size, 1, none⟩) hs9).trans c1
          have d2 := (hb1.cell (p := ⟨w9.heap.size, 2, none⟩) hs9).trans c2
          have g1 := (hb1.frozen (p := ⟨w9.heap.size, 1, none⟩) hs9).trans f1
          have g2 := (hb1.frozen (p := ⟨w9.heap.size, 2, none⟩) hs9).trans f2
          clear c0 c1 c2 f1 f2
          go_wp2
          go_roundg (gk - 1)
          case measure => have := HK.out; omega
          case rel => exact ⟨m - 1, by have := HK.out; omega, by omega, by omega, e.out, by go_simp, by go_simp, by go_simp, by go_simp, by go_simp, by simp; omega, (hb9.trans (hb1.mono (by omega))).setCell (by simp; omega) _⟩
        · have V := Cv.year_of (n := n) y1 (by omega) m m1 m2 (by omega) (by omega)
          have HV := hid V
          clear V hk
          go_wp2_with fail
          refine (rDays_any _ _ _ _ (by omega) (by omega) (by omega) (by omega) (by omega) (by omega)).mono ?_
          rintro e w1 ⟨rfl, hb1⟩
          have s1 := hb1.size
          have hs1 : w9.heap.size < w1.heap.size := by omega
          have d0 := (hb1.cell (p := ⟨w9.heap.size, 0, none⟩) hs9).trans c0
          have d1 := (hb1.cell (p := ⟨w9.heap.size, 1, none⟩) hs9).trans c1
          have d2 := (hb1.cell (p := ⟨w9.heap.size, 2, none⟩) hs9).trans c2
          have g2 := (hb1.frozen (p := ⟨w9.heap.size, 2, none⟩) hs9).trans f2
          clear c0 c1 c2 f1 f2
          go_wp2_with fail
          refine (rDays_any _ _ _ _ (by omega) (by omega) (by omega) (by omega) (by omega) (by omega)).mono ?_
          rintro e w2 ⟨rfl, hb2⟩
          have s2 := hb2.size
          have c0 := (hb2.cell (p := ⟨w9.heap.size, 0, none⟩) hs1).trans d0
          have c1 := (hb2.cell (p := ⟨w9.heap.size, 1, none⟩) hs1).trans d1
          have c2 := (hb2.cell (p := ⟨w9.heap.size, 2, none⟩) hs1).trans d2
          have f2 := (hb2.frozen (p := ⟨w9.heap.size, 2, none⟩) hs1).trans g2
          clear d0 d1 d2 g2
          have hb3 := (hb9.trans (hb1.mono (by omega))).trans (hb2.mono (by omega))
          have r0 := hb3.cell (p := ⟨w.heap.size, 0, none⟩) (by simp)
          have r1 := hb3.cell (p := ⟨w.heap.size, 1, none⟩) (by simp)
          have r2 := hb3.cell (p := ⟨w.heap.size, 2, none⟩) (by simp)
          have z0 := hb3.frozen (p := ⟨w.heap.size, 0, none⟩) (by simp)
          have z1 := hb3.frozen (p := ⟨w.heap.size, 1, none⟩) (by simp)
          have z2 := hb3.frozen (p := ⟨w.heap.size, 2, none⟩) (by simp)
          simp at r0 r1 r2 z0 z1 z2
          have hne : w.heap.size ≠ w9.heap.size := by omega
          have hne' : w9.heap.size ≠ w.heap.size := by omega
          go_wp2
          refine bodyPost_ret (v := .agg #[.int .i64 y, .int .i64 m, .int .i64 (n - Cv.num y m 1 + 1)]) (by simp [results, Try.results27, go_sem, r0, r1, r2, z0, z1, z2, hne, hne']) rfl ⟨y, m, _, rfl, HV.out.1, HV.out.2, ?_⟩
          refine Below.setCell (Below.setCell (Below.setCell (Below.setCell (Below.trans ((Below.refl _ _).alloc (Nat.le_refl _) _) (hb3.mono (by omega))) (by simp; omega) _) (by simp) _) (by simp) _) (by simp) _
end Go.Proofs.Ytnmdfbbfgiaijaa
