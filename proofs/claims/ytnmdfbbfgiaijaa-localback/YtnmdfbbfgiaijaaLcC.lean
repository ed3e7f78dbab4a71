/- What must be of local in any case, is. -/
import Derived.Test.YtnmdfbbfgiaijaaLcB
namespace Go.Proofs.Ytnmdfbbfgiaijaa
open Go.RowKit
set_option linter.unusedVariables false
set_option linter.unusedSimpArgs false

theorem day0 {a b c : Int} (h : Cv.vldB a b c = true) (hn : Cv.num a b c = 0) : a = 1970 ∧ b = 1 ∧ c = 1 := Cv.num_inj h (by decide) (hn.trans (by decide))
theorem cells_kept {V w2 : World} {b p q r : Nat} {x y z : Value} (hb : Below V.heap.size V w2) (hs : b < V.heap.size) (h : V.cell? ⟨b, p, none⟩ = some x ∧ V.cell? ⟨b, q, none⟩ = some y ∧ V.cell? ⟨b, r, none⟩ = some z) : w2.cell? ⟨b, p, none⟩ = some x ∧ w2.cell? ⟨b, q, none⟩ = some y ∧ w2.cell? ⟨b, r, none⟩ = some z :=
  ⟨(hb.cell (p := ⟨b, p, none⟩) hs).trans h.1, (hb.cell (p := ⟨b, q, none⟩) hs).trans h.2.1, (hb.cell (p := ⟨b, r, none⟩) hs).trans h.2.2⟩
theorem below_drawn (w : World) : Below w.heap.size w w.drew := ⟨rfl, rfl, rfl, Nat.le_refl _, fun _ _ => rfl⟩

theorem rdInts_one (w : World) (a : Int) : RdInts (w.alloc (.cells #[.int .i64 a] 3)) (.slice (some ⟨w.heap.size, 0, none⟩) 1 1) [a] := by
  have := World.ownsRow_lit (base := 0) (e := 3) (size := 1) w #[.int .i64 a] 1 (Nat.zero_le _) (by unfold maxLen; decide) rfl
  exact own_rd (fun _ => rfl) (xs := [a]) this
theorem rdInts_two (w : World) (a b : Int) : RdInts (w.alloc (.cells #[.int .i64 a, .int .i64 b] 3)) (.slice (some ⟨w.heap.size, 0, none⟩) 2 2) [a, b] := by
  have := World.ownsRow_lit (base := 0) (e := 3) (size := 1) w #[.int .i64 a, .int .i64 b] 2 (Nat.zero_le _) (by unfold maxLen; decide) rfl
  exact own_rd (fun _ => rfl) (xs := [a, b]) this

set_option maxRecDepth 100000 in
set_option maxHeartbeats 4000000 in
theorem localBegun_is (w : World) : Calls Try.prog 13 #[] w fun e w' => e = .returned (.bool true) ∧ Below w.heap.size w w' := by
  have W0 := hid sm_wall
  have W1 := hid sm_when1
  have W2 := hid sm_when2
  have W3 := hid sm_when3
  have HS := hid sm_sized
  go_enter Try.func13, Try.ntmps13
  go_wp2_with fail
  refine (small_any _).mono ?_
  rintro e w1 ⟨v1, rfl, r1, hb1⟩
  go_wp2_with fail
  refine (wall_any sm v1 100 _ r1 HS.out).mono ?_
  rintro e w2 ⟨hb2, a, b, c, s, rfl, h1, _⟩
  rw [W0.out.1, W0.out.2.1, W0.out.2.2] at h1
  rw [W0.out.1]
  obtain ⟨hv, hn, hs⟩ := h1 rfl
  obtain ⟨rfl, rfl, rfl⟩ := day0 hv hn
  have hs' : s = 7300 := by omega
  subst hs'
  have B2 : Hid (Below w.heap.size w w2) := hb1.trans (hb2.mono hb1.size)
  clear hv hn hs h1 hb1 hb2 r1
  have B3 := hid (Below.alloc B2.out B2.out.size (.cells #[.int .i64 1970, .int .i64 1, .int .i64 1] 28))
  have D3 := hid (ca_new w2 [.int .i64 1970, .int .i64 1, .int .i64 1] 28)
  obtain ⟨D, hD⟩ : ∃ D, w2.heap.size = D := ⟨_, rfl⟩
  rw [hD] at D3
  go_wp2_with fail
  obtain ⟨V, hV⟩ : ∃ V, w2.alloc (.cells #[.int .i64 1970, .int .i64 1, .int .i64 1] 28) = V := ⟨_, rfl⟩
  rw [hV]
  rw [hV] at B3
  have D4 : Hid (CellsAt V D [.int .i64 1970, .int .i64 1, .int .i64 1]) := by rw [← hV]; exact D3
  clear hV hD D3 B2
  have DD : V.cell? ⟨D, 0, none⟩ = some (.int .i64 1970) ∧ V.cell? ⟨D, 1, none⟩ = some (.int .i64 1) ∧ V.cell? ⟨D, 2, none⟩ = some (.int .i64 1) := ⟨(ca_at D4.out 0 rfl).1, (ca_at D4.out 1 rfl).1, (ca_at D4.out 2 rfl).1⟩
  have sD := D4.out.1
  go_region_held3 (fun w' => w'.cell? ⟨D, 0, none⟩ = some (.int .i64 1970) ∧ w'.cell? ⟨D, 1, none⟩ = some (.int .i64 1) ∧ w'.cell? ⟨D, 2, none⟩ = some (.int .i64 1))
    (first | go_keep | exact DD | exact cells_kept hb4 hs4 (cells_kept hb3 hs3 DD) | exact cells_kept hb3 hs3 DD)
    (first | (go_at_call 29; refine (small_any _).mono ?_; rintro e w3 ⟨v3, rfl, r3, hb3⟩; have hs3 : D < V.drew.heap.size := sD) | (go_at_call 6; refine (when_any sm v3 1970 1 1 7300 _ r3 HS.out).mono ?_; rintro e w4 ⟨hb4, u4, rfl, r4⟩; have hs4 : D < w3.heap.size := Nat.lt_of_lt_of_le hs3 hb3.size))
  rw [W1.out.1]
  rw [W1.out.2] at r4
  have BB : Below V.heap.size V w4 := ((below_drawn V).trans hb3).trans (hb4.mono hb3.size)
  have B4 : Hid (Below w.heap.size w w4) := B3.out.trans (BB.mono B3.out.size)
  have D5 := hid (ca_below D4.out BB)
  have R4 : Hid (RdInts w4 u4 [100]) := r4
  clear BB hb3 hb4 hs3 hs4 r3 r4 DD sD B3 D4
  have DD : w4.cell? ⟨D, 0, none⟩ = some (.int .i64 1970) ∧ w4.cell? ⟨D, 1, none⟩ = some (.int .i64 1) ∧ w4.cell? ⟨D, 2, none⟩ = some (.int .i64 1) := ⟨(ca_at D5.out 0 rfl).1, (ca_at D5.out 1 rfl).1, (ca_at D5.out 2 rfl).1⟩
  have sD := D5.out.1
  go_wp2_with fail
  go_region_held3 (fun w' => w'.cell? ⟨D, 0, none⟩ = some (.int .i64 1970) ∧ w'.cell? ⟨D, 1, none⟩ = some (.int .i64 1) ∧ w'.cell? ⟨D, 2, none⟩ = some (.int .i64 1))
    (first | go_keep | exact DD | exact cells_kept hb4 hs4 (cells_kept hb3 hs3 DD) | exact cells_kept hb3 hs3 DD)
    (first | (go_at_call 29; refine (small_any _).mono ?_; rintro e w5 ⟨v5, rfl, r5, hb3⟩; have hs3 : D < w4.drew.heap.size := sD) | (go_at_call 6; refine (when_any sm v5 1970 1 1 3700 _ r5 HS.out).mono ?_; rintro e w6 ⟨hb4, u6, rfl, r6⟩; have hs4 : D < w5.heap.size := Nat.lt_of_lt_of_le hs3 hb3.size))
  rw [W2.out.1]
  rw [W2.out.2] at r6
  have BB : Below w4.heap.size w4 w6 := ((below_drawn w4).trans hb3).trans (hb4.mono hb3.size)
  have B6 : Hid (Below w.heap.size w w6) := B4.out.trans (BB.mono B4.out.size)
  have D6 := hid (ca_below D5.out BB)
  have R46 : Hid (RdInts w6 u4 [100]) := rd_below R4.out BB
  have R6 : Hid (RdInts w6 u6 []) := r6
  clear BB hb3 hb4 hs3 hs4 r5 r6 DD sD B4 D5 R4
  go_wp2_with fail
  refine (small_any _).mono ?_
  rintro e w7 ⟨v7, rfl, r7, hb7⟩
  go_wp2_with fail
  refine (when_any sm v7 1970 1 2 7300 _ r7 HS.out).mono ?_
  rintro e w8 ⟨hb8, u8, rfl, r8⟩
  rw [W3.out.1]
  rw [W3.out.2] at r8
  have BB : Below w6.heap.size w6 w8 := hb7.trans (hb8.mono hb7.size)
  have B8 : Hid (Below w.heap.size w w8) := B6.out.trans (BB.mono B6.out.size)
  have D8 := hid (ca_below D6.out BB)
  have R48 : Hid (RdInts w8 u4 [100]) := rd_below R46.out BB
  have R68 : Hid (RdInts w8 u6 []) := rd_below R6.out BB
  have R8 : Hid (RdInts w8 u8 [86500, 90100]) := r8
  clear BB hb7 hb8 r7 r8 B6 D6 R46 R6
  obtain ⟨d0, _⟩ := ca_at D8.out 0 rfl
  obtain ⟨d1, _⟩ := ca_at D8.out 1 rfl
  obtain ⟨d2, _⟩ := ca_at D8.out 2 rfl
  have sD := D8.out.1
  obtain ⟨_, ucap6, rfl, _⟩ := R68.out
  go_wp2_with fail
  refine (sameInts_yes _ _ [100] _ (rd_below R48.out ((Below.refl _ _).alloc (Nat.le_refl _) _)) (rdInts_one _ _) (by simp)).mono ?_
  rintro e w9 ⟨rfl, hb9⟩
  have C9 : Below w8.heap.size w8 w9 := ((Below.refl w8.heap.size w8).alloc (Nat.le_refl _) _).trans (hb9.mono (by simp))
  have R9 : Hid (RdInts w9 u8 [86500, 90100]) := rd_below R8.out C9
  have B9 : Hid (Below w.heap.size w w9) := B8.out.trans (C9.mono B8.out.size)
  clear C9 hb9
  go_wp2_with fail
  refine (sameInts_yes _ _ [86500, 90100] _ (rd_below R9.out ((Below.refl _ _).alloc (Nat.le_refl _) _)) (rdInts_two _ _ _) (by simp)).mono ?_
  rintro e w10 ⟨rfl, hb10⟩
  have B10 : Hid (Below w.heap.size w w10) := (B9.out.alloc B9.out.size _).trans (hb10.mono (by have := B9.out.size; simp; omega))
  go_wp2
  go_ret
  exact ⟨rfl, B10.out⟩
end Go.Proofs.Ytnmdfbbfgiaijaa
