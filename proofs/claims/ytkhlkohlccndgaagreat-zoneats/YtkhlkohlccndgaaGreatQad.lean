/- The contract of the program's checkRule. · Contracts of the document's own functions over bytes: between, isBlank, isPlain. · Small laws on texts and on lists that a call makes, for the walks over lines. · The contract of the document's Taker's Span. · The contract of the document's Taker's Form. · The contract of the document's Taker's Clocked. · The contract of the document's Taker's RuleOf. -/
import Derived.Test.YtkhlkohlccndgaaGreatQz
import Derived.Test.YtkhlkohlccndgaaGreatQac
import Derived.Test.YtkhlkohlccndgaaGreatQaa
import Derived.Deep.RegionHeld3
import Derived.Deep.DrawnRows
import Derived.Deep.Cut
import Derived.Deep.CutRange
set_option linter.unusedVariables false
set_option linter.unusedSimpArgs false
set_option maxRecDepth 100000
set_option maxHeartbeats 16000000
namespace Go.Proofs.YtkhlkohlccndgaaGreat
section
open Go.RowKit
attribute [local go_sem ↓] Go.wp_at_zero Go.wp_at_succ

theorem pCheckRule_any (r : Sx.Rl) (w : World) (hn : r.name.length ≤ maxLen) (hl : r.letter.length ≤ maxLen) :
  Calls Tryz.prog 91 #[ruleV r] w fun e w' => e = .returned (.int .i64 (Sx.ruleE r)) ∧ Below w.heap.size w w' := by
 rw [ruleE_or]
 obtain ⟨name, frm, to_, month, kind, wk, n, at_, clock, save, letter⟩ := r
 simp only at hl hn ⊢
 obtain ⟨N, hN⟩ : ∃ N, Sx.nameB name = N := ⟨_, rfl⟩
 obtain ⟨L, hL⟩ : ∃ L, Sx.lettersB letter = L := ⟨_, rfl⟩
 obtain ⟨F, hF⟩ : ∃ F, Sx.inB frm 1900 to_ = F := ⟨_, rfl⟩
 obtain ⟨M, hM⟩ : ∃ M, Sx.inB month 1 12 = M := ⟨_, rfl⟩
 obtain ⟨O, hO⟩ : ∃ O, Cv.onE 2001 month kind wk n = O := ⟨_, rfl⟩
 obtain ⟨A, hA⟩ : ∃ A, Sx.inB at_ 0 172800 = A := ⟨_, rfl⟩
 obtain ⟨C, hC⟩ : ∃ C, Sx.inB clock 1 3 = C := ⟨_, rfl⟩
 obtain ⟨S, hS⟩ : ∃ S, Sx.inB save 0 10800 = S := ⟨_, rfl⟩
 rw [hN, hL, hF, hM, hO, hA, hC, hS]
 have HN := hid hN
 have HL := hid hL
 have HF := hid hF
 have HM := hid hM
 have HO := hid hO
 have HA := hid hA
 have HC := hid hC
 have HS := hid hS
 have SL := hid hl
 have SN := hid hn
 clear hN hL hF hM hO hA hC hS hl hn
 have XV := hid (ca_new w (ruleCells ⟨name, frm, to_, month, kind, wk, n, at_, clock, save, letter⟩) 40)
 have BV := hid ((Below.refl w.heap.size w).alloc (Nat.le_refl _) (.cells (ruleCells ⟨name, frm, to_, month, kind, wk, n, at_, clock, save, letter⟩).toArray 40))
 go_enter Tryz.func91, Tryz.ntmps91
 go_wp2_with fail
 refine (on_err _ _ _ _ _ _ _ HO.out).mono ?_
 rintro e w1 ⟨a, b, d, rfl, hb⟩
 have X1 := hid (ca_alloc (ca_below XV.out hb) (.cells #[.int .i64 a, .int .i64 b, .int .i64 d] 63))
 have B1 : Hid (Below w.heap.size w (w1.alloc (.cells #[.int .i64 a, .int .i64 b, .int .i64 d] 63))) := (BV.out.trans (hb.mono BV.out.size)).alloc (by have := hb.size; have := BV.out.size; simp at *; omega) _
 clear hb XV BV
 obtain ⟨V, hV⟩ : ∃ V, w1.alloc (.cells #[.int .i64 a, .int .i64 b, .int .i64 d] 63) = V := ⟨_, rfl⟩
 go_upto_region 2 with fail
 rw [hV] at X1 B1
 clear hV
 obtain ⟨B, hB⟩ : ∃ B, w.heap.size = B := ⟨_, rfl⟩
 rw [hB] at X1
 obtain ⟨x0, _⟩ := ca_at X1.out 0 rfl
 obtain ⟨x1, _⟩ := ca_at X1.out 1 rfl
 obtain ⟨x2, _⟩ := ca_at X1.out 2 rfl
 obtain ⟨x3, _⟩ := ca_at X1.out 3 rfl
 obtain ⟨x7, _⟩ := ca_at X1.out 7 rfl
 obtain ⟨x8, _⟩ := ca_at X1.out 8 rfl
 obtain ⟨x9, _⟩ := ca_at X1.out 9 rfl
 obtain ⟨x10, _⟩ := ca_at X1.out 10 rfl
 have sx := X1.out.1
 rw [hB]
 have HB := hid hB
 clear hB
 cases N <;> cases F
 ·have CN : Hid (CellsAt (V.alloc (.cells ([uE false 1, uE false 3, uE M 3, O, uE A 3, uE C 7, uE S 3].map (Value.int .i64)).toArray 28)).drew V.heap.size ([uE false 1, uE false 3, uE M 3, O, uE A 3, uE C 7, uE S 3].map (Value.int .i64))) := ca_new V _ _
  have BN0 := B1.out.alloc B1.out.size (.cells ([uE false 1, uE false 3, uE M 3, O, uE A 3, uE C 7, uE S 3].map (Value.int .i64)).toArray 28)
  have BN : Hid (Below w.heap.size w (V.alloc (.cells ([uE false 1, uE false 3, uE M 3, O, uE A 3, uE C 7, uE S 3].map (Value.int .i64)).toArray 28)).drew) := ⟨BN0.os, BN0.tape, BN0.output, BN0.size, BN0.block⟩
  clear BN0
  refine wp_region_held_drew (S := fun w' => w'.cell? ⟨B, 0, none⟩ = some (strV name) ∧ w'.cell? ⟨B, 1, none⟩ = some (.int .i64 frm) ∧ w'.cell? ⟨B, 2, none⟩ = some (.int .i64 to_) ∧ w'.cell? ⟨B, 3, none⟩ = some (.int .i64 month) ∧ w'.cell? ⟨B, 7, none⟩ = some (.int .i64 at_) ∧ w'.cell? ⟨B, 8, none⟩ = some (.int .i64 clock) ∧ w'.cell? ⟨B, 9, none⟩ = some (.int .i64 save) ∧ w'.cell? ⟨B, 10, none⟩ = some (strV letter)) (by kernel_rfl) ?_ (fun hHeld => ?_)
  ·go_keep
  refine tkA 0 rfl ?_
  try simp only [Act.put, jP, jO, jS]
  refine tkA 1 rfl ?_
  try simp only [Act.put, jP, jO, jS]
  refine tkA 9 rfl ?_
  try simp only [Act.put, jP, jO, jS]
  refine tkA 10 rfl ?_
  try simp only [Act.put, jP, jO, jS]
  refine tkA 11 rfl ?_
  try simp only [Act.put, jP, jO, jS]
  refine tkA 12 rfl ?_
  try simp only [Act.put, jP, jO, jS]
  refine tkA 20 rfl ?_
  try simp only [Act.put, jP, jO, jS]
  refine tkA 21 rfl ?_
  try simp only [Act.put, jP, jO, jS]
  refine tkA 24 rfl ?_
  try simp only [Act.put, jP, jO, jS]
  refine tkA 25 rfl ?_
  try simp only [Act.put, jP, jO, jS]
  refine tkA 26 rfl ?_
  try simp only [Act.put, jP, jO, jS]
  refine tkA 29 rfl ?_
  try simp only [Act.put, jP, jO, jS]
  refine tkA 30 rfl ?_
  try simp only [Act.put, jP, jO, jS]
  refine tkA 33 rfl ?_
  try simp only [Act.put, jP, jO, jS]
  refine tkA 34 rfl ?_
  try simp only [Act.put, jP, jO, jS]
  refine rdH 2 rfl fun K hK => ?_
  go_simp
  refine (pName_str _ _ SN.out HN.out).mono ?_
  rintro e w2 ⟨rfl, rfl⟩
  refine hK.out _ _ ?_ (fun hHeld => ?_)
  ·go_keep
  clear hK K
  try simp only [Act.put, jP, jO, jS]
  refine tkA 3 rfl ?_
  try simp only [Act.put, jP, jO, jS]
  refine tkU 4 rfl ?_
  try simp only [Act.put, jP, jO, jS]
  refine tkU 5 rfl ?_
  try simp only [Act.put, jP, jO, jS]
  refine tkU 6 rfl ?_
  try simp only [Act.put, jP, jO, jS]
  refine tkA 7 rfl ?_
  try simp only [Act.put, jP, jO, jS]
  refine rdH 8 rfl fun K hK => ?_
  go_simp
  refine (unless_any _ _ _).mono ?_
  rintro e w2 ⟨rfl, rfl⟩
  refine hK.out _ _ ?_ (fun hHeld => ?_)
  ·go_keep
  clear hK K
  try simp only [Act.put, jP, jO, jS]
  refine rdH 13 rfl fun K hK => ?_
  go_simp
  refine (within_is frm 1900 to_ _ HF.out).mono ?_
  rintro e w2 ⟨rfl, rfl⟩
  refine hK.out _ _ ?_ (fun hHeld => ?_)
  ·go_keep
  clear hK K
  try simp only [Act.put, jP, jO, jS]
  refine tkA 14 rfl ?_
  try simp only [Act.put, jP, jO, jS]
  refine tkU 15 rfl ?_
  try simp only [Act.put, jP, jO, jS]
  refine tkU 16 rfl ?_
  try simp only [Act.put, jP, jO, jS]
  refine tkU 17 rfl ?_
  try simp only [Act.put, jP, jO, jS]
  refine tkA 18 rfl ?_
  try simp only [Act.put, jP, jO, jS]
  refine rdH 19 rfl fun K hK => ?_
  go_simp
  refine (unless_any _ _ _).mono ?_
  rintro e w2 ⟨rfl, rfl⟩
  refine hK.out _ _ ?_ (fun hHeld => ?_)
  ·go_keep
  clear hK K
  try simp only [Act.put, jP, jO, jS]
  refine rdH 22 rfl fun K hK => ?_
  go_simp
  refine (within_is month 1 12 _ HM.out).mono ?_
  rintro e w2 ⟨rfl, rfl⟩
  refine hK.out _ _ ?_ (fun hHeld => ?_)
  ·go_keep
  clear hK K
  try simp only [Act.put, jP, jO, jS]
  refine rdH 23 rfl fun K hK => ?_
  go_simp
  refine (unless_any _ _ _).mono ?_
  rintro e w2 ⟨rfl, rfl⟩
  refine hK.out _ _ ?_ (fun hHeld => ?_)
  ·go_keep
  clear hK K
  try simp only [Act.put, jP, jO, jS]
  refine rdH 27 rfl fun K hK => ?_
  go_simp
  refine (within_is at_ 0 172800 _ HA.out).mono ?_
  rintro e w2 ⟨rfl, rfl⟩
  refine hK.out _ _ ?_ (fun hHeld => ?_)
  ·go_keep
  clear hK K
  try simp only [Act.put, jP, jO, jS]
  refine rdH 28 rfl fun K hK => ?_
  go_simp
  refine (unless_any _ _ _).mono ?_
  rintro e w2 ⟨rfl, rfl⟩
  refine hK.out _ _ ?_ (fun hHeld => ?_)
  ·go_keep
  clear hK K
  try simp only [Act.put, jP, jO, jS]
  refine rdH 31 rfl fun K hK => ?_
  go_simp
  refine (within_is clock 1 3 _ HC.out).mono ?_
  rintro e w2 ⟨rfl, rfl⟩
  refine hK.out _ _ ?_ (fun hHeld => ?_)
  ·go_keep
  clear hK K
  try simp only [Act.put, jP, jO, jS]
  refine rdH 32 rfl fun K hK => ?_
  go_simp
  refine (unless_any _ _ _).mono ?_
  rintro e w2 ⟨rfl, rfl⟩
  refine hK.out _ _ ?_ (fun hHeld => ?_)
  ·go_keep
  clear hK K
  try simp only [Act.put, jP, jO, jS]
  refine rdH 35 rfl fun K hK => ?_
  go_simp
  refine (within_is save 0 10800 _ HS.out).mono ?_
  rintro e w2 ⟨rfl, rfl⟩
  refine hK.out _ _ ?_ (fun hHeld => ?_)
  ·go_keep
  clear hK K
  try simp only [Act.put, jP, jO, jS]
  refine rdH 36 rfl fun K hK => ?_
  go_simp
  refine (unless_any _ _ _).mono ?_
  rintro e w2 ⟨rfl, rfl⟩
  refine hK.out _ _ ?_ (fun hHeld => ?_)
  ·go_keep
  clear hK K
  try simp only [Act.put, jP, jO, jS]
  refine rdH 37 rfl fun K hK => ?_
  go_simp
  refine hK.out _ _ ?_ (fun hHeld => ?_)
  ·go_keep
  clear hK K
  try simp only [Act.put, jP, jO, jS]
  refine rdH 38 rfl fun K hK => ?_
  go_simp
  refine (or_any [uE false 1, uE false 3, uE M 3, O, uE A 3, uE C 7, uE S 3] V.heap.size 7 _ CN.out (by simp)).mono ?_
  rintro e w2 ⟨rfl, rfl⟩
  refine hK.out _ _ ?_ (fun hHeld => ?_)
  ·go_keep
  clear hK K
  try simp only [Act.put, jP, jO, jS]
  refine tkA 39 rfl ?_
  try simp only [Act.put, jP, jO, jS]
  refine wpAnyH_done (by kernel_rfl) ?_ _
  go_wp2
  go_ret
  exact ⟨rfl, BN.out⟩
 ·have CN : Hid (CellsAt (V.alloc (.cells ([uE false 1, uE (decide (to_ ≤ 2100)) 3, uE M 3, O, uE A 3, uE C 7, uE S 3].map (Value.int .i64)).toArray 28)).drew V.heap.size ([uE false 1, uE (decide (to_ ≤ 2100)) 3, uE M 3, O, uE A 3, uE C 7, uE S 3].map (Value.int .i64))) := ca_new V _ _
  have BN0 := B1.out.alloc B1.out.size (.cells ([uE false 1, uE (decide (to_ ≤ 2100)) 3, uE M 3, O, uE A 3, uE C 7, uE S 3].map (Value.int .i64)).toArray 28)
  have BN : Hid (Below w.heap.size w (V.alloc (.cells ([uE false 1, uE (decide (to_ ≤ 2100)) 3, uE M 3, O, uE A 3, uE C 7, uE S 3].map (Value.int .i64)).toArray 28)).drew) := ⟨BN0.os, BN0.tape, BN0.output, BN0.size, BN0.block⟩
  clear BN0
  refine wp_region_held_drew (S := fun w' => w'.cell? ⟨B, 0, none⟩ = some (strV name) ∧ w'.cell? ⟨B, 1, none⟩ = some (.int .i64 frm) ∧ w'.cell? ⟨B, 2, none⟩ = some (.int .i64 to_) ∧ w'.cell? ⟨B, 3, none⟩ = some (.int .i64 month) ∧ w'.cell? ⟨B, 7, none⟩ = some (.int .i64 at_) ∧ w'.cell? ⟨B, 8, none⟩ = some (.int .i64 clock) ∧ w'.cell? ⟨B, 9, none⟩ = some (.int .i64 save) ∧ w'.cell? ⟨B, 10, none⟩ = some (strV letter)) (by kernel_rfl) ?_ (fun hHeld => ?_)
  ·go_keep
  refine tkA 0 rfl ?_
  try simp only [Act.put, jP, jO, jS]
  refine tkA 1 rfl ?_
  try simp only [Act.put, jP, jO, jS]
  refine tkA 9 rfl ?_
  try simp only [Act.put, jP, jO, jS]
  refine tkA 10 rfl ?_
  try simp only [Act.put, jP, jO, jS]
  refine tkA 11 rfl ?_
  try simp only [Act.put, jP, jO, jS]
  refine tkA 12 rfl ?_
  try simp only [Act.put, jP, jO, jS]
  refine tkA 20 rfl ?_
  try simp only [Act.put, jP, jO, jS]
  refine tkA 21 rfl ?_
  try simp only [Act.put, jP, jO, jS]
  refine tkA 24 rfl ?_
  try simp only [Act.put, jP, jO, jS]
  refine tkA 25 rfl ?_
  try simp only [Act.put, jP, jO, jS]
  refine tkA 26 rfl ?_
  try simp only [Act.put, jP, jO, jS]
  refine tkA 29 rfl ?_
  try simp only [Act.put, jP, jO, jS]
  refine tkA 30 rfl ?_
  try simp only [Act.put, jP, jO, jS]
  refine tkA 33 rfl ?_
  try simp only [Act.put, jP, jO, jS]
  refine tkA 34 rfl ?_
  try simp only [Act.put, jP, jO, jS]
  refine rdH 2 rfl fun K hK => ?_
  go_simp
  refine (pName_str _ _ SN.out HN.out).mono ?_
  rintro e w2 ⟨rfl, rfl⟩
  refine hK.out _ _ ?_ (fun hHeld => ?_)
  ·go_keep
  clear hK K
  try simp only [Act.put, jP, jO, jS]
  refine tkA 3 rfl ?_
  try simp only [Act.put, jP, jO, jS]
  refine tkU 4 rfl ?_
  try simp only [Act.put, jP, jO, jS]
  refine tkU 5 rfl ?_
  try simp only [Act.put, jP, jO, jS]
  refine tkU 6 rfl ?_
  try simp only [Act.put, jP, jO, jS]
  refine tkA 7 rfl ?_
  try simp only [Act.put, jP, jO, jS]
  refine rdH 8 rfl fun K hK => ?_
  go_simp
  refine (unless_any _ _ _).mono ?_
  rintro e w2 ⟨rfl, rfl⟩
  refine hK.out _ _ ?_ (fun hHeld => ?_)
  ·go_keep
  clear hK K
  try simp only [Act.put, jP, jO, jS]
  refine rdH 13 rfl fun K hK => ?_
  go_simp
  refine (within_is frm 1900 to_ _ HF.out).mono ?_
  rintro e w2 ⟨rfl, rfl⟩
  refine hK.out _ _ ?_ (fun hHeld => ?_)
  ·go_keep
  clear hK K
  try simp only [Act.put, jP, jO, jS]
  refine tkA 14 rfl ?_
  try simp only [Act.put, jP, jO, jS]
  refine tkA 15 rfl ?_
  try simp only [Act.put, jP, jO, jS]
  refine tkA 16 rfl ?_
  try simp only [Act.put, jP, jO, jS]
  refine tkA 17 rfl ?_
  try simp only [Act.put, jP, jO, jS]
  refine tkA 18 rfl ?_
  try simp only [Act.put, jP, jO, jS]
  refine rdH 19 rfl fun K hK => ?_
  go_simp
  refine (unless_any _ _ _).mono ?_
  rintro e w2 ⟨rfl, rfl⟩
  refine hK.out _ _ ?_ (fun hHeld => ?_)
  ·go_keep
  clear hK K
  try simp only [Act.put, jP, jO, jS]
  refine rdH 22 rfl fun K hK => ?_
  go_simp
  refine (within_is month 1 12 _ HM.out).mono ?_
  rintro e w2 ⟨rfl, rfl⟩
  refine hK.out _ _ ?_ (fun hHeld => ?_)
  ·go_keep
  clear hK K
  try simp only [Act.put, jP, jO, jS]
  refine rdH 23 rfl fun K hK => ?_
  go_simp
  refine (unless_any _ _ _).mono ?_
  rintro e w2 ⟨rfl, rfl⟩
  refine hK.out _ _ ?_ (fun hHeld => ?_)
  ·go_keep
  clear hK K
  try simp only [Act.put, jP, jO, jS]
  refine rdH 27 rfl fun K hK => ?_
  go_simp
  refine (within_is at_ 0 172800 _ HA.out).mono ?_
  rintro e w2 ⟨rfl, rfl⟩
  refine hK.out _ _ ?_ (fun hHeld => ?_)
  ·go_keep
  clear hK K
  try simp only [Act.put, jP, jO, jS]
  refine rdH 28 rfl fun K hK => ?_
  go_simp
  refine (unless_any _ _ _).mono ?_
  rintro e w2 ⟨rfl, rfl⟩
  refine hK.out _ _ ?_ (fun hHeld => ?_)
  ·go_keep
  clear hK K
  try simp only [Act.put, jP, jO, jS]
  refine rdH 31 rfl fun K hK => ?_
  go_simp
  refine (within_is clock 1 3 _ HC.out).mono ?_
  rintro e w2 ⟨rfl, rfl⟩
  refine hK.out _ _ ?_ (fun hHeld => ?_)
  ·go_keep
  clear hK K
  try simp only [Act.put, jP, jO, jS]
  refine rdH 32 rfl fun K hK => ?_
  go_simp
  refine (unless_any _ _ _).mono ?_
  rintro e w2 ⟨rfl, rfl⟩
  refine hK.out _ _ ?_ (fun hHeld => ?_)
  ·go_keep
  clear hK K
  try simp only [Act.put, jP, jO, jS]
  refine rdH 35 rfl fun K hK => ?_
  go_simp
  refine (within_is save 0 10800 _ HS.out).mono ?_
  rintro e w2 ⟨rfl, rfl⟩
  refine hK.out _ _ ?_ (fun hHeld => ?_)
  ·go_keep
  clear hK K
  try simp only [Act.put, jP, jO, jS]
  refine rdH 36 rfl fun K hK => ?_
  go_simp
  refine (unless_any _ _ _).mono ?_
  rintro e w2 ⟨rfl, rfl⟩
  refine hK.out _ _ ?_ (fun hHeld => ?_)
  ·go_keep
  clear hK K
  try simp only [Act.put, jP, jO, jS]
  refine rdH 37 rfl fun K hK => ?_
  go_simp
  refine hK.out _ _ ?_ (fun hHeld => ?_)
  ·go_keep
  clear hK K
  try simp only [Act.put, jP, jO, jS]
  refine rdH 38 rfl fun K hK => ?_
  go_simp
  refine (or_any [uE false 1, uE (decide (to_ ≤ 2100)) 3, uE M 3, O, uE A 3, uE C 7, uE S 3] V.heap.size 7 _ CN.out (by simp)).mono ?_
  rintro e w2 ⟨rfl, rfl⟩
  refine hK.out _ _ ?_ (fun hHeld => ?_)
  ·go_keep
  clear hK K
  try simp only [Act.put, jP, jO, jS]
  refine tkA 39 rfl ?_
  try simp only [Act.put, jP, jO, jS]
  refine wpAnyH_done (by kernel_rfl) ?_ _
  go_wp2
  go_ret
  exact ⟨rfl, BN.out⟩
 ·have CN : Hid (CellsAt (V.alloc (.cells ([uE L 1, uE false 3, uE M 3, O, uE A 3, uE C 7, uE S 3].map (Value.int .i64)).toArray 28)).drew V.heap.size ([uE L 1, uE false 3, uE M 3, O, uE A 3, uE C 7, uE S 3].map (Value.int .i64))) := ca_new V _ _
  have BN0 := B1.out.alloc B1.out.size (.cells ([uE L 1, uE false 3, uE M 3, O, uE A 3, uE C 7, uE S 3].map (Value.int .i64)).toArray 28)
  have BN : Hid (Below w.heap.size w (V.alloc (.cells ([uE L 1, uE false 3, uE M 3, O, uE A 3, uE C 7, uE S 3].map (Value.int .i64)).toArray 28)).drew) := ⟨BN0.os, BN0.tape, BN0.output, BN0.size, BN0.block⟩
  clear BN0
  refine wp_region_held_drew (S := fun w' => w'.cell? ⟨B, 0, none⟩ = some (strV name) ∧ w'.cell? ⟨B, 1, none⟩ = some (.int .i64 frm) ∧ w'.cell? ⟨B, 2, none⟩ = some (.int .i64 to_) ∧ w'.cell? ⟨B, 3, none⟩ = some (.int .i64 month) ∧ w'.cell? ⟨B, 7, none⟩ = some (.int .i64 at_) ∧ w'.cell? ⟨B, 8, none⟩ = some (.int .i64 clock) ∧ w'.cell? ⟨B, 9, none⟩ = some (.int .i64 save) ∧ w'.cell? ⟨B, 10, none⟩ = some (strV letter)) (by kernel_rfl) ?_ (fun hHeld => ?_)
  ·go_keep
  refine tkA 0 rfl ?_
  try simp only [Act.put, jP, jO, jS]
  refine tkA 1 rfl ?_
  try simp only [Act.put, jP, jO, jS]
  refine tkA 9 rfl ?_
  try simp only [Act.put, jP, jO, jS]
  refine tkA 10 rfl ?_
  try simp only [Act.put, jP, jO, jS]
  refine tkA 11 rfl ?_
  try simp only [Act.put, jP, jO, jS]
  refine tkA 12 rfl ?_
  try simp only [Act.put, jP, jO, jS]
  refine tkA 20 rfl ?_
  try simp only [Act.put, jP, jO, jS]
  refine tkA 21 rfl ?_
  try simp only [Act.put, jP, jO, jS]
  refine tkA 24 rfl ?_
  try simp only [Act.put, jP, jO, jS]
  refine tkA 25 rfl ?_
  try simp only [Act.put, jP, jO, jS]
  refine tkA 26 rfl ?_
  try simp only [Act.put, jP, jO, jS]
  refine tkA 29 rfl ?_
  try simp only [Act.put, jP, jO, jS]
  refine tkA 30 rfl ?_
  try simp only [Act.put, jP, jO, jS]
  refine tkA 33 rfl ?_
  try simp only [Act.put, jP, jO, jS]
  refine tkA 34 rfl ?_
  try simp only [Act.put, jP, jO, jS]
  refine rdH 2 rfl fun K hK => ?_
  go_simp
  refine (pName_str _ _ SN.out HN.out).mono ?_
  rintro e w2 ⟨rfl, rfl⟩
  refine hK.out _ _ ?_ (fun hHeld => ?_)
  ·go_keep
  clear hK K
  try simp only [Act.put, jP, jO, jS]
  refine tkA 3 rfl ?_
  try simp only [Act.put, jP, jO, jS]
  refine tkA 4 rfl ?_
  try simp only [Act.put, jP, jO, jS]
  refine tkA 5 rfl ?_
  try simp only [Act.put, jP, jO, jS]
  refine rdH 6 rfl fun K hK => ?_
  go_simp
  refine (pLetters_str _ _ SL.out HL.out).mono ?_
  rintro e w2 ⟨rfl, rfl⟩
  refine hK.out _ _ ?_ (fun hHeld => ?_)
  ·go_keep
  clear hK K
  try simp only [Act.put, jP, jO, jS]
  refine tkA 7 rfl ?_
  try simp only [Act.put, jP, jO, jS]
  refine rdH 8 rfl fun K hK => ?_
  go_simp
  refine (unless_any _ _ _).mono ?_
  rintro e w2 ⟨rfl, rfl⟩
  refine hK.out _ _ ?_ (fun hHeld => ?_)
  ·go_keep
  clear hK K
  try simp only [Act.put, jP, jO, jS]
  refine rdH 13 rfl fun K hK => ?_
  go_simp
  refine (within_is frm 1900 to_ _ HF.out).mono ?_
  rintro e w2 ⟨rfl, rfl⟩
  refine hK.out _ _ ?_ (fun hHeld => ?_)
  ·go_keep
  clear hK K
  try simp only [Act.put, jP, jO, jS]
  refine tkA 14 rfl ?_
  try simp only [Act.put, jP, jO, jS]
  refine tkU 15 rfl ?_
  try simp only [Act.put, jP, jO, jS]
  refine tkU 16 rfl ?_
  try simp only [Act.put, jP, jO, jS]
  refine tkU 17 rfl ?_
  try simp only [Act.put, jP, jO, jS]
  refine tkA 18 rfl ?_
  try simp only [Act.put, jP, jO, jS]
  refine rdH 19 rfl fun K hK => ?_
  go_simp
  refine (unless_any _ _ _).mono ?_
  rintro e w2 ⟨rfl, rfl⟩
  refine hK.out _ _ ?_ (fun hHeld => ?_)
  ·go_keep
  clear hK K
  try simp only [Act.put, jP, jO, jS]
  refine rdH 22 rfl fun K hK => ?_
  go_simp
  refine (within_is month 1 12 _ HM.out).mono ?_
  rintro e w2 ⟨rfl, rfl⟩
  refine hK.out _ _ ?_ (fun hHeld => ?_)
  ·go_keep
  clear hK K
  try simp only [Act.put, jP, jO, jS]
  refine rdH 23 rfl fun K hK => ?_
  go_simp
  refine (unless_any _ _ _).mono ?_
  rintro e w2 ⟨rfl, rfl⟩
  refine hK.out _ _ ?_ (fun hHeld => ?_)
  ·go_keep
  clear hK K
  try simp only [Act.put, jP, jO, jS]
  refine rdH 27 rfl fun K hK => ?_
  go_simp
  refine (within_is at_ 0 172800 _ HA.out).mono ?_
  rintro e w2 ⟨rfl, rfl⟩
  refine hK.out _ _ ?_ (fun hHeld => ?_)
  ·go_keep
  clear hK K
  try simp only [Act.put, jP, jO, jS]
  refine rdH 28 rfl fun K hK => ?_
  go_simp
  refine (unless_any _ _ _).mono ?_
  rintro e w2 ⟨rfl, rfl⟩
  refine hK.out _ _ ?_ (fun hHeld => ?_)
  ·go_keep
  clear hK K
  try simp only [Act.put, jP, jO, jS]
  refine rdH 31 rfl fun K hK => ?_
  go_simp
  refine (within_is clock 1 3 _ HC.out).mono ?_
  rintro e w2 ⟨rfl, rfl⟩
  refine hK.out _ _ ?_ (fun hHeld => ?_)
  ·go_keep
  clear hK K
  try simp only [Act.put, jP, jO, jS]
  refine rdH 32 rfl fun K hK => ?_
  go_simp
  refine (unless_any _ _ _).mono ?_
  rintro e w2 ⟨rfl, rfl⟩
  refine hK.out _ _ ?_ (fun hHeld => ?_)
  ·go_keep
  clear hK K
  try simp only [Act.put, jP, jO, jS]
  refine rdH 35 rfl fun K hK => ?_
  go_simp
  refine (within_is save 0 10800 _ HS.out).mono ?_
  rintro e w2 ⟨rfl, rfl⟩
  refine hK.out _ _ ?_ (fun hHeld => ?_)
  ·go_keep
  clear hK K
  try simp only [Act.put, jP, jO, jS]
  refine rdH 36 rfl fun K hK => ?_
  go_simp
  refine (unless_any _ _ _).mono ?_
  rintro e w2 ⟨rfl, rfl⟩
  refine hK.out _ _ ?_ (fun hHeld => ?_)
  ·go_keep
  clear hK K
  try simp only [Act.put, jP, jO, jS]
  refine rdH 37 rfl fun K hK => ?_
  go_simp
  refine hK.out _ _ ?_ (fun hHeld => ?_)
  ·go_keep
  clear hK K
  try simp only [Act.put, jP, jO, jS]
  refine rdH 38 rfl fun K hK => ?_
  go_simp
  refine (or_any [uE L 1, uE false 3, uE M 3, O, uE A 3, uE C 7, uE S 3] V.heap.size 7 _ CN.out (by simp)).mono ?_
  rintro e w2 ⟨rfl, rfl⟩
  refine hK.out _ _ ?_ (fun hHeld => ?_)
  ·go_keep
  clear hK K
  try simp only [Act.put, jP, jO, jS]
  refine tkA 39 rfl ?_
  try simp only [Act.put, jP, jO, jS]
  refine wpAnyH_done (by kernel_rfl) ?_ _
  go_wp2
  go_ret
  exact ⟨rfl, BN.out⟩
 ·have CN : Hid (CellsAt (V.alloc (.cells ([uE L 1, uE (decide (to_ ≤ 2100)) 3, uE M 3, O, uE A 3, uE C 7, uE S 3].map (Value.int .i64)).toArray 28)).drew V.heap.size ([uE L 1, uE (decide (to_ ≤ 2100)) 3, uE M 3, O, uE A 3, uE C 7, uE S 3].map (Value.int .i64))) := ca_new V _ _
  have BN0 := B1.out.alloc B1.out.size (.cells ([uE L 1, uE (decide (to_ ≤ 2100)) 3, uE M 3, O, uE A 3, uE C 7, uE S 3].map (Value.int .i64)).toArray 28)
  have BN : Hid (Below w.heap.size w (V.alloc (.cells ([uE L 1, uE (decide (to_ ≤ 2100)) 3, uE M 3, O, uE A 3, uE C 7, uE S 3].map (Value.int .i64)).toArray 28)).drew) := ⟨BN0.os, BN0.tape, BN0.output, BN0.size, BN0.block⟩
  clear BN0
  refine wp_region_held_drew (S := fun w' => w'.cell? ⟨B, 0, none⟩ = some (strV name) ∧ w'.cell? ⟨B, 1, none⟩ = some (.int .i64 frm) ∧ w'.cell? ⟨B, 2, none⟩ = some (.int .i64 to_) ∧ w'.cell? ⟨B, 3, none⟩ = some (.int .i64 month) ∧ w'.cell? ⟨B, 7, none⟩ = some (.int .i64 at_) ∧ w'.cell? ⟨B, 8, none⟩ = some (.int .i64 clock) ∧ w'.cell? ⟨B, 9, none⟩ = some (.int .i64 save) ∧ w'.cell? ⟨B, 10, none⟩ = some (strV letter)) (by kernel_rfl) ?_ (fun hHeld => ?_)
  ·go_keep
  refine tkA 0 rfl ?_
  try simp only [Act.put, jP, jO, jS]
  refine tkA 1 rfl ?_
  try simp only [Act.put, jP, jO, jS]
  refine tkA 9 rfl ?_
  try simp only [Act.put, jP, jO, jS]
  refine tkA 10 rfl ?_
  try simp only [Act.put, jP, jO, jS]
  refine tkA 11 rfl ?_
  try simp only [Act.put, jP, jO, jS]
  refine tkA 12 rfl ?_
  try simp only [Act.put, jP, jO, jS]
  refine tkA 20 rfl ?_
  try simp only [Act.put, jP, jO, jS]
  refine tkA 21 rfl ?_
  try simp only [Act.put, jP, jO, jS]
  refine tkA 24 rfl ?_
  try simp only [Act.put, jP, jO, jS]
  refine tkA 25 rfl ?_
  try simp only [Act.put, jP, jO, jS]
  refine tkA 26 rfl ?_
  try simp only [Act.put, jP, jO, jS]
  refine tkA 29 rfl ?_
  try simp only [Act.put, jP, jO, jS]
  refine tkA 30 rfl ?_
  try simp only [Act.put, jP, jO, jS]
  refine tkA 33 rfl ?_
  try simp only [Act.put, jP, jO, jS]
  refine tkA 34 rfl ?_
  try simp only [Act.put, jP, jO, jS]
  refine rdH 2 rfl fun K hK => ?_
  go_simp
  refine (pName_str _ _ SN.out HN.out).mono ?_
  rintro e w2 ⟨rfl, rfl⟩
  refine hK.out _ _ ?_ (fun hHeld => ?_)
  ·go_keep
  clear hK K
  try simp only [Act.put, jP, jO, jS]
  refine tkA 3 rfl ?_
  try simp only [Act.put, jP, jO, jS]
  refine tkA 4 rfl ?_
  try simp only [Act.put, jP, jO, jS]
  refine tkA 5 rfl ?_
  try simp only [Act.put, jP, jO, jS]
  refine rdH 6 rfl fun K hK => ?_
  go_simp
  refine (pLetters_str _ _ SL.out HL.out).mono ?_
  rintro e w2 ⟨rfl, rfl⟩
  refine hK.out _ _ ?_ (fun hHeld => ?_)
  ·go_keep
  clear hK K
  try simp only [Act.put, jP, jO, jS]
  refine tkA 7 rfl ?_
  try simp only [Act.put, jP, jO, jS]
  refine rdH 8 rfl fun K hK => ?_
  go_simp
  refine (unless_any _ _ _).mono ?_
  rintro e w2 ⟨rfl, rfl⟩
  refine hK.out _ _ ?_ (fun hHeld => ?_)
  ·go_keep
  clear hK K
  try simp only [Act.put, jP, jO, jS]
  refine rdH 13 rfl fun K hK => ?_
  go_simp
  refine (within_is frm 1900 to_ _ HF.out).mono ?_
  rintro e w2 ⟨rfl, rfl⟩
  refine hK.out _ _ ?_ (fun hHeld => ?_)
  ·go_keep
  clear hK K
  try simp only [Act.put, jP, jO, jS]
  refine tkA 14 rfl ?_
  try simp only [Act.put, jP, jO, jS]
  refine tkA 15 rfl ?_
  try simp only [Act.put, jP, jO, jS]
  refine tkA 16 rfl ?_
  try simp only [Act.put, jP, jO, jS]
  refine tkA 17 rfl ?_
  try simp only [Act.put, jP, jO, jS]
  refine tkA 18 rfl ?_
  try simp only [Act.put, jP, jO, jS]
  refine rdH 19 rfl fun K hK => ?_
  go_simp
  refine (unless_any _ _ _).mono ?_
  rintro e w2 ⟨rfl, rfl⟩
  refine hK.out _ _ ?_ (fun hHeld => ?_)
  ·go_keep
  clear hK K
  try simp only [Act.put, jP, jO, jS]
  refine rdH 22 rfl fun K hK => ?_
  go_simp
  refine (within_is month 1 12 _ HM.out).mono ?_
  rintro e w2 ⟨rfl, rfl⟩
  refine hK.out _ _ ?_ (fun hHeld => ?_)
  ·go_keep
  clear hK K
  try simp only [Act.put, jP, jO, jS]
  refine rdH 23 rfl fun K hK => ?_
  go_simp
  refine (unless_any _ _ _).mono ?_
  rintro e w2 ⟨rfl, rfl⟩
  refine hK.out _ _ ?_ (fun hHeld => ?_)
  ·go_keep
  clear hK K
  try simp only [Act.put, jP, jO, jS]
  refine rdH 27 rfl fun K hK => ?_
  go_simp
  refine (within_is at_ 0 172800 _ HA.out).mono ?_
  rintro e w2 ⟨rfl, rfl⟩
  refine hK.out _ _ ?_ (fun hHeld => ?_)
  ·go_keep
  clear hK K
  try simp only [Act.put, jP, jO, jS]
  refine rdH 28 rfl fun K hK => ?_
  go_simp
  refine (unless_any _ _ _).mono ?_
  rintro e w2 ⟨rfl, rfl⟩
  refine hK.out _ _ ?_ (fun hHeld => ?_)
  ·go_keep
  clear hK K
  try simp only [Act.put, jP, jO, jS]
  refine rdH 31 rfl fun K hK => ?_
  go_simp
  refine (within_is clock 1 3 _ HC.out).mono ?_
  rintro e w2 ⟨rfl, rfl⟩
  refine hK.out _ _ ?_ (fun hHeld => ?_)
  ·go_keep
  clear hK K
  try simp only [Act.put, jP, jO, jS]
  refine rdH 32 rfl fun K hK => ?_
  go_simp
  refine (unless_any _ _ _).mono ?_
  rintro e w2 ⟨rfl, rfl⟩
  refine hK.out _ _ ?_ (fun hHeld => ?_)
  ·go_keep
  clear hK K
  try simp only [Act.put, jP, jO, jS]
  refine rdH 35 rfl fun K hK => ?_
  go_simp
  refine (within_is save 0 10800 _ HS.out).mono ?_
  rintro e w2 ⟨rfl, rfl⟩
  refine hK.out _ _ ?_ (fun hHeld => ?_)
  ·go_keep
  clear hK K
  try simp only [Act.put, jP, jO, jS]
  refine rdH 36 rfl fun K hK => ?_
  go_simp
  refine (unless_any _ _ _).mono ?_
  rintro e w2 ⟨rfl, rfl⟩
  refine hK.out _ _ ?_ (fun hHeld => ?_)
  ·go_keep
  clear hK K
  try simp only [Act.put, jP, jO, jS]
  refine rdH 37 rfl fun K hK => ?_
  go_simp
  refine hK.out _ _ ?_ (fun hHeld => ?_)
  ·go_keep
  clear hK K
  try simp only [Act.put, jP, jO, jS]
  refine rdH 38 rfl fun K hK => ?_
  go_simp
  refine (or_any [uE L 1, uE (decide (to_ ≤ 2100)) 3, uE M 3, O, uE A 3, uE C 7, uE S 3] V.heap.size 7 _ CN.out (by simp)).mono ?_
  rintro e w2 ⟨rfl, rfl⟩
  refine hK.out _ _ ?_ (fun hHeld => ?_)
  ·go_keep
  clear hK K
  try simp only [Act.put, jP, jO, jS]
  refine tkA 39 rfl ?_
  try simp only [Act.put, jP, jO, jS]
  refine wpAnyH_done (by kernel_rfl) ?_ _
  go_wp2
  go_ret
  exact ⟨rfl, BN.out⟩
end
section
open Go.RowKit

theorem isBlank_any (c : UInt8) (w : World) :
  Calls Tryz.prog 185 #[.int .u8 (c.toNat : Int)] w fun e w' => e = .returned (.bool (Tx.gap c)) ∧ w' = w := by
 have hh : Hid (Tx.gap c = (((c.toNat : Int) == 32) || ((c.toNat : Int) == 9))) := gap_eq c
 generalize (c.toNat : Int) = n at *
 cases h1 : (n == 32) <;> cases h2 : (n == 9)
 all_goals
  go_enter Tryz.func185, Tryz.ntmps185
  go_wp2
  go_ret
  exact ⟨ret_bool (by rw [hh.out]; simp [h1, h2]), rfl⟩

theorem isPlain_any (c : UInt8) (w : World) :
  Calls Tryz.prog 206 #[.int .u8 (c.toNat : Int)] w fun e w' => e = .returned (.bool (Tx.txt c)) ∧ w' = w := by
 have hh : Hid (Tx.txt c = (decide ((32 : Int) ≤ (c.toNat : Int) ∧ (c.toNat : Int) ≤ 126) || ((c.toNat : Int) == 9))) := txt_eq c
 have hb : (c.toNat : Int) < 256 := by have := c.toNat_lt; omega
 have hb0 : 0 ≤ (c.toNat : Int) := by omega
 generalize (c.toNat : Int) = n at *
 cases h2 : (n == 9) <;> by_cases h1 : 32 ≤ n ∧ n ≤ 126
 all_goals
  go_enter Tryz.func206, Tryz.ntmps206
  go_wp2_with (go_at_call 77; refine (between_any _ _ _ _).mono ?_; rintro e w1 ⟨rfl, rfl⟩; simp only [h1])
  go_ret
  exact ⟨ret_bool (by rw [hh.out]; simp [h1, h2]), rfl⟩
end
section
open Go.RowKit

theorem Tryz.infoStr : (Tryz.prog.info? 9).map (fun i => (i.zero, i.size, i.bytes)) = some (some (.string ⟨#[]⟩), 1, 16) := by kernel_rfl

theorem app_rel {w w1 w3 : World} {B : Nat} {v v' : Value} {out : List Tx.Bs} {acc : Tx.Bs} {o : Obj} (hB : B ≤ w1.heap.size) (hown : w1.ownsRow B 9 1 v out.length (out.map strV)) (hb : Below B w w1)
  (hown' : w3.ownsRow B 9 1 v' (out.length + 1) (out.map strV ++ [strV acc])) (hg : (w1.alloc o).grownBy w3 v.ownBlock) : w3.ownsRow B 9 1 v' (out ++ [acc]).length ((out ++ [acc]).map strV) ∧ Below B w w3 := by
 refine ⟨by simpa using hown', Below.grown (hb.alloc hB o) hg (by simp; omega) ?_⟩
 intro k hk
 exact (hown.lt k hk).1
end
section
open Go.RowKit
attribute [local go_sem ↓] Go.wp_at_zero Go.wp_at_succ

namespace Sx
theorem colons_ne (l : Tx.Bs) : colons l ≠ [] := by
 cases l with
 | nil => simp [colons]
 | cons c r => unfold colons; split; · simp
               split <;> simp
theorem colons_feed : ∀ (a b : Tx.Bs), (∀ c ∈ a, c ≠ 58) → colons (a ++ 58 :: b) = a :: colons b
 | [], b, _ => by simp [colons]
 | c :: a, b, h => by
   have hc : c ≠ 58 := h c (by simp)
   have := colons_feed a b (fun d hd => h d (by simp [hd]))
   simp only [List.cons_append]
   conv => lhs; unfold colons
   rw [if_neg hc, this]
theorem colons_last : ∀ (a : Tx.Bs), (∀ c ∈ a, c ≠ 58) → colons a = [a]
 | [], _ => by simp [colons]
 | c :: a, h => by
   have hc : c ≠ 58 := h c (by simp)
   have := colons_last a (fun d hd => h d (by simp [hd]))
   unfold colons
   rw [if_neg hc, this]
theorem colons_len : ∀ (l : Tx.Bs), ∀ x ∈ colons l, x.length ≤ l.length
 | [], x, h => by simp [colons] at h; subst h; simp
 | c :: r, x, h => by
   unfold colons at h
   split at h
   ·simp at h
    rcases h with rfl | h
    ·simp
    ·have := colons_len r x h; simp; omega
   ·split at h
    ·rename_i q; exact absurd q (colons_ne r)
    ·rename_i y ys q
     simp at h
     rcases h with rfl | h
     ·have := colons_len r y (by rw [q]; simp); simp; omega
     ·have := colons_len r x (by rw [q]; simp [h]); simp; omega
def spanVC : List Tx.Bs → Int
 | [h, m] => 3600 * (num 1 2 h).getD 0 + 60 * sixV m
 | [h, m, t] => 3600 * (num 1 2 h).getD 0 + 60 * sixV m + sixV t
 | _ => 0
def spanOC : List Tx.Bs → Bool
 | [h, m] => (num 1 2 h).isSome && (sixO m).isSome
 | [h, m, t] => (num 1 2 h).isSome && (sixO m).isSome && (sixO t).isSome
 | _ => false
def spanV (s : Tx.Bs) : Int := if s = [48] then 0 else spanVC (colons s)
theorem spanO_some (s : Tx.Bs) (h : s ≠ [48]) : (spanO s).isSome = spanOC (colons s) := by
 rw [spanO, if_neg h]
 generalize colons s = C
 match C with
 | [] => rfl
 | [_] => rfl
 | [h, m] => simp only [spanOC]; cases num 1 2 h <;> cases sixO m <;> rfl
 | [h, m, t] => simp only [spanOC]; cases num 1 2 h <;> cases sixO m <;> cases sixO t <;> rfl
 | _ :: _ :: _ :: _ :: _ => rfl
theorem spanV_bd (s : Tx.Bs) : 0 ≤ spanV s ∧ spanV s ≤ 40000000 := by
 unfold spanV spanVC
 split
 ·omega
 ·split
  ·rename_i h m _
   have := num_bd 1 2 h (by omega)
   have := sixV_bd m
   omega
  ·rename_i h m t _
   have := num_bd 1 2 h (by omega)
   have := sixV_bd m
   have := sixV_bd t
   omega
  ·omega
theorem spanV_eq {s : Tx.Bs} {n : Int} (h : spanO s = some n) : spanV s = n := by
 unfold spanO at h; unfold spanV spanVC
 split
 ·rename_i q; rw [if_pos q] at h; simpa using h
 ·rename_i q
  rw [if_neg q] at h
  split
  ·rename_i a b q2
   rw [q2] at h
   simp [Option.bind_eq_some_iff] at h
   obtain ⟨x, h1, y, h2, h3⟩ := h
   rw [h1, sixV_eq h2]; simpa using h3
  ·rename_i a b c q2
   rw [q2] at h
   simp [Option.bind_eq_some_iff] at h
   obtain ⟨x, h1, y, h2, z, h3, h4⟩ := h
   rw [h1, sixV_eq h2, sixV_eq h3]; simpa using h4
  ·rename_i q2 q3
   exfalso
   split at h
   ·rename_i q4; exact q2 _ _ q4
   ·rename_i q4; exact q3 _ _ _ q4
   ·cases h
theorem keep_keep (a b : Bool) (o : O) : keep a (keep b o) = keep (a && b) o := by cases a <;> cases b <;> rfl
end Sx
theorem colons_cut (L : List UInt8) (f i : Nat) (hf : f ≤ i) (hi : i ≤ L.length) (hno : ∀ c ∈ (L.drop f).take (i - f), c ≠ 58) (h58 : i < L.length → L[i]? = some 58) : Sx.colons (L.drop f) = (L.drop f).take (i - f) :: (if i < L.length then Sx.colons (L.drop (i + 1)) else []) := by
 have e : L.drop f = (L.drop f).take (i - f) ++ L.drop i := by
  have := (List.take_append_drop (i - f) (L.drop f)).symm
  rw [List.drop_drop, show f + (i - f) = i by omega] at this
  exact this
 by_cases h : i < L.length
 ·rw [if_pos h]
  have e2 : L.drop i = 58 :: L.drop (i + 1) := by
   rw [List.drop_eq_getElem_cons h]
   have := h58 h
   rw [List.getElem?_eq_getElem h] at this
   simp at this; rw [this]
  conv => lhs; rw [e, e2]
  exact Sx.colons_feed _ _ hno
 ·rw [if_neg h]
  have e2 : L.drop i = [] := List.drop_eq_nil_of_le (by omega)
  conv => lhs; rw [e, e2, List.append_nil]
  exact Sx.colons_last _ hno
theorem no_colon_snoc (L : List UInt8) (f i : Nat) (hf : f ≤ i) (hi : i < L.length) (hno : ∀ c ∈ (L.drop f).take (i - f), c ≠ 58) (hc : L[i] ≠ 58) : ∀ c ∈ (L.drop f).take (i + 1 - f), c ≠ 58 := by
 intro c h
 rw [show i + 1 - f = (i - f) + 1 by omega, List.take_succ_eq_append_getElem (by simp; omega)] at h
 simp at h
 rcases h with h | h
 ·exact hno c h
 ·rw [h]
  simpa [show f + (i - f) = i by omega] using hc
theorem tkO_drew {w : World} {b lim : Nat} {o : Sx.O} (h : TkO w b lim o) : TkO w.drew b lim o := tkO_far h (fun i hi => rfl) (Nat.le_refl _)
theorem World.grownBy_drew {w w1 : World} {r : Option Nat} (h : w.drew.grownBy w1 r) : w.grownBy w1 r := ⟨h.os, h.tape, h.output, h.size, h.block⟩
theorem tkO_eq {w : World} {b lim : Nat} {o : Sx.O} {y z : Bool} (h : TkO w b lim (Sx.keep y o)) (e : y = z) : TkO w b lim (Sx.keep z o) := by rw [← e]; exact h
theorem str_of_data {s : ByteArray} {l : Tx.Bs} (h : s.data.toList = l) : Value.string s = strV l := by
 subst h; unfold strV; congr 1

theorem span_any {lim : Nat} (b : Nat) (o : Sx.O) (s : ByteArray) (w : World) (h : TkO w b lim o) (hs : s.size ≤ 24) :
  Calls Tryz.prog 186 #[.pointer (some ⟨b, 0, none⟩), .string s] w fun e w' =>
   e = .returned (.int .i64 (Sx.spanV s.data.toList)) ∧ w.grownBy w' (some b) ∧ TkO w' b lim (Sx.keep (Sx.spanO s.data.toList).isSome o) := by
 have H := hid h
 have lt := tkO_lt h
 clear h
 by_cases h48 : s.data.toList = [48]
 ·have hq : (s.toList == [48]) = true := by rw [Lib.toList_data, h48]; rfl
  have e1 : Hid (Sx.spanV s.data.toList = 0) := by show _ = _; rw [Sx.spanV, if_pos h48]
  have e2 : Hid ((Sx.spanO s.data.toList).isSome = true) := by show _ = _; rw [Sx.spanO, if_pos h48]; rfl
  clear h48
  go_enter Tryz.func186, Tryz.ntmps186
  go_wp2
  go_ret
  rw [e1.out, e2.out]
  exact ⟨rfl, gb_refl _ _, H.out⟩
 have hq : (s.toList == [48]) = false := by rw [Lib.toList_data]; simpa using h48
 obtain ⟨C, hC⟩ : ∃ C, Sx.colons s.data.toList = C := ⟨_, rfl⟩
 have hCl : ∀ x ∈ C, x.length ≤ 24 := by rw [← hC]; intro x hx; have := Sx.colons_len _ x hx; simp at this; omega
 have V : Hid (Sx.spanV s.data.toList = Sx.spanVC C) := by show _ = _; rw [Sx.spanV, if_neg h48, hC]
 have OK : Hid ((Sx.spanO s.data.toList).isSome = Sx.spanOC C) := by show _ = _; rw [Sx.spanO_some _ h48, hC]
 have HC := hid hC
 have HCL := hid hCl
 clear hC hCl h48
 obtain ⟨SV, hSV⟩ : ∃ SV, Sx.spanV s.data.toList = SV := ⟨_, rfl⟩
 obtain ⟨SO, hSO⟩ : ∃ SO, (Sx.spanO s.data.toList).isSome = SO := ⟨_, rfl⟩
 rw [hSV] at V ⊢
 rw [hSO] at OK ⊢
 clear hSV hSO
 obtain ⟨i0, hi, hz0, hz1, hz2⟩ := info_parts Tryz.infoStr
 go_enter Tryz.func186, Tryz.ntmps186
 go_wp2_with fail
 go_loopw [5, 6, 7] (fun v a c wr => ∃ (i f : Nat) (out : List Tx.Bs), f ≤ i ∧ i ≤ s.size + 1 ∧ out.length ≤ i ∧ a = .int .i64 f ∧ c = .int .i64 i ∧ wr.ownsRow w.heap.size 9 1 v out.length (out.map strV) ∧ Below w.heap.size w wr ∧
  Hid (if i ≤ s.size then (∀ c ∈ (s.data.toList.drop f).take (i - f), c ≠ 58) ∧ C = out ++ Sx.colons (s.data.toList.drop f) else C = out)) (fun _ _ c _ => s.size + 1 - (intOf c).toNat)
 case atStart => exact ⟨0, 0, [], by omega, by omega, by simp, rfl, rfl, World.ownsRow_nil _ _ _ _, Below.refl _ _, by show ite _ _ _; rw [if_pos (by omega)]; exact ⟨by simp, by simpa using HC.out.symm⟩⟩
 case round =>
  obtain ⟨i, f, out, h1, h2, h3, rfl, rfl, hown, hb, HR⟩ := hrel
  clear HC
  obtain ⟨va, vcap, rfl⟩ := owns_shape0 hown
  by_cases hend : i = s.size + 1
  ·have hR : C = out := by have := HR.out; rw [if_neg (by omega)] at this; exact this
   clear HR
   subst hR
   subst hend
   have HT := hid (tkO_below H.out hb)
   obtain ⟨x0, bad, c0, c1, z0, z1, lt1⟩ := tk_cells HT.out
   have hb1 := hb.size
   by_cases h22 : C.length = 2
   ·match C, h22, hown, HCL, V, OK with
    | [p, q], _, hown, HCL, V, OK =>
      obtain ⟨g, cap, hv⟩ := owns_shape hown
      simp at hv
      obtain ⟨rfl, rfl⟩ := hv
      obtain ⟨_, _, k3, k4, k5⟩ := owns_cell (g := 0) hown
      have hp : _ = some (strV p) := k5 0 (strV p) rfl
      have hq2 : _ = some (strV q) := k5 1 (strV q) rfl
      have lp := HCL.out p (by simp)
      have lq := HCL.out q (by simp)
      have hne : g ≠ b := by intro q; subst q; simp at k3; omega
      simp at k4 hp hq2
      have HG : Hid (w.grownBy _ (some b)) := ⟨hb.os, hb.tape, hb.output, hb.size, fun k hk _ => hb.block k hk⟩
      have HN := hid (fun (o' : Sx.O) (w' : World) (h : TkO w' b lim o') => number_str b o' p 1 2 w' h (by omega) lp)
      have HS := hid (fun (o' : Sx.O) (w' : World) (h : TkO w' b lim o') => sixty_any b o' q w' h lq)
      have V' : Hid (SV = 3600 * (Sx.num 1 2 p).getD 0 + 60 * sixV q) := V
      have OK' : Hid (SO = ((Sx.num 1 2 p).isSome && (Sx.sixO q).isSome)) := OK
      have nb := Sx.num_bd 1 2 p (by omega)
      have sb := sixV_bd q
      clear V OK hown HCL
      obtain ⟨P, hP⟩ : ∃ P, (Sx.num 1 2 p).getD 0 = P := ⟨_, rfl⟩
      obtain ⟨Q, hQ⟩ : ∃ Q, sixV q = Q := ⟨_, rfl⟩
      rw [hP] at nb HN V'
      rw [hQ] at sb HS V'
      obtain ⟨n1, n2⟩ := nb
      obtain ⟨s1, s2⟩ := sb
      clear hP hQ
      have hw1 : IntKind.i64.wrap (3600 * P) = 3600 * P := by rw [IntKind.wrap_i64]; omega
      have hw2 : IntKind.i64.wrap (60 * Q) = 60 * Q := by rw [IntKind.wrap_i64]; omega
      have hw3 : IntKind.i64.wrap (3600 * P + 60 * Q) = 3600 * P + 60 * Q := by rw [IntKind.wrap_i64]; omega
      have ht0 := HT.out
      go_wp2_with fail
      go_region_held3 (fun w' => w'.cell? ⟨g, 0, none⟩ = some (strV p) ∧ w'.cell? ⟨g, 1, none⟩ = some (strV q)) (first | go_keep | exact ⟨World.grownBy.cell hg3 (World.grownBy.cell hg hp (by simpa using hne)) (by simpa using hne), World.grownBy.cell hg3 (World.grownBy.cell hg hq2 (by simpa using hne)) (by simpa using hne)⟩ | exact ⟨World.grownBy.cell hg hp (by simpa using hne), World.grownBy.cell hg hq2 (by simpa using hne)⟩)
       (first | (go_at_call 187; first | (refine (HN.out o _ (tkO_drew ht0)).mono ?_; rintro e w2 ⟨rfl, hg, ht⟩) | (refine (HN.out _ _ ht).mono ?_; rintro e w3 ⟨rfl, hg3, ht3⟩)) | (go_at_call 207; first | (refine (HS.out o _ (tkO_drew ht0)).mono ?_; rintro e w2 ⟨rfl, hg, ht⟩) | (refine (HS.out _ _ ht).mono ?_; rintro e w3 ⟨rfl, hg3, ht3⟩)))
      all_goals
       have G3 := hid (gb_trans HG.out (gb_trans (World.grownBy_drew hg) hg3))
       go_wp2
       go_ret
       rw [V'.out, OK'.out]
       refine ⟨rfl, G3.out, ?_⟩
       rw [Sx.keep_keep] at ht3
       first
        | exact ht3
        | (rw [Bool.and_comm]; exact ht3)
   by_cases h33 : C.length = 3
   ·match C, h33, hown, HCL, V, OK with
    | [p, q, t], _, hown, HCL, V, OK =>
      obtain ⟨g, cap, hv⟩ := owns_shape hown
      simp at hv
      obtain ⟨rfl, rfl⟩ := hv
      obtain ⟨_, _, k3, k4, k5⟩ := owns_cell (g := 0) hown
      have hp : _ = some (strV p) := k5 0 (strV p) rfl
      have hq2 : _ = some (strV q) := k5 1 (strV q) rfl
      have ht2 : _ = some (strV t) := k5 2 (strV t) rfl
      have lt2 := HCL.out t (by simp)
      have lp := HCL.out p (by simp)
      have lq := HCL.out q (by simp)
      have hne : g ≠ b := by intro q; subst q; simp at k3; omega
      simp at k4 hp hq2 ht2
      have HG : Hid (w.grownBy _ (some b)) := ⟨hb.os, hb.tape, hb.output, hb.size, fun k hk _ => hb.block k hk⟩
      have HN := hid (fun (o' : Sx.O) (w' : World) (h : TkO w' b lim o') => number_str b o' p 1 2 w' h (by omega) lp)
      have HS := hid (fun (o' : Sx.O) (w' : World) (h : TkO w' b lim o') => sixty_any b o' q w' h lq)
      have HS2 := hid (fun (o' : Sx.O) (w' : World) (h : TkO w' b lim o') => sixty_any b o' t w' h lt2)
      have V' : Hid (SV = 3600 * (Sx.num 1 2 p).getD 0 + 60 * sixV q + sixV t) := V
      have OK' : Hid (SO = ((Sx.num 1 2 p).isSome && (Sx.sixO q).isSome && (Sx.sixO t).isSome)) := OK
      have tb := sixV_bd t
      have nb := Sx.num_bd 1 2 p (by omega)
      have sb := sixV_bd q
      clear V OK hown HCL
      obtain ⟨P, hP⟩ : ∃ P, (Sx.num 1 2 p).getD 0 = P := ⟨_, rfl⟩
      obtain ⟨Q, hQ⟩ : ∃ Q, sixV q = Q := ⟨_, rfl⟩
      rw [hP] at nb HN V'
      rw [hQ] at sb HS V'
      obtain ⟨n1, n2⟩ := nb
      obtain ⟨s1, s2⟩ := sb
      clear hP hQ
      obtain ⟨R, hR⟩ : ∃ R, sixV t = R := ⟨_, rfl⟩
      rw [hR] at tb HS2 V'
      obtain ⟨t1, t2⟩ := tb
      clear hR
      have hw1 : IntKind.i64.wrap (3600 * P) = 3600 * P := by rw [IntKind.wrap_i64]; omega
      have hw2 : IntKind.i64.wrap (60 * Q) = 60 * Q := by rw [IntKind.wrap_i64]; omega
      have hw3 : IntKind.i64.wrap (3600 * P + 60 * Q) = 3600 * P + 60 * Q := by rw [IntKind.wrap_i64]; omega
      have ht0 := HT.out
      go_wp2_with fail
      go_region_held3 (fun w' => w'.cell? ⟨g, 0, none⟩ = some (strV p) ∧ w'.cell? ⟨g, 1, none⟩ = some (strV q)) (first | go_keep | exact ⟨World.grownBy.cell hg3 (World.grownBy.cell hg hp (by simpa using hne)) (by simpa using hne), World.grownBy.cell hg3 (World.grownBy.cell hg hq2 (by simpa using hne)) (by simpa using hne)⟩ | exact ⟨World.grownBy.cell hg hp (by simpa using hne), World.grownBy.cell hg hq2 (by simpa using hne)⟩)
       (first | (go_at_call 187; first | (refine (HN.out o _ (tkO_drew ht0)).mono ?_; rintro e w2 ⟨rfl, hg, ht⟩) | (refine (HN.out _ _ ht).mono ?_; rintro e w3 ⟨rfl, hg3, ht3⟩)) | (go_at_call 207; first | (refine (HS.out o _ (tkO_drew ht0)).mono ?_; rintro e w2 ⟨rfl, hg, ht⟩) | (refine (HS.out _ _ ht).mono ?_; rintro e w3 ⟨rfl, hg3, ht3⟩)))
      all_goals
       have G3 := hid (gb_trans HG.out (gb_trans (World.grownBy_drew hg) hg3))
       have q3 := World.grownBy.cell hg3 (World.grownBy.cell hg ht2 (by simpa using hne)) (by simpa using hne)
       go_wp2_with fail
       refine (HS2.out _ _ ht3).mono ?_
       rintro e w4 ⟨rfl, hg4, ht4⟩
       go_wp2
       go_ret
       rw [V'.out, OK'.out]
       refine ⟨rfl, gb_trans G3.out hg4, ?_⟩
       rw [Sx.keep_keep, Sx.keep_keep] at ht4
       exact tkO_eq ht4 (by cases (Sx.num 1 2 p).isSome <;> cases (Sx.sixO q).isSome <;> cases (Sx.sixO t).isSome <;> rfl)
   ·have V' : Hid (SV = 0) := by
     show _ = _; rw [V.out]
     match C, h22, h33 with
     | [], _, _ => rfl
     | [_], _, _ => rfl
     | _ :: _ :: _ :: _ :: _, _, _ => rfl
    have OK' : Hid (SO = false) := by
     show _ = _; rw [OK.out]
     match C, h22, h33 with
     | [], _, _ => rfl
     | [_], _, _ => rfl
     | _ :: _ :: _ :: _ :: _, _, _ => rfl
    have e2 : ((C.length : Int) != 2) = true := by simp; omega
    have e3 : ((C.length : Int) != 3) = true := by simp; omega
    have HG : Hid (w.grownBy _ (some b)) := ⟨hb.os, hb.tape, hb.output, hb.size, fun k hk _ => hb.block k hk⟩
    clear V OK h22 h33 hown
    go_wp2
    go_ret
    rw [V'.out, OK'.out]
    exact ⟨rfl, gb_set HG.out (.inl rfl) _, tkO_bad HT.out⟩
  have h2' : i ≤ s.size := by omega
  have HR' : Hid ((∀ c ∈ (s.data.toList.drop f).take (i - f), c ≠ 58) ∧ C = out ++ Sx.colons (s.data.toList.drop f)) := by have := HR.out; rw [if_pos h2'] at this; exact this
  clear HR hend h2 V OK HCL
  by_cases hgo : ∃ h : i < s.size, s[i] ≠ 58
  ·obtain ⟨hi2, hc⟩ := hgo
   have NF := hid (no_colon_snoc s.data.toList f i h1 (by simpa using hi2) HR'.out.1 hc)
   obtain ⟨c, hcc⟩ : ∃ c, s[i] = c := ⟨_, rfl⟩
   rw [hcc] at hc
   have e58 : ((c.toNat : Int) == 58) = false := by have := u8_eq c 58; simp at this; simp [this, hc]
   have eis : ((i : Int) == (s.size : Int)) = false := by simp; omega
   clear hc
   go_wp2
   go_roundw
   case rel => exact ⟨i + 1, f, out, by omega, by omega, by omega, rfl, by go_num, hown, hb, by show ite _ _ _; rw [if_pos (by omega)]; exact ⟨NF.out, HR'.out.2⟩⟩
   case measure => simp [intOf]; omega
  ·have hgo' : ∀ h : i < s.size, s[i] = 58 := by
    intro h
    by_cases q : s[i] = 58
    ·exact q
    ·exact absurd ⟨h, q⟩ hgo
   clear hgo
   have RC := hid (colons_cut s.data.toList f i h1 (by simpa using h2') HR'.out.1 (fun h => by rw [List.getElem?_eq_getElem h]; exact congrArg some (hgo' (by simpa using h))))
   have ER := hid (show (s.extract f i).data.toList = (s.data.toList.drop f).take (i - f) from Lib.extract_data _ _ _)
   obtain ⟨r, hr⟩ : ∃ r, (s.data.toList.drop f).take (i - f) = r := ⟨_, rfl⟩
   rw [hr] at RC ER
   have EV : Value.string (s.extract f i) = strV r := str_of_data ER.out
   have NX : Hid (if i + 1 ≤ s.size then (∀ c ∈ (s.data.toList.drop (i + 1)).take (i + 1 - (i + 1)), c ≠ 58) ∧ C = (out ++ [r]) ++ Sx.colons (s.data.toList.drop (i + 1)) else C = out ++ [r]) := by
    show ite _ _ _
    have e : s.data.toList.length = s.size := by simp
    have q := HR'.out.2
    rw [RC.out] at q
    by_cases h : i < s.size
    ·rw [if_pos (by omega)] at q ⊢
     exact ⟨by simp, by rw [q]; simp⟩
    ·rw [if_neg (by omega)] at q ⊢
     exact q
   clear hr HR' RC
   by_cases hi2 : i < s.size
   all_goals
    first
     | (have e58 : (((s[i]'hi2).toNat : Int) == 58) = true := by rw [hgo' hi2]; rfl
        have eis : ((i : Int) == (s.size : Int)) = false := by simp; omega)
     | (have eis : ((i : Int) == (s.size : Int)) = true := by simp; omega)
    clear hgo'
    go_wp2_with (at_builtin; refine wpList_append_own _ rfl _ _ 107 rfl w.heap.size 9 i0 (.string ⟨#[]⟩) 1 16 Tryz.underlying107 hi hz0 hz1 hz2 rfl (by decide) _ _ _ rfl (hown.alloc _) _ 1 1 [strV r] rfl rfl (by rw [← EV]; exact one_cell _ _) (by simp [Value.oneCell']) (by unfold maxLen; omega) (by omega) (by simp; have := hb.size; omega) ?_)
    intro v' w3 hown' hgrow _
    obtain ⟨hown2, hb2⟩ := app_rel hb.size hown hb hown' hgrow
    obtain ⟨g, cap, hv⟩ := owns_shape hown'
    rw [hv] at hown2 ⊢
    clear hown' hgrow hown
    go_wp2
    go_roundw
    case rel => exact ⟨i + 1, i + 1, out ++ [r], by omega, by omega, by simp; omega, by go_num, by go_num, hown2, hb2, NX⟩
    case measure => simp [intOf]; omega
theorem span_str {lim : Nat} (b : Nat) (o : Sx.O) (l : Tx.Bs) (w : World) (h : TkO w b lim o) (hs : l.length ≤ 24) :
  Calls Tryz.prog 186 #[.pointer (some ⟨b, 0, none⟩), strV l] w fun e w' =>
   e = .returned (.int .i64 (Sx.spanV l)) ∧ w.grownBy w' (some b) ∧ TkO w' b lim (Sx.keep (Sx.spanO l).isSome o) := by
 have := span_any b o ⟨l.toArray⟩ w h (by rw [strV_size]; exact hs)
 rw [strV_data] at this; exact this
end
section
open Go.RowKit
attribute [local go_sem ↓] Go.wp_at_zero Go.wp_at_succ

namespace Sx
def formV (s : Tx.Bs) : Fm :=
 if s.take 4 = lastW then ⟨2, (wkO (s.drop 4)).getD 0, 0⟩
 else if formC s then ⟨if s[3]? = some 60 then 4 else 3, (wkO (s.take 3)).getD 0, (num 1 2 (s.drop 5)).getD 0⟩
 else ⟨1, 0, (num 1 2 s).getD 0⟩
theorem formV_eq {s : Tx.Bs} {f : Fm} (h : formO s = some f) : formV s = f := by
 unfold formO at h; unfold formV
 by_cases h1 : s.take 4 = lastW
 ·rw [if_pos h1] at h ⊢
  cases hq : wkO (s.drop 4) with
  | none => rw [hq] at h; cases h
  | some k => rw [hq] at h; simpa using h
 ·rw [if_neg h1] at h ⊢
  by_cases h2 : formC s
  ·rw [if_pos h2] at h ⊢
   cases hq : wkO (s.take 3) with
   | none => rw [hq] at h; cases h
   | some k =>
     cases hn : num 1 2 (s.drop 5) with
     | none => rw [hq, hn] at h; cases h
     | some j => rw [hq, hn] at h; simpa using h
  ·rw [if_neg h2] at h ⊢
   cases hn : num 1 2 s with
   | none => rw [hn] at h; cases h
   | some j => rw [hn] at h; simpa using h
theorem formO_last {s : Tx.Bs} (h : s.take 4 = lastW) : (formO s).isSome = (wkO (s.drop 4)).isSome := by
 rw [formO, if_pos h]; cases wkO (s.drop 4) <;> rfl
theorem formO_mid {s : Tx.Bs} (h1 : s.take 4 ≠ lastW) (h : formC s) : (formO s).isSome = ((wkO (s.take 3)).isSome && (num 1 2 (s.drop 5)).isSome) := by
 rw [formO, if_neg h1, if_pos h]; cases wkO (s.take 3) <;> cases num 1 2 (s.drop 5) <;> rfl
theorem formO_day {s : Tx.Bs} (h1 : s.take 4 ≠ lastW) (h : ¬ formC s) : (formO s).isSome = (num 1 2 s).isSome := by
 rw [formO, if_neg h1, if_neg h]; cases num 1 2 s <;> rfl
end Sx
theorem rweekday_of {lim : Nat} (b : Nat) (o : Sx.O) (x : ByteArray) (l : Tx.Bs) (hx : x.data.toList = l) (w : World) (h : TkO w b lim o) (hl : l.length ≤ 24) :
  Calls Tryz.prog 209 #[.pointer (some ⟨b, 0, none⟩), .string x] w fun e w' =>
   e = .returned (.int .i64 ((Sx.wkO l).getD 0)) ∧ w.grownBy w' (some b) ∧ TkO w' b lim (Sx.keep (Sx.wkO l).isSome o) := by
 rw [str_of_data hx]; exact rweekday_any b o l w h hl
theorem number_of {lim : Nat} (b : Nat) (o : Sx.O) (x : ByteArray) (l : Tx.Bs) (hx : x.data.toList = l) (least most : Nat) (w : World) (h : TkO w b lim o) (hm : most ≤ 4) (hs : l.length ≤ 24) :
  Calls Tryz.prog 187 #[.pointer (some ⟨b, 0, none⟩), .string x, .int .i64 least, .int .i64 most] w fun e w' =>
   e = .returned (.int .i64 ((Sx.num least most l).getD 0)) ∧ w.grownBy w' (some b) ∧ TkO w' b lim (Sx.keep (Sx.num least most l).isSome o) := by
 rw [str_of_data hx]; exact number_str b o l least most w h hm hs
theorem span_of {lim : Nat} (b : Nat) (o : Sx.O) (x : ByteArray) (l : Tx.Bs) (hx : x.data.toList = l) (w : World) (h : TkO w b lim o) (hs : l.length ≤ 24) :
  Calls Tryz.prog 186 #[.pointer (some ⟨b, 0, none⟩), .string x] w fun e w' =>
   e = .returned (.int .i64 (Sx.spanV l)) ∧ w.grownBy w' (some b) ∧ TkO w' b lim (Sx.keep (Sx.spanO l).isSome o) := by
 rw [str_of_data hx]; exact span_str b o l w h hs
theorem gb_ofAlloc {w w1 : World} {b : Nat} {x : Obj} (h : (w.alloc x).grownBy w1 (some b)) : w.grownBy w1 (some b) := gb_trans (gb_alloc (gb_refl _ _) _) h
theorem gb_lt_drew {w w2 : World} {x : Obj} {r : Option Nat} (h : (w.alloc x).drew.grownBy w2 r) : w.heap.size < w2.heap.size := by
 have := h.size
 have e : (w.alloc x).drew.heap.size = w.heap.size + 1 := by show (w.alloc x).heap.size = _; simp
 omega
theorem gb_lt {w w2 : World} {x : Obj} {r : Option Nat} (h : (w.alloc x).grownBy w2 r) : w.heap.size < w2.heap.size := by
 have := h.size
 simp at this; omega
theorem gb_le_drew {w w2 : World} {r : Option Nat} (h : w.drew.grownBy w2 r) : w.heap.size ≤ w2.heap.size := h.size
theorem tk_new {w : World} {b lim : Nat} {o : Sx.O} (h : TkO w b lim o) : ¬ w.heap.size = b := by have := tkO_lt h; omega
theorem gb_put {w w1 : World} {b : Nat} (h : w.grownBy w1 (some b)) {q o : Nat} (hq : w.heap.size ≤ q) {u : Value} : w.grownBy (w1.setCell ⟨q, o, none⟩ u) (some b) := gb_set h (.inr hq) u
theorem tkO_put {w : World} {b lim : Nat} {s : Sx.O} (h : TkO w b lim s) {q o : Nat} (hq : lim ≤ q) {u : Value} : TkO (w.setCell ⟨q, o, none⟩ u) b lim s := tkO_set h hq u
/- three numbers in a block -/
def FmAt (w : World) (X : Nat) (a b c : Int) : Prop :=
 w.cell? ⟨X, 0, none⟩ = some (.int .i64 a) ∧ w.cell? ⟨X, 1, none⟩ = some (.int .i64 b) ∧ w.cell? ⟨X, 2, none⟩ = some (.int .i64 c) ∧ w.frozen? ⟨X, 0, none⟩ = false ∧ w.frozen? ⟨X, 1, none⟩ = false ∧ w.frozen? ⟨X, 2, none⟩ = false
section
variable {w w1 : World} {X : Nat} {a b c : Int}
theorem fmAt_fresh (w : World) {t : TypeId} : FmAt (w.alloc (.cells #[.int .i64 a, .int .i64 b, .int .i64 c] t)) w.heap.size a b c := by
 refine ⟨?_, ?_, ?_, ?_, ?_, ?_⟩ <;> simp [go_sem]
theorem fmAt_new (w : World) {t : TypeId} : FmAt (w.alloc (.cells #[.int .i64 0, .int .i64 0, .int .i64 0] t)) w.heap.size 0 0 0 := fmAt_fresh w
theorem fmAt_drew (h : FmAt w X a b c) : FmAt w.drew X a b c := h
theorem fmAt_block (h : FmAt w X a b c) (hk : w1.heap[X]? = w.heap[X]?) : FmAt w1 X a b c := by
 obtain ⟨a0, a1, a2, z0, z1, z2⟩ := h
 refine ⟨?_, ?_, ?_, ?_, ?_, ?_⟩
 ·rw [World.cell?_of_block (w := w) hk]; exact a0
 ·rw [World.cell?_of_block (w := w) hk]; exact a1
 ·rw [World.cell?_of_block (w := w) hk]; exact a2
 ·rw [World.frozen?_of_block (w := w) hk]; exact z0
 ·rw [World.frozen?_of_block (w := w) hk]; exact z1
 ·rw [World.frozen?_of_block (w := w) hk]; exact z2
theorem fmAt_grown {r : Nat} (h : FmAt w X a b c) (hg : w.grownBy w1 (some r)) (hX : X < w.heap.size) (hn : ¬ X = r) : FmAt w1 X a b c := fmAt_block h (hg.block X hX (by simpa using hn))
theorem fmAt_alloc (h : FmAt w X a b c) {o : Obj} (hX : X < w.heap.size) : FmAt (w.alloc o) X a b c := fmAt_block h (Below.heap_alloc _ _ _ hX)
theorem fmAt_far (h : FmAt w X a b c) {q o : Nat} {u : Value} (hX : ¬ X = q) : FmAt (w.setCell ⟨q, o, none⟩ u) X a b c := fmAt_block h (Below.heap_setCell _ _ _ _ hX)
theorem fmAt_put {a' b' c' : Int} (h : FmAt w X a' b' c') (hX : X < w.heap.size) : FmAt (((w.setCell ⟨X, 0, none⟩ (.int .i64 a)).setCell ⟨X, 1, none⟩ (.int .i64 b)).setCell ⟨X, 2, none⟩ (.int .i64 c)) X a b c := by
 obtain ⟨a0, a1, a2, z0, z1, z2⟩ := h
 refine ⟨?_, ?_, ?_, ?_, ?_, ?_⟩ <;> simp [go_sem, a0, a1, a2, z0, z1, z2, hX]
end
theorem wk_bd (l : Tx.Bs) : 0 ≤ (Sx.wkO l).getD 0 ∧ (Sx.wkO l).getD 0 ≤ 100 := by
 have := th_bd l 21 0 Sx.weekdays (by decide)
 unfold Sx.wkO
 split
 ·simp
 ·simp; omega
theorem head_of (x : ByteArray) (k : Nat) : (x.extract 0 k).data.toList = x.data.toList.take k := by rw [Lib.extract_data]; simp
theorem tail_of (x : ByteArray) (k : Nat) : (x.extract k x.size).data.toList = x.data.toList.drop k := by
 rw [Lib.extract_data, List.take_of_length_le (by simp)]
theorem get_of (x : ByteArray) (k : Nat) (h : k < x.size) : x.data.toList[k]? = some x[k] := by
 rw [List.getElem?_eq_getElem (by simpa using h)]; rfl

theorem form_any {lim : Nat} (b : Nat) (o : Sx.O) (w : World) (h : TkO w b lim o) :
  Calls Tryz.prog 190 #[.pointer (some ⟨b, 0, none⟩)] w fun e w' =>
   e = .returned (.agg #[.int .i64 (Sx.formV (Sx.nxS o)).kind, .int .i64 (Sx.formV (Sx.nxS o)).wk, .int .i64 (Sx.formV (Sx.nxS o)).n]) ∧ w.grownBy w' (some b) ∧ TkO w' b lim (Sx.keep (Sx.formO (Sx.nxS o)).isSome (Sx.nxO o)) := by
 have H := hid h
 have hlen := nxS_len h
 obtain ⟨lt, le⟩ := tkO_le h
 obtain ⟨l, hl⟩ : ∃ l, Sx.nxS o = l := ⟨_, rfl⟩
 obtain ⟨o1, ho1⟩ : ∃ o1, Sx.nxO o = o1 := ⟨_, rfl⟩
 have NX := hid (fun (w' : World) (h : TkO w' b lim o) => next_any b o w' h)
 rw [hl, ho1] at NX
 rw [hl] at hlen ⊢
 rw [ho1]
 clear h hl ho1
 obtain ⟨s, hs⟩ : ∃ s : ByteArray, s.data.toList = l := ⟨⟨l.toArray⟩, by simp⟩
 have SV := hid (str_of_data hs)
 have HSZ : Hid (s.size = l.length) := by show _ = _; rw [← hs]; simp
 have HSD := hid hs
 have hne : ¬ w.heap.size = b := by omega
 have hltw : b < w.heap.size := by omega
 clear hs
 by_cases h1 : l.take 4 = Sx.lastW
 ·have h4 : (4 : Int) ≤ (s.size : Int) := by
   have := congrArg List.length h1
   have hsz := HSZ.out
   simp [Sx.lastW] at this; omega
  have hq : ((s.extract 0 4).toList == [108, 97, 115, 116]) = true := by
   rw [Lib.toList_data, head_of, HSD.out, h1]; rfl
  have FV : Hid (Sx.formV l = ⟨2, (Sx.wkO (l.drop 4)).getD 0, 0⟩) := by show _ = _; rw [Sx.formV, if_pos h1]
  have FO := hid (Sx.formO_last h1)
  have TD := hid (show (s.extract 4 s.size).data.toList = l.drop 4 by rw [tail_of, HSD.out])
  have hd4 : (l.drop 4).length ≤ 24 := by simp; omega
  clear h1
  go_enter Tryz.func190, Tryz.ntmps190
  go_wp2_with fail
  refine (NX.out _ (tkO_alloc H.out _)).mono ?_
  rintro e w1 ⟨rfl, hg, ht⟩
  rw [← SV.out]
  have hz := hg.size
  simp at hz
  go_wp2_with fail
  refine (rweekday_of b o1 _ _ TD.out _ ht hd4).mono ?_
  rintro e w2 ⟨rfl, hg2, ht2⟩
  obtain ⟨hc, hf⟩ := gcell (gb_trans hg hg2)
  have hz2 := hg2.size
  have hz3 : w.heap.size < w2.heap.size := by omega
  go_wp2
  rw [FV.out, FO.out]
  refine bodyPost_ret (v := .agg #[.int .i64 2, .int .i64 ((Sx.wkO (l.drop 4)).getD 0), .int .i64 0]) (by simp [results, Tryz.results190, go_sem, hc, hz3, hne]) rfl ⟨rfl, ?_, ?_⟩
  ·exact gb_set (gb_set (gb_set (gb_ofAlloc (gb_trans hg hg2)) (.inr (Nat.le_refl _)) _) (.inr (Nat.le_refl _)) _) (.inr (Nat.le_refl _)) _
  ·exact tkO_set (tkO_set (tkO_set ht2 le _) le _) le _
 have hnl := HSZ.out
 by_cases hC : Sx.formC l
 ·have FV : Hid (Sx.formV l = ⟨if l[3]? = some 60 then 4 else 3, (Sx.wkO (l.take 3)).getD 0, (Sx.num 1 2 (l.drop 5)).getD 0⟩) := by show _ = _; rw [Sx.formV, if_neg h1, if_pos hC]
  have FO := hid (Sx.formO_mid h1 hC)
  have hq : ((s.extract 0 4).toList == [108, 97, 115, 116]) = false := by
   rw [Lib.toList_data, head_of, HSD.out]; simpa [Sx.lastW] using h1
  obtain ⟨c1, c2, c3⟩ := hC
  have h5 : 5 < s.size := by omega
  have hp : (5 : Int) < (s.size : Int) := by omega
  have hp3 : (3 : Int) ≤ (s.size : Int) := by omega
  have hp5 : (5 : Int) ≤ (s.size : Int) := by omega
  have hn3 : 3 ≤ s.size := by omega
  have hn5 : 5 ≤ s.size := by omega
  have hd3 : (l.take 3).length ≤ 24 := by simp; omega
  have hd5 : (l.drop 5).length ≤ 24 := by simp; omega
  clear hnl c1
  have g3 := get_of s 3 (by omega)
  have g4 := get_of s 4 (by omega)
  rw [HSD.out] at g3 g4
  have q4 : s[4] = 61 := by rw [c2] at g4; simpa using g4.symm
  have e4 : ((s[4].toNat : Int) == 61) = true := by rw [q4]; rfl
  have TD3 := hid (show (s.extract 0 3).data.toList = l.take 3 by rw [head_of, HSD.out])
  have TD5 := hid (show (s.extract 5 s.size).data.toList = l.drop 5 by rw [tail_of, HSD.out])
  have wb := wk_bd (l.take 3)
  have G3 := hid g3
  have C3 := hid c3
  clear c2 q4 g3 g4 h1 c3
  by_cases c60 : s[3] = 60
  ·have e3 : ((s[3].toNat : Int) == 62) = false := by rw [c60]; rfl
   have e3' : ((s[3].toNat : Int) == 60) = true := by rw [c60]; rfl
   have K : Hid ((if l[3]? = some 60 then (4 : Int) else 3) = 4) := by show _ = _; rw [if_pos (by rw [G3.out, c60])]
   clear c60
   go_enter Tryz.func190, Tryz.ntmps190
   go_wp2_with fail
   refine (NX.out _ (tkO_alloc H.out _)).mono ?_
   rintro e w1 ⟨rfl, hg, ht⟩
   rw [← SV.out]
   have hz := hg.size
   simp at hz
   have hw : IntKind.i64.wrap 3 = 3 := rfl
   have Q3 := hid (fun (o' : Sx.O) (w' : World) (h : TkO w' b lim o') => rweekday_of b o' _ _ TD3.out w' h hd3)
   have Q5 := hid (fun (o' : Sx.O) (w' : World) (h : TkO w' b lim o') => number_of b o' _ _ TD5.out 1 2 w' h (by omega) hd5)
   go_upto_region 5 with fail
   go_cut [4] from 38 to 46 (fun s4 wx => ∃ X, s4 = .pointer (some ⟨X, 0, none⟩) ∧ w.heap.size ≤ X ∧ ¬ X = w.heap.size ∧ X < wx.heap.size ∧ Hid (FmAt wx X 3 ((Sx.wkO (l.take 3)).getD 0) ((Sx.num 1 2 (l.drop 5)).getD 0)) ∧ Hid (FmAt wx w.heap.size 0 0 0) ∧ w.heap.size < wx.heap.size ∧ Hid (w.grownBy wx (some b)) ∧ Hid (TkO wx b lim (Sx.keep ((Sx.wkO (l.take 3)).isSome && (Sx.num 1 2 (l.drop 5)).isSome) o1)))
   case first =>
    go_region_held3 (fun w' => True) (trivial)
     (first | (go_at_call 187; first | (refine (Q5.out o1 _ (tkO_drew ht)).mono ?_; rintro e w2 ⟨rfl, hg2, ht2⟩; obtain ⟨hc2, hf2⟩ := gcell hg2; have hz2 := gb_le_drew hg2) | (refine (Q5.out o1 _ (tkO_drew (tkO_alloc ht _))).mono ?_; rintro e w2 ⟨rfl, hg2, ht2⟩; obtain ⟨hc2, hf2⟩ := gcell hg2; have hz2 := gb_lt_drew hg2; have hn1 := tk_new ht) | (refine (Q5.out _ _ ht2).mono ?_; rintro e w3 ⟨rfl, hg3, ht3⟩; obtain ⟨hc3, hf3⟩ := gcell hg3; have hz3 := Nat.lt_of_lt_of_le hz2 hg3.size; have hz33 := hg3.size; have hn3 := tk_new ht3) | (refine (Q5.out _ _ ht2).mono ?_; rintro e w3 ⟨rfl, hg3, ht3⟩; obtain ⟨hc3, hf3⟩ := gcell hg3; have hz33 := hg3.size; have hn3 := tk_new ht3) | (refine (Q5.out _ _ (tkO_alloc ht2 _)).mono ?_; rintro e w3 ⟨rfl, hg3, ht3⟩; obtain ⟨hc3, hf3⟩ := gcell hg3; have hz3 := gb_lt hg3; have hn2 := tk_new ht2)) | (go_at_call 209; first | (refine (Q3.out o1 _ (tkO_drew ht)).mono ?_; rintro e w2 ⟨rfl, hg2, ht2⟩; obtain ⟨hc2, hf2⟩ := gcell hg2; have hz2 := gb_le_drew hg2) | (refine (Q3.out o1 _ (tkO_drew (tkO_alloc ht _))).mono ?_; rintro e w2 ⟨rfl, hg2, ht2⟩; obtain ⟨hc2, hf2⟩ := gcell hg2; have hz2 := gb_lt_drew hg2; have hn1 := tk_new ht) | (refine (Q3.out _ _ ht2).mono ?_; rintro e w3 ⟨rfl, hg3, ht3⟩; obtain ⟨hc3, hf3⟩ := gcell hg3; have hz3 := Nat.lt_of_lt_of_le hz2 hg3.size; have hz33 := hg3.size; have hn3 := tk_new ht3) | (refine (Q3.out _ _ ht2).mono ?_; rintro e w3 ⟨rfl, hg3, ht3⟩; obtain ⟨hc3, hf3⟩ := gcell hg3; have hz33 := hg3.size; have hn3 := tk_new ht3) | (refine (Q3.out _ _ (tkO_alloc ht2 _)).mono ?_; rintro e w3 ⟨rfl, hg3, ht3⟩; obtain ⟨hc3, hf3⟩ := gcell hg3; have hz3 := gb_lt hg3; have hn2 := tk_new ht2)))
    all_goals
     have G2 : Hid (w1.grownBy w2 (some b)) := by first | exact World.grownBy_drew hg2 | exact gb_ofAlloc (World.grownBy_drew hg2)
     have G3 : Hid (w2.grownBy w3 (some b)) := by first | exact hg3 | exact gb_ofAlloc hg3
     have GG := hid (gb_ofAlloc (gb_trans hg (gb_trans G2.out G3.out)))
     have FR := hid (fmAt_grown (fmAt_grown (fmAt_grown (fmAt_new w) hg (by simp) hne) G2.out hz hne) G3.out (Nat.lt_of_lt_of_le hz G2.out.size) hne)
     have T3 : Hid (TkO w3 b lim (Sx.keep ((Sx.wkO (l.take 3)).isSome && (Sx.num 1 2 (l.drop 5)).isSome) o1)) := by
      have := ht3
      rw [Sx.keep_keep] at this
      exact tkO_eq this (by cases (Sx.wkO (l.take 3)).isSome <;> cases (Sx.num 1 2 (l.drop 5)).isSome <;> rfl)
     have y2 := G2.out.size
     have y3 := G3.out.size
     go_wp2_with fail
     go_meet
     first
      | exact ⟨_, rfl, by omega, by omega, by simp, fmAt_fresh w3, fmAt_alloc FR.out (by omega), by simp; omega, gb_alloc GG.out _, tkO_alloc T3.out _⟩
      | exact ⟨_, rfl, by omega, by omega, by simp; omega, fmAt_put (fmAt_grown (fmAt_new w2) hg3 (by simp) (by assumption)) (by omega), fmAt_far (fmAt_far (fmAt_far FR.out (by omega)) (by omega)) (by omega), by simp; omega, gb_put (gb_put (gb_put GG.out (by omega)) (by omega)) (by omega), tkO_put (tkO_put (tkO_put T3.out (by omega)) (by omega)) (by omega)⟩
      | exact ⟨_, rfl, by omega, by omega, by simp; omega, fmAt_put (fmAt_grown (fmAt_grown (fmAt_drew (fmAt_new w1)) hg2 (by simp) (by assumption)) G3.out (by omega) (by assumption)) (by omega), fmAt_far (fmAt_far (fmAt_far FR.out (by omega)) (by omega)) (by omega), by simp; omega, gb_put (gb_put (gb_put GG.out (by omega)) (by omega)) (by omega), tkO_put (tkO_put (tkO_put T3.out (by omega)) (by omega)) (by omega)⟩
   case rest =>
   obtain ⟨X, rfl, lX, nX, sX, FX, FR, sR, GG, TT⟩ := hcut
   obtain ⟨x0, x1, x2, y0, y1, y2⟩ := FX.out
   obtain ⟨r0, r1, r2, q0, q1, q2⟩ := FR.out
   have nX' : ¬ w.heap.size = X := fun q => nX q.symm
   clear hg ht
   go_wp2
   rw [FV.out, FO.out, K.out]
   refine bodyPost_ret (v := .agg #[.int .i64 4, .int .i64 ((Sx.wkO (l.take 3)).getD 0), .int .i64 ((Sx.num 1 2 (l.drop 5)).getD 0)]) (by simp [results, Tryz.results190, go_sem, *]) rfl ⟨rfl, ?_, ?_⟩
   ·repeat (refine gb_put ?_ (by omega))
    exact GG.out
   ·repeat (refine tkO_put ?_ (by omega))
    exact TT.out
  ·have c62 : s[3] = 62 := by
    rcases C3.out with q | q
    ·rw [G3.out] at q; simpa using q
    ·rw [G3.out] at q; exact absurd (by simpa using q) c60
   have e3 : ((s[3].toNat : Int) == 62) = true := by rw [c62]; rfl
   have e3' : ((s[3].toNat : Int) == 60) = false := by rw [c62]; rfl
   have K : Hid ((if l[3]? = some 60 then (4 : Int) else 3) = 3) := by show _ = _; rw [if_neg (by rw [G3.out, c62]; decide)]
   clear c60 c62
   go_enter Tryz.func190, Tryz.ntmps190
   go_wp2_with fail
   refine (NX.out _ (tkO_alloc H.out _)).mono ?_
   rintro e w1 ⟨rfl, hg, ht⟩
   rw [← SV.out]
   have hz := hg.size
   simp at hz
   have hw : IntKind.i64.wrap 3 = 3 := rfl
   have Q3 := hid (fun (o' : Sx.O) (w' : World) (h : TkO w' b lim o') => rweekday_of b o' _ _ TD3.out w' h hd3)
   have Q5 := hid (fun (o' : Sx.O) (w' : World) (h : TkO w' b lim o') => number_of b o' _ _ TD5.out 1 2 w' h (by omega) hd5)
   go_upto_region 5 with fail
   go_cut [4] from 38 to 46 (fun s4 wx => ∃ X, s4 = .pointer (some ⟨X, 0, none⟩) ∧ w.heap.size ≤ X ∧ ¬ X = w.heap.size ∧ X < wx.heap.size ∧ Hid (FmAt wx X 3 ((Sx.wkO (l.take 3)).getD 0) ((Sx.num 1 2 (l.drop 5)).getD 0)) ∧ Hid (FmAt wx w.heap.size 0 0 0) ∧ w.heap.size < wx.heap.size ∧ Hid (w.grownBy wx (some b)) ∧ Hid (TkO wx b lim (Sx.keep ((Sx.wkO (l.take 3)).isSome && (Sx.num 1 2 (l.drop 5)).isSome) o1)))
   case first =>
    go_region_held3 (fun w' => True) (trivial)
     (first | (go_at_call 187; first | (refine (Q5.out o1 _ (tkO_drew ht)).mono ?_; rintro e w2 ⟨rfl, hg2, ht2⟩; obtain ⟨hc2, hf2⟩ := gcell hg2; have hz2 := gb_le_drew hg2) | (refine (Q5.out o1 _ (tkO_drew (tkO_alloc ht _))).mono ?_; rintro e w2 ⟨rfl, hg2, ht2⟩; obtain ⟨hc2, hf2⟩ := gcell hg2; have hz2 := gb_lt_drew hg2; have hn1 := tk_new ht) | (refine (Q5.out _ _ ht2).mono ?_; rintro e w3 ⟨rfl, hg3, ht3⟩; obtain ⟨hc3, hf3⟩ := gcell hg3; have hz3 := Nat.lt_of_lt_of_le hz2 hg3.size; have hz33 := hg3.size; have hn3 := tk_new ht3) | (refine (Q5.out _ _ ht2).mono ?_; rintro e w3 ⟨rfl, hg3, ht3⟩; obtain ⟨hc3, hf3⟩ := gcell hg3; have hz33 := hg3.size; have hn3 := tk_new ht3) | (refine (Q5.out _ _ (tkO_alloc ht2 _)).mono ?_; rintro e w3 ⟨rfl, hg3, ht3⟩; obtain ⟨hc3, hf3⟩ := gcell hg3; have hz3 := gb_lt hg3; have hn2 := tk_new ht2)) | (go_at_call 209; first | (refine (Q3.out o1 _ (tkO_drew ht)).mono ?_; rintro e w2 ⟨rfl, hg2, ht2⟩; obtain ⟨hc2, hf2⟩ := gcell hg2; have hz2 := gb_le_drew hg2) | (refine (Q3.out o1 _ (tkO_drew (tkO_alloc ht _))).mono ?_; rintro e w2 ⟨rfl, hg2, ht2⟩; obtain ⟨hc2, hf2⟩ := gcell hg2; have hz2 := gb_lt_drew hg2; have hn1 := tk_new ht) | (refine (Q3.out _ _ ht2).mono ?_; rintro e w3 ⟨rfl, hg3, ht3⟩; obtain ⟨hc3, hf3⟩ := gcell hg3; have hz3 := Nat.lt_of_lt_of_le hz2 hg3.size; have hz33 := hg3.size; have hn3 := tk_new ht3) | (refine (Q3.out _ _ ht2).mono ?_; rintro e w3 ⟨rfl, hg3, ht3⟩; obtain ⟨hc3, hf3⟩ := gcell hg3; have hz33 := hg3.size; have hn3 := tk_new ht3) | (refine (Q3.out _ _ (tkO_alloc ht2 _)).mono ?_; rintro e w3 ⟨rfl, hg3, ht3⟩; obtain ⟨hc3, hf3⟩ := gcell hg3; have hz3 := gb_lt hg3; have hn2 := tk_new ht2)))
    all_goals
     have G2 : Hid (w1.grownBy w2 (some b)) := by first | exact World.grownBy_drew hg2 | exact gb_ofAlloc (World.grownBy_drew hg2)
     have G3 : Hid (w2.grownBy w3 (some b)) := by first | exact hg3 | exact gb_ofAlloc hg3
     have GG := hid (gb_ofAlloc (gb_trans hg (gb_trans G2.out G3.out)))
     have FR := hid (fmAt_grown (fmAt_grown (fmAt_grown (fmAt_new w) hg (by simp) hne) G2.out hz hne) G3.out (Nat.lt_of_lt_of_le hz G2.out.size) hne)
     have T3 : Hid (TkO w3 b lim (Sx.keep ((Sx.wkO (l.take 3)).isSome && (Sx.num 1 2 (l.drop 5)).isSome) o1)) := by
      have := ht3
      rw [Sx.keep_keep] at this
      exact tkO_eq this (by cases (Sx.wkO (l.take 3)).isSome <;> cases (Sx.num 1 2 (l.drop 5)).isSome <;> rfl)
     have y2 := G2.out.size
     have y3 := G3.out.size
     go_wp2_with fail
     go_meet
     first
      | exact ⟨_, rfl, by omega, by omega, by simp, fmAt_fresh w3, fmAt_alloc FR.out (by omega), by simp; omega, gb_alloc GG.out _, tkO_alloc T3.out _⟩
      | exact ⟨_, rfl, by omega, by omega, by simp; omega, fmAt_put (fmAt_grown (fmAt_new w2) hg3 (by simp) (by assumption)) (by omega), fmAt_far (fmAt_far (fmAt_far FR.out (by omega)) (by omega)) (by omega), by simp; omega, gb_put (gb_put (gb_put GG.out (by omega)) (by omega)) (by omega), tkO_put (tkO_put (tkO_put T3.out (by omega)) (by omega)) (by omega)⟩
      | exact ⟨_, rfl, by omega, by omega, by simp; omega, fmAt_put (fmAt_grown (fmAt_grown (fmAt_drew (fmAt_new w1)) hg2 (by simp) (by assumption)) G3.out (by omega) (by assumption)) (by omega), fmAt_far (fmAt_far (fmAt_far FR.out (by omega)) (by omega)) (by omega), by simp; omega, gb_put (gb_put (gb_put GG.out (by omega)) (by omega)) (by omega), tkO_put (tkO_put (tkO_put T3.out (by omega)) (by omega)) (by omega)⟩
   case rest =>
   obtain ⟨X, rfl, lX, nX, sX, FX, FR, sR, GG, TT⟩ := hcut
   obtain ⟨x0, x1, x2, y0, y1, y2⟩ := FX.out
   obtain ⟨r0, r1, r2, q0, q1, q2⟩ := FR.out
   have nX' : ¬ w.heap.size = X := fun q => nX q.symm
   clear hg ht
   go_wp2
   rw [FV.out, FO.out, K.out]
   refine bodyPost_ret (v := .agg #[.int .i64 3, .int .i64 ((Sx.wkO (l.take 3)).getD 0), .int .i64 ((Sx.num 1 2 (l.drop 5)).getD 0)]) (by simp [results, Tryz.results190, go_sem, *]) rfl ⟨rfl, ?_, ?_⟩
   ·repeat (refine gb_put ?_ (by omega))
    exact GG.out
   ·repeat (refine tkO_put ?_ (by omega))
    exact TT.out
 have FV : Hid (Sx.formV l = ⟨1, 0, (Sx.num 1 2 l).getD 0⟩) := by show _ = _; rw [Sx.formV, if_neg h1, if_neg hC]
 have FO := hid (Sx.formO_day h1 hC)
 by_cases h4 : s.size < 4
 ·clear hnl hC h1
  go_enter Tryz.func190, Tryz.ntmps190
  go_wp2_with fail
  refine (NX.out _ (tkO_alloc H.out _)).mono ?_
  rintro e w1 ⟨rfl, hg, ht⟩
  rw [← SV.out]
  have hz := hg.size
  simp at hz
  go_wp2_with fail
  refine (number_of b o1 s l HSD.out 1 2 _ ht (by omega) hlen).mono ?_
  rintro e w2 ⟨rfl, hg2, ht2⟩
  obtain ⟨hc, hf⟩ := gcell (gb_trans hg hg2)
  have hz2 := hg2.size
  have hz3 : w.heap.size < w2.heap.size := by omega
  go_wp2
  rw [FV.out, FO.out]
  refine bodyPost_ret (v := .agg #[.int .i64 1, .int .i64 0, .int .i64 ((Sx.num 1 2 l).getD 0)]) (by simp [results, Tryz.results190, go_sem, hc, hz3, hne]) rfl ⟨rfl, ?_, ?_⟩
  ·exact gb_set (gb_set (gb_set (gb_ofAlloc (gb_trans hg hg2)) (.inr (Nat.le_refl _)) _) (.inr (Nat.le_refl _)) _) (.inr (Nat.le_refl _)) _
  ·exact tkO_set (tkO_set (tkO_set ht2 le _) le _) le _
 have hq : ((s.extract 0 4).toList == [108, 97, 115, 116]) = false := by
  rw [Lib.toList_data, head_of, HSD.out]; simpa [Sx.lastW] using h1
 have h4' : (4 : Int) ≤ (s.size : Int) := by omega
 by_cases h5 : s.size ≤ 5
 ·clear hnl hC h1 h4
  go_enter Tryz.func190, Tryz.ntmps190
  go_wp2_with fail
  refine (NX.out _ (tkO_alloc H.out _)).mono ?_
  rintro e w1 ⟨rfl, hg, ht⟩
  rw [← SV.out]
  have hz := hg.size
  simp at hz
  go_wp2_with fail
  refine (number_of b o1 s l HSD.out 1 2 _ ht (by omega) hlen).mono ?_
  rintro e w2 ⟨rfl, hg2, ht2⟩
  obtain ⟨hc, hf⟩ := gcell (gb_trans hg hg2)
  have hz2 := hg2.size
  have hz3 : w.heap.size < w2.heap.size := by omega
  go_wp2
  rw [FV.out, FO.out]
  refine bodyPost_ret (v := .agg #[.int .i64 1, .int .i64 0, .int .i64 ((Sx.num 1 2 l).getD 0)]) (by simp [results, Tryz.results190, go_sem, hc, hz3, hne]) rfl ⟨rfl, ?_, ?_⟩
  ·exact gb_set (gb_set (gb_set (gb_ofAlloc (gb_trans hg hg2)) (.inr (Nat.le_refl _)) _) (.inr (Nat.le_refl _)) _) (.inr (Nat.le_refl _)) _
  ·exact tkO_set (tkO_set (tkO_set ht2 le _) le _) le _
 have h5' : (5 : Int) < (s.size : Int) := by omega
 have hl5 : 5 < l.length := by omega
 clear hnl
 have g3 := get_of s 3 (by omega)
 have g4 := get_of s 4 (by omega)
 rw [HSD.out] at g3 g4
 by_cases q4 : s[4] = 61
 ·have e4 : ((s[4].toNat : Int) == 61) = true := by rw [q4]; rfl
  have n62 : s[3] ≠ 62 := by intro q; exact hC ⟨hl5, by rw [g4, q4], .inl (by rw [g3, q])⟩
  have n60 : s[3] ≠ 60 := by intro q; exact hC ⟨hl5, by rw [g4, q4], .inr (by rw [g3, q])⟩
  have e3 : ((s[3].toNat : Int) == 62) = false := by have := u8_eq s[3] 62; simp at this; simp [this, n62]
  have e3' : ((s[3].toNat : Int) == 60) = false := by have := u8_eq s[3] 60; simp at this; simp [this, n60]
  clear hC q4 n62 n60 g3 g4 h1
  go_enter Tryz.func190, Tryz.ntmps190
  go_wp2_with fail
  refine (NX.out _ (tkO_alloc H.out _)).mono ?_
  rintro e w1 ⟨rfl, hg, ht⟩
  rw [← SV.out]
  have hz := hg.size
  simp at hz
  go_wp2_with fail
  refine (number_of b o1 s l HSD.out 1 2 _ ht (by omega) hlen).mono ?_
  rintro e w2 ⟨rfl, hg2, ht2⟩
  obtain ⟨hc, hf⟩ := gcell (gb_trans hg hg2)
  have hz2 := hg2.size
  have hz3 : w.heap.size < w2.heap.size := by omega
  go_wp2
  rw [FV.out, FO.out]
  refine bodyPost_ret (v := .agg #[.int .i64 1, .int .i64 0, .int .i64 ((Sx.num 1 2 l).getD 0)]) (by simp [results, Tryz.results190, go_sem, hc, hz3, hne]) rfl ⟨rfl, ?_, ?_⟩
  ·exact gb_set (gb_set (gb_set (gb_ofAlloc (gb_trans hg hg2)) (.inr (Nat.le_refl _)) _) (.inr (Nat.le_refl _)) _) (.inr (Nat.le_refl _)) _
  ·exact tkO_set (tkO_set (tkO_set ht2 le _) le _) le _
 ·have e4 : ((s[4].toNat : Int) == 61) = false := by have := u8_eq s[4] 61; simp at this; simp [this, q4]
  clear hC q4 g3 g4 h1
  go_enter Tryz.func190, Tryz.ntmps190
  go_wp2_with fail
  refine (NX.out _ (tkO_alloc H.out _)).mono ?_
  rintro e w1 ⟨rfl, hg, ht⟩
  rw [← SV.out]
  have hz := hg.size
  simp at hz
  go_wp2_with fail
  refine (number_of b o1 s l HSD.out 1 2 _ ht (by omega) hlen).mono ?_
  rintro e w2 ⟨rfl, hg2, ht2⟩
  obtain ⟨hc, hf⟩ := gcell (gb_trans hg hg2)
  have hz2 := hg2.size
  have hz3 : w.heap.size < w2.heap.size := by omega
  go_wp2
  rw [FV.out, FO.out]
  refine bodyPost_ret (v := .agg #[.int .i64 1, .int .i64 0, .int .i64 ((Sx.num 1 2 l).getD 0)]) (by simp [results, Tryz.results190, go_sem, hc, hz3, hne]) rfl ⟨rfl, ?_, ?_⟩
  ·exact gb_set (gb_set (gb_set (gb_ofAlloc (gb_trans hg hg2)) (.inr (Nat.le_refl _)) _) (.inr (Nat.le_refl _)) _) (.inr (Nat.le_refl _)) _
  ·exact tkO_set (tkO_set (tkO_set ht2 le _) le _) le _
end
section
open Go.RowKit

namespace Sx
def clockV (none_ : Int) (s : Tx.Bs) : Int × Int :=
 match s.getLast? with
 | none => (0, none_)
 | some c => if digB c = true then (spanV s, none_) else (spanV s.dropLast, kindO none_ c)
theorem clockV_eq {a : Int} {s : Tx.Bs} {p : Int × Int} (h : clockO a s = some p) : clockV a s = p := by
 unfold clockO at h; unfold clockV
 cases hq : s.getLast? with
 | none => rw [hq] at h; cases h
 | some c =>
   rw [hq] at h
   simp only at h ⊢
   split
   ·rename_i q
    rw [if_pos q] at h
    cases hs : spanO s with
    | none => rw [hs] at h; cases h
    | some n => rw [hs] at h; rw [spanV_eq hs]; simpa using h
   ·rename_i q
    rw [if_neg q] at h
    split at h
    ·cases hs : spanO s.dropLast with
     | none => rw [hs] at h; cases h
     | some n => rw [hs] at h; rw [spanV_eq hs]; simpa using h
    ·cases h
theorem clock_dig {a : Int} {s : Tx.Bs} {c : UInt8} (h : s.getLast? = some c) (hd : digB c = true) : clockV a s = (spanV s, a) ∧ (clockO a s).isSome = (spanO s).isSome := by
 unfold clockV clockO
 rw [h]; simp only [hd, if_true]
 cases spanO s <;> simp
theorem clock_wsu {a : Int} {s : Tx.Bs} {c : UInt8} (h : s.getLast? = some c) (hd : digB c = false) (hc : c = 117 ∨ c = 115 ∨ c = 119) : clockV a s = (spanV s.dropLast, kindO a c) ∧ (clockO a s).isSome = (spanO s.dropLast).isSome := by
 unfold clockV clockO
 rw [h]; simp only [hd, hc, if_true]
 cases spanO s.dropLast <;> simp
theorem clock_no {a : Int} {s : Tx.Bs} {c : UInt8} (h : s.getLast? = some c) (hd : digB c = false) (hc : ¬ (c = 117 ∨ c = 115 ∨ c = 119)) : clockV a s = (spanV s.dropLast, a) ∧ (clockO a s).isSome = false := by
 unfold clockV clockO
 rw [h]; simp only [hd, hc]
 simp only [not_or] at hc
 simp [kindO, hc.1, hc.2.1, hc.2.2]
theorem clock_nil {a : Int} {s : Tx.Bs} (h : s = []) : clockV a s = (spanV s, a) ∧ (clockO a s).isSome = (spanO s).isSome := by
 subst h; exact ⟨rfl, rfl⟩
/- the kind behind so many looks -/
def kk (a : Int) (c : UInt8) (j : Nat) : Int := if c = 117 ∧ 3 ≤ j then 3 else if c = 115 ∧ 2 ≤ j then 2 else if c = 119 ∧ 1 ≤ j then 1 else a
theorem kk_step (a : Int) (c : UInt8) (j : Nat) (k : UInt8) (hj : j = 0 ∧ k = 119 ∨ j = 1 ∧ k = 115 ∨ j = 2 ∧ k = 117) : kk a c (j + 1) = if c = k then ((j + 1 : Nat) : Int) else kk a c j := by
 unfold kk
 rcases hj with ⟨rfl, rfl⟩ | ⟨rfl, rfl⟩ | ⟨rfl, rfl⟩
 all_goals
  by_cases h1 : c = 117 <;> by_cases h2 : c = 115 <;> by_cases h3 : c = 119 <;> simp_all
theorem kk_bd (a : Int) (c : UInt8) (j : Nat) (ha : a = 1 ∨ a = 2) : 0 ≤ kk a c j ∧ kk a c j ≤ 3 := by
 unfold kk; (repeat' split) <;> omega
theorem kk_end (a : Int) (c : UInt8) : kk a c 3 = kindO a c := by
 unfold kk kindO; simp
end Sx

theorem clocked_any {lim : Nat} (b : Nat) (o : Sx.O) (a : Int) (w : World) (h : TkO w b lim o) (ha : a = 1 ∨ a = 2) :
  Calls Tryz.prog 189 #[.pointer (some ⟨b, 0, none⟩), .int .i64 a] w fun e w' =>
   e = .returned (.tuple #[.int .i64 (Sx.clockV a (Sx.nxS o)).1, .int .i64 (Sx.clockV a (Sx.nxS o)).2]) ∧ w.grownBy w' (some b) ∧ TkO w' b lim (Sx.keep (Sx.clockO a (Sx.nxS o)).isSome (Sx.nxO o)) := by
 have H := hid h
 have hlen := nxS_len h
 obtain ⟨lt, le⟩ := tkO_le h
 obtain ⟨l, hl⟩ : ∃ l, Sx.nxS o = l := ⟨_, rfl⟩
 obtain ⟨o1, ho1⟩ : ∃ o1, Sx.nxO o = o1 := ⟨_, rfl⟩
 have NX := hid (next_any b o w h)
 rw [hl, ho1] at NX
 rw [hl] at hlen ⊢
 rw [ho1]
 clear h hl ho1
 obtain ⟨s, hs⟩ : ∃ s : ByteArray, s.data.toList = l := ⟨⟨l.toArray⟩, by simp⟩
 have SV := hid (str_of_data hs)
 have hsz : s.size = l.length := by rw [← hs]; simp
 have HSD := hid hs
 have hE : s.toList.isEmpty = decide (s.size = 0) := isEmpty_size s
 clear hs
 by_cases h0 : s.size = 0
 ·have hl0 : l = [] := List.length_eq_zero_iff.1 (by omega)
  have C := hid (Sx.clock_nil (a := a) hl0)
  rw [h0] at hE
  simp at hE
  clear hsz h0 hl0
  go_enter Tryz.func189, Tryz.ntmps189
  go_wp2_with fail
  refine NX.out.mono ?_
  rintro e w1 ⟨rfl, hg, ht⟩
  rw [← SV.out]
  go_wp2_with fail
  refine (span_of b o1 s l HSD.out _ ht hlen).mono ?_
  rintro e w2 ⟨rfl, hg2, ht2⟩
  go_wp2
  go_ret2
  rw [C.out.1, C.out.2]
  exact ⟨rfl, gb_trans hg hg2, ht2⟩
 obtain ⟨n, hn⟩ : ∃ n, s.size = n + 1 := ⟨s.size - 1, by omega⟩
 obtain ⟨c, hc⟩ : ∃ c, s[n] = c := ⟨_, rfl⟩
 have HLst : Hid (l.getLast? = some c) := by
  show _ = _
  rw [List.getLast?_eq_getElem?, ← HSD.out]
  have := get_of s n (by omega)
  rw [hc] at this
  rw [size_len, hn]; simpa using this
 have TD := hid (show (s.extract 0 n).data.toList = l.dropLast by rw [head_of, HSD.out, List.dropLast_eq_take, show l.length - 1 = n by omega])
 have hd4 : l.dropLast.length ≤ 24 := by simp; omega
 have hE' : s.toList.isEmpty = false := by rw [hE, hn]; simp
 have hn24 : n ≤ 23 := by omega
 have HN := hid hn
 clear hsz h0 hE
 have t1 : Hid (∀ (k : UInt8) (b : Bool), (c == k) = b → ((c.toNat : Int) == (k.toNat : Int)) = b) := by intro k b q; rw [u8_eq, q]
 have hT1 : (⟨#[63, 119, 115, 117]⟩ : ByteArray)[1].toNat = 119 := rfl
 have hT2 : (⟨#[63, 119, 115, 117]⟩ : ByteArray)[2].toNat = 115 := rfl
 have hT3 : (⟨#[63, 119, 115, 117]⟩ : ByteArray)[3].toNat = 117 := rfl
 go_enter Tryz.func189, Tryz.ntmps189
 go_wp2_with fail
 refine NX.out.mono ?_
 rintro e w1 ⟨rfl, hg, ht⟩
 rw [← SV.out]
 have HT := hid ht
 have HG := hid hg
 clear hg ht
 go_wp2_with fail
 go_loopw [7, 8] (fun x y wr => ∃ k : Nat, k ≤ 3 ∧ y = .int .i64 ((k + 1 : Nat) : Int) ∧ x = .int .i64 (Sx.kk a c k) ∧ Below w1.heap.size w1 wr) (fun _ y _ => 5 - (intOf y).toNat)
 case atStart => exact ⟨0, by omega, rfl, by simp [Sx.kk], Below.refl _ _⟩
 case round =>
  obtain ⟨k, hk, rfl, rfl, hb⟩ := hrel
  match k, hk with
  | 0, _ =>
    have ST := hid (Sx.kk_step a c 0 119 (by simp))
    have kb := Sx.kk_bd a c 0 ha
    obtain ⟨K, hK⟩ : ∃ K, Sx.kk a c 0 = K := ⟨_, rfl⟩
    rw [hK] at kb ST ⊢
    obtain ⟨kb1, kb2⟩ := kb
    clear hK ha
    cases hq : (c == 119)
    ·have e1 := t1.out _ _ hq
     have e2 : ((c.toNat : Int) == 119) = false := e1
     have HR : Hid (K = Sx.kk a c 1) := by show _ = _; rw [ST.out, if_neg (by simpa using hq)]
     clear e1 hq
     go_wp2_with fail
     go_quiet (fail)
     go_wp2
     go_roundw
     case rel => exact ⟨1, by omega, by go_num, by rw [HR.out], below_drewN hb _⟩
     case measure => simp [intOf]
    ·have e1 := t1.out _ _ hq
     have e2 : ((c.toNat : Int) == 119) = true := e1
     have HR : Hid ((1 : Int) = Sx.kk a c 1) := by show _ = _; rw [ST.out, if_pos (by simpa using hq)]; rfl
     clear e1 hq
     go_wp2_with fail
     go_quiet (fail)
     go_wp2
     go_roundw
     case rel => exact ⟨1, by omega, by go_num, by rw [← HR.out]; rfl, below_drewN hb _⟩
     case measure => simp [intOf]
  | 1, _ =>
    have ST := hid (Sx.kk_step a c 1 115 (by simp))
    have kb := Sx.kk_bd a c 1 ha
    obtain ⟨K, hK⟩ : ∃ K, Sx.kk a c 1 = K := ⟨_, rfl⟩
    rw [hK] at kb ST ⊢
    obtain ⟨kb1, kb2⟩ := kb
    clear hK ha
    cases hq : (c == 115)
    ·have e1 := t1.out _ _ hq
     have e2 : ((c.toNat : Int) == 115) = false := e1
     have HR : Hid (K = Sx.kk a c 2) := by show _ = _; rw [ST.out, if_neg (by simpa using hq)]
     clear e1 hq
     go_wp2_with fail
     go_quiet (fail)
     go_wp2
     go_roundw
     case rel => exact ⟨2, by omega, by go_num, by rw [HR.out], below_drewN hb _⟩
     case measure => simp [intOf]
    ·have e1 := t1.out _ _ hq
     have e2 : ((c.toNat : Int) == 115) = true := e1
     have HR : Hid ((2 : Int) = Sx.kk a c 2) := by show _ = _; rw [ST.out, if_pos (by simpa using hq)]; rfl
     clear e1 hq
     go_wp2_with fail
     go_quiet (fail)
     go_wp2
     go_roundw
     case rel => exact ⟨2, by omega, by go_num, by rw [← HR.out]; rfl, below_drewN hb _⟩
     case measure => simp [intOf]
  | 2, _ =>
    have ST := hid (Sx.kk_step a c 2 117 (by simp))
    have kb := Sx.kk_bd a c 2 ha
    obtain ⟨K, hK⟩ : ∃ K, Sx.kk a c 2 = K := ⟨_, rfl⟩
    rw [hK] at kb ST ⊢
    obtain ⟨kb1, kb2⟩ := kb
    clear hK ha
    cases hq : (c == 117)
    ·have e1 := t1.out _ _ hq
     have e2 : ((c.toNat : Int) == 117) = false := e1
     have HR : Hid (K = Sx.kk a c 3) := by show _ = _; rw [ST.out, if_neg (by simpa using hq)]
     clear e1 hq
     go_wp2_with fail
     go_quiet (fail)
     go_wp2
     go_roundw
     case rel => exact ⟨3, by omega, by go_num, by rw [HR.out], below_drewN hb _⟩
     case measure => simp [intOf]
    ·have e1 := t1.out _ _ hq
     have e2 : ((c.toNat : Int) == 117) = true := e1
     have HR : Hid ((3 : Int) = Sx.kk a c 3) := by show _ = _; rw [ST.out, if_pos (by simpa using hq)]; rfl
     clear e1 hq
     go_wp2_with fail
     go_quiet (fail)
     go_wp2
     go_roundw
     case rel => exact ⟨3, by omega, by go_num, by rw [← HR.out]; rfl, below_drewN hb _⟩
     case measure => simp [intOf]
  | 3, _ =>
    rw [Sx.kk_end]
    have HT2 := hid (tkO_below HT.out hb)
    have HG2 := hid (gb_below HG.out hb)
    have DG : Hid (((48 : Int) ≤ (c.toNat : Int) ∧ (c.toNat : Int) ≤ 57) ↔ Sx.digB c = true) := by show _ ↔ _; rw [dig_eq]; simp
    cases hd : Sx.digB c
    case true =>
     have C := hid (Sx.clock_dig (a := a) HLst.out hd)
     have HK : Hid (Sx.kindO a c = a) := by
      have q := DG.out.2 hd
      show _ = _; unfold Sx.kindO
      rw [if_neg (by rintro rfl; simp at q), if_neg (by rintro rfl; simp at q), if_neg (by rintro rfl; simp at q)]
     have HD := hid hd
     clear hd DG
     rw [HK.out]
     go_wp2_with (go_at_call 166; refine (rDigit_is _ _ HD.out).mono ?_; rintro e w3 ⟨rfl, rfl⟩)
     refine (span_of b o1 s l HSD.out _ HT2.out hlen).mono ?_
     rintro e w2 ⟨rfl, hg2, ht2⟩
     go_wp2
     go_ret2
     rw [C.out.1, C.out.2]
     exact ⟨rfl, gb_trans HG2.out hg2, ht2⟩
    case false =>
     have HD := hid hd
     by_cases hw : c = 117 ∨ c = 115 ∨ c = 119
     ·have C := hid (Sx.clock_wsu (a := a) HLst.out hd hw)
      clear hd DG
      have key : ∃ (K v : Int), Hid (Sx.kindO a c = K) ∧ (K = 3 ∧ v = 117 ∨ K = 2 ∧ v = 115 ∨ K = 1 ∧ v = 119) ∧ ((c.toNat : Int) != v) = false := by
       rcases hw with rfl | rfl | rfl
       ·exact ⟨3, 117, rfl, by simp, rfl⟩
       ·exact ⟨2, 115, rfl, by simp, rfl⟩
       ·exact ⟨1, 119, rfl, by simp, rfl⟩
      obtain ⟨K, v, HK, hKv, hne⟩ := key
      clear hw
      rw [HK.out] at C ⊢
      rcases hKv with ⟨rfl, rfl⟩ | ⟨rfl, rfl⟩ | ⟨rfl, rfl⟩
      all_goals
       go_wp2_with (go_at_call 166; refine (rDigit_is _ _ HD.out).mono ?_; rintro e w3 ⟨rfl, rfl⟩)
       go_quiet (fail)
       go_wp2_with fail
       refine (span_of b o1 _ _ TD.out _ (tkO_drewN HT2.out _) hd4).mono ?_
       rintro e w2 ⟨rfl, hg2, ht2⟩
       go_wp2
       go_ret2
       rw [C.out.1, C.out.2]
       exact ⟨rfl, gb_trans (gb_drewN HG2.out _) hg2, ht2⟩
     ·have C := hid (Sx.clock_no (a := a) HLst.out hd hw)
      have HK : Hid (Sx.kindO a c = a) := by
       simp only [not_or] at hw
       show _ = _; unfold Sx.kindO; rw [if_neg hw.1, if_neg hw.2.1, if_neg hw.2.2]
      have n1 : ((c.toNat : Int) != 119) = true := ne_u8 (k := 119) (b := false) (by simp; intro q; exact hw (.inr (.inr q)))
      have n2 : ((c.toNat : Int) != 115) = true := ne_u8 (k := 115) (b := false) (by simp; intro q; exact hw (.inr (.inl q)))
      clear hd DG hw
      rw [HK.out]
      rcases ha with rfl | rfl
      all_goals
       go_wp2_with (go_at_call 166; refine (rDigit_is _ _ HD.out).mono ?_; rintro e w3 ⟨rfl, rfl⟩)
       go_quiet (fail)
       have HT3 := hid (tkO_drewN HT2.out nq)
       obtain ⟨x0, bad, c0, c1, z0, z1, lt1⟩ := tk_cells HT3.out
       go_wp2_with fail
       refine (span_of b none _ _ TD.out _ (tkO_bad HT3.out) hd4).mono ?_
       rintro e w2 ⟨rfl, hg2, ht2⟩
       go_wp2
       go_ret2
       rw [C.out.1, C.out.2]
       rw [Sx.keep_none] at ht2
       exact ⟨rfl, gb_trans (gb_set (gb_drewN HG2.out _) (.inl rfl) _) hg2, ht2⟩
end
section
open Go.RowKit

namespace Sx
/- a field is taken, and must be as is asked -/
def stp (g : Tx.Bs → Bool) (o : O) : O := keep (g (nxS o)) (nxO o)
theorem stp_none (g : Tx.Bs → Bool) : stp g none = none := by simp [stp, nxO, keep_none]
theorem stp_nil (g : Tx.Bs → Bool) : stp g (some []) = none := by simp [stp, nxO, keep_none]
theorem stp_cons (g : Tx.Bs → Bool) (f : Tx.Bs) (r : List Tx.Bs) : stp g (some (f :: r)) = if g f = true then some r else none := rfl
def gNum (a b : Nat) (s : Tx.Bs) : Bool := (num a b s).isSome
def gTo (s : Tx.Bs) : Bool := decide (s = only) || decide (s = maxW) || (num 4 4 s).isSome
def gMonth (s : Tx.Bs) : Bool := (monthO s).isSome
def gForm (s : Tx.Bs) : Bool := (formO s).isSome
def gClock (a : Int) (s : Tx.Bs) : Bool := (clockO a s).isSome
def gSpan (s : Tx.Bs) : Bool := (spanO s).isSome
def gLetter (s : Tx.Bs) : Bool := (letterO s).isSome
def toV (frm : Int) (s : Tx.Bs) : Int := if s = only then frm else if s = maxW then 2100 else (num 4 4 s).getD 0
def letterV (s : Tx.Bs) : Tx.Bs := if s = [45] then [] else s
def r1 (o : O) : O := stp nameB o
def r2 (o : O) : O := stp (gNum 4 4) (r1 o)
def r3 (o : O) : O := stp gTo (r2 o)
def r4 (o : O) : O := stp gMonth (r3 o)
def r5 (o : O) : O := stp gForm (r4 o)
def r6 (o : O) : O := stp (gClock 1) (r5 o)
def r7 (o : O) : O := stp gSpan (r6 o)
def r8 (o : O) : O := stp gLetter (r7 o)
def ruleT (o : O) : Rl :=
 ⟨nxS o, (num 4 4 (nxS (r1 o))).getD 0, toV ((num 4 4 (nxS (r1 o))).getD 0) (nxS (r2 o)), (monthO (nxS (r3 o))).getD 0, (formV (nxS (r4 o))).kind, (formV (nxS (r4 o))).wk, (formV (nxS (r4 o))).n,
  (clockV 1 (nxS (r5 o))).1, (clockV 1 (nxS (r5 o))).2, spanV (nxS (r6 o)), letterV (nxS (r7 o))⟩
theorem toO_some (f : Int) (s : Tx.Bs) : (toO f s).isSome = gTo s := by
 unfold toO gTo
 by_cases h1 : s = only
 ·simp [h1]
 ·by_cases h2 : s = maxW
  ·rw [if_neg h1, if_pos h2]; simp [h2]
  ·simp [h1, h2]
theorem toV_eq {f n : Int} {s : Tx.Bs} (h : toO f s = some n) : toV f s = n := by
 unfold toO at h; unfold toV
 split
 ·rename_i q; rw [if_pos q] at h; simpa using h
 ·rename_i q
  rw [if_neg q] at h
  split
  ·rename_i q2; rw [if_pos q2] at h; simpa using h
  ·rename_i q2; rw [if_neg q2] at h; rw [h]; rfl
theorem letterV_eq {s n : Tx.Bs} (h : letterO s = some n) : letterV s = n := by
 unfold letterO at h; unfold letterV
 split
 ·rename_i q; rw [if_pos q] at h; simpa using h
 ·rename_i q
  rw [if_neg q] at h
  split at h
  ·simpa using h
  ·cases h
theorem nameO_eq {s n : Tx.Bs} (h : nameO s = some n) : s = n ∧ nameB s = true := by
 unfold nameO at h
 split at h
 ·rename_i q; exact ⟨by simpa using h, q⟩
 ·cases h
theorem r_short (o : O) (h : o = none ∨ ∃ fs, o = some fs ∧ fs.length < 8) : r8 o = none := by
 rcases h with rfl | ⟨fs, rfl, h⟩
 ·simp [r8, r7, r6, r5, r4, r3, r2, r1, stp_none]
 ·have aux : ∀ (g : Tx.Bs → Bool) (o : O) (n : Nat), (o = none ∨ ∃ fs, o = some fs ∧ fs.length < n + 1) → (stp g o = none ∨ ∃ fs, stp g o = some fs ∧ fs.length < n) := by
   intro g o n h
   rcases h with rfl | ⟨fs, rfl, h⟩
   ·exact .inl (stp_none g)
   ·cases fs with
    | nil => exact .inl (stp_nil g)
    | cons f r =>
      rw [stp_cons]
      split
      ·exact .inr ⟨r, rfl, by simpa using h⟩
      ·exact .inl rfl
  have := aux gLetter _ 0 (aux gSpan _ 1 (aux (gClock 1) _ 2 (aux gForm _ 3 (aux gMonth _ 4 (aux gTo _ 5 (aux (gNum 4 4) _ 6 (aux nameB (some fs) 7 (.inr ⟨fs, rfl, h⟩))))))))
  rcases this with h | ⟨fs, _, h⟩
  ·exact h
  ·omega
theorem rule_none {fs : List Tx.Bs} (h : ruleO fs = none) : r8 (some fs) = none := by
 match fs, h with
 | a :: b :: c :: d :: e :: f :: g :: k :: rest, h =>
   simp only [ruleO] at h
   by_cases h1 : nameB a = true
   ·rw [show nameO a = some a by simp [nameO, h1]] at h
    simp only [Option.bind_some] at h
    cases h2 : num 4 4 b with
    | none => simp [r8, r7, r6, r5, r4, r3, r2, r1, stp_none, stp_cons, gNum, h1, h2]
    | some frm =>
      rw [h2] at h; simp only [Option.bind_some] at h
      cases h3 : toO frm c with
      | none => have := toO_some frm c; rw [h3] at this; simp [r8, r7, r6, r5, r4, r3, r2, r1, stp_none, stp_cons, gNum, h1, h2, ← this]
      | some till =>
        have t3 := toO_some frm c
        rw [h3] at h t3; simp only [Option.bind_some] at h
        cases h4 : monthO d with
        | none => simp [r8, r7, r6, r5, r4, r3, r2, r1, stp_none, stp_cons, gNum, gMonth, h1, h2, ← t3, h4]
        | some month =>
          rw [h4] at h; simp only [Option.bind_some] at h
          cases h5 : formO e with
          | none => simp [r8, r7, r6, r5, r4, r3, r2, r1, stp_none, stp_cons, gNum, gMonth, gForm, h1, h2, ← t3, h4, h5]
          | some fm =>
            rw [h5] at h; simp only [Option.bind_some] at h
            cases h6 : clockO 1 f with
            | none => simp [r8, r7, r6, r5, r4, r3, r2, r1, stp_none, stp_cons, gNum, gMonth, gForm, gClock, h1, h2, ← t3, h4, h5, h6]
            | some ac =>
              rw [h6] at h; simp only [Option.bind_some] at h
              cases h7 : spanO g with
              | none => simp [r8, r7, r6, r5, r4, r3, r2, r1, stp_none, stp_cons, gNum, gMonth, gForm, gClock, gSpan, h1, h2, ← t3, h4, h5, h6, h7]
              | some save =>
                rw [h7] at h; simp only [Option.bind_some] at h
                cases h8 : letterO k with
                | none => simp [r8, r7, r6, r5, r4, r3, r2, r1, stp_none, stp_cons, gNum, gMonth, gForm, gClock, gSpan, gLetter, h1, h2, ← t3, h4, h5, h6, h7, h8]
                | some letter => rw [h8] at h; cases h
   ·simp at h1
    simp [r8, r7, r6, r5, r4, r3, r2, r1, stp_none, stp_cons, h1]
 | [], _ => exact r_short _ (.inr ⟨_, rfl, by simp⟩)
 | [_], _ => exact r_short _ (.inr ⟨_, rfl, by simp⟩)
 | [_, _], _ => exact r_short _ (.inr ⟨_, rfl, by simp⟩)
 | [_, _, _], _ => exact r_short _ (.inr ⟨_, rfl, by simp⟩)
 | [_, _, _, _], _ => exact r_short _ (.inr ⟨_, rfl, by simp⟩)
 | [_, _, _, _, _], _ => exact r_short _ (.inr ⟨_, rfl, by simp⟩)
 | [_, _, _, _, _, _], _ => exact r_short _ (.inr ⟨_, rfl, by simp⟩)
 | [_, _, _, _, _, _, _], _ => exact r_short _ (.inr ⟨_, rfl, by simp⟩)
theorem rule_some {fs : List Tx.Bs} {p : Rl × List Tx.Bs} (h : ruleO fs = some p) : r8 (some fs) = some p.2 ∧ ruleT (some fs) = p.1 := by
 match fs, h with
 | a :: b :: c :: d :: e :: f :: g :: k :: rest, h =>
   simp only [ruleO, Option.bind_eq_some_iff, Option.map_eq_some_iff] at h
   obtain ⟨name, h1, frm, h2, till, h3, month, h4, fm, h5, ac, h6, save, h7, letter, h8, rfl⟩ := h
   obtain ⟨e1, k1⟩ := nameO_eq h1
   subst e1
   clear h1
   have t3 := toO_some frm c
   rw [h3] at t3
   have v3 := toV_eq h3
   have v5 := formV_eq h5
   have v6 := clockV_eq h6
   have v7 := spanV_eq h7
   have v8 := letterV_eq h8
   constructor
   ·simp [r8, r7, r6, r5, r4, r3, r2, r1, stp_none, stp_cons, gNum, gMonth, gForm, gClock, gSpan, gLetter, k1, h2, ← t3, h4, h5, h6, h7, h8]
   ·simp [ruleT, nxS, r7, r6, r5, r4, r3, r2, r1, stp_none, stp_cons, gNum, gMonth, gForm, gClock, gSpan, gLetter, k1, h2, ← t3, h4, h5, h6, h7, h8, v3, v5, v6, v7, v8]
end Sx
end
end Go.Proofs.YtkhlkohlccndgaaGreat
