/- The contract of the document's Taker's RuleOf. · What the document's Taker's EraOf does, in plain terms. · The contract of the document's Taker's EraOf. · Sources that a call makes: rows of rules, eras, zones, links of its own (OwnSrc); what is kept, and how one more is put behind. · What a line does to what was parsed so far, by how the Taker ends. -/
import Derived.Test.YtkhlkohlccndgaaGreatQz
import Derived.Test.YtkhlkohlccndgaaGreatQad
import Derived.Deep.Cut
import Derived.Deep.CutRange
import Derived.Test.YtkhlkohlccndgaaGreatQaa
import Derived.Maps.AppendAt
import Derived.Laws.OwnMore
import Derived.OneCell
set_option linter.unusedVariables false
set_option linter.unusedSimpArgs false
set_option maxRecDepth 100000
set_option maxHeartbeats 16000000
namespace Go.Proofs.YtkhlkohlccndgaaGreat
section
open Go.RowKit

def rule0 : List Value := [.string ⟨#[]⟩, .int .i64 0, .int .i64 0, .int .i64 0, .int .i64 0, .int .i64 0, .int .i64 0, .int .i64 0, .int .i64 0, .int .i64 0, .string ⟨#[]⟩]
theorem ruleOf_any {lim : Nat} (b : Nat) (o : Sx.O) (w : World) (h : TkO w b lim o) :
  Calls Tryz.prog 148 #[.pointer (some ⟨b, 0, none⟩)] w fun e w' =>
   e = .returned (ruleV (Sx.ruleT o)) ∧ w.grownBy w' (some b) ∧ TkO w' b lim (Sx.r8 o) := by
 obtain ⟨lt, le⟩ := tkO_le h
 have T0 := hid (tkO_alloc (tkO_alloc h (.cells rule0.toArray 40)) (.cells rule0.toArray 40))
 have R0 := hid (ca_alloc (ca_new w rule0 40) (.cells rule0.toArray 40))
 have X0 : Hid (CellsAt ((w.alloc (.cells rule0.toArray 40)).alloc (.cells rule0.toArray 40)) (w.heap.size + 1) rule0) := by
  have := ca_new (w.alloc (.cells rule0.toArray 40)) rule0 40
  rw [show (w.alloc (.cells rule0.toArray 40)).heap.size = w.heap.size + 1 by simp] at this
  exact this
 have hne : ¬ w.heap.size = b := by omega
 have hne1 : ¬ w.heap.size + 1 = b := by omega
 have le1 : lim ≤ w.heap.size + 1 := by omega
 have hX : ¬ w.heap.size = w.heap.size + 1 := by omega
 clear h
 go_enter Tryz.func148, Tryz.ntmps148
 go_wp2_with fail
 -- name
 refine (name_any b o _ T0.out).mono ?_
 rintro e w1 ⟨rfl, g1, t1⟩
 have GA := hid (gb_ofAlloc (gb_ofAlloc g1))
 have T1 : Hid (TkO w1 b lim (Sx.r1 o)) := t1
 have R1 := hid (ca_grown R0.out g1 hne)
 have X1 := hid (ca_grown X0.out g1 hne1)
 clear T0 R0 X0 g1 t1
 obtain ⟨k0, z0⟩ := ca_at X1.out 0 rfl
 have sz := X1.out.1
 go_wp2_with fail
 clear k0 z0 sz
 have X2 := hid (ca_put (X1.out) 0 (strV (Sx.nxS o)) (by simp [rule0]))
 have R2 := hid (ca_far (o := 0) (u := strV (Sx.nxS o)) (R1.out) hX)
 have T2 := hid (tkO_put (o := 0) (u := strV (Sx.nxS o)) (T1.out) le1)
 have GB := hid (gb_put (o := 0) (u := strV (Sx.nxS o)) (GA.out) (Nat.le_succ _))
 clear X1 R1 T1 GA
 have n2 := nxS_len T2.out
 refine (next_any b _ _ T2.out).mono ?_
 rintro e w2 ⟨rfl, g1, t1⟩
 have GA := hid (gb_trans GB.out g1)
 have T1 : Hid (TkO w2 b lim (Sx.nxO (Sx.r1 o))) := t1
 have R1 := hid (ca_grown R2.out g1 hne)
 have X1 := hid (ca_grown X2.out g1 hne1)
 clear X2 R2 T2 GB g1 t1
 go_wp2_with fail
 have X2 := X1
 have R2 := R1
 have T2 := T1
 have GB := GA
 clear X1 R1 T1 GA
 refine (number_str b _ _ 4 4 _ T2.out (by omega) n2).mono ?_
 rintro e w3 ⟨rfl, g1, t1⟩
 have GA := hid (gb_trans GB.out g1)
 have T1 : Hid (TkO w3 b lim (Sx.r2 o)) := t1
 have R1 := hid (ca_grown R2.out g1 hne)
 have X1 := hid (ca_grown X2.out g1 hne1)
 clear X2 R2 T2 GB g1 t1
 clear n2
 obtain ⟨k1, z1⟩ := ca_at X1.out 1 rfl
 have sz := X1.out.1
 go_wp2_with fail
 clear sz k1 z1
 have X2 := hid (ca_put (X1.out) 1 (.int .i64 ((Sx.num 4 4 (Sx.nxS (Sx.r1 o))).getD 0)) (by simp [rule0]))
 have R2 := hid (ca_far (o := 1) (u := .int .i64 ((Sx.num 4 4 (Sx.nxS (Sx.r1 o))).getD 0)) (R1.out) hX)
 have T2 := hid (tkO_put (o := 1) (u := .int .i64 ((Sx.num 4 4 (Sx.nxS (Sx.r1 o))).getD 0)) (T1.out) le1)
 have GB := hid (gb_put (o := 1) (u := .int .i64 ((Sx.num 4 4 (Sx.nxS (Sx.r1 o))).getD 0)) (GA.out) (Nat.le_succ _))
 clear X1 R1 T1 GA
 have n2 := nxS_len T2.out
 refine (next_any b _ _ T2.out).mono ?_
 rintro e w4 ⟨rfl, g1, t1⟩
 have GA := hid (gb_trans GB.out g1)
 have T1 : Hid (TkO w4 b lim (Sx.nxO (Sx.r2 o))) := t1
 have R1 := hid (ca_grown R2.out g1 hne)
 have X1 := hid (ca_grown X2.out g1 hne1)
 clear X2 R2 T2 GB g1 t1
 obtain ⟨F, hF⟩ : ∃ F, ((Sx.num 4 4 (Sx.nxS (Sx.r1 o))).getD 0) = F := ⟨_, rfl⟩
 obtain ⟨l3, hl3⟩ : ∃ l3, Sx.nxS (Sx.r2 o) = l3 := ⟨_, rfl⟩
 have R3 : Hid (Sx.r3 o = Sx.keep (Sx.gTo l3) (Sx.nxO (Sx.r2 o))) := by show _ = _; rw [← hl3]; rfl
 rw [hl3] at n2 ⊢
 have TV : Hid (Sx.toV F l3 = if l3 = Sx.only then F else if l3 = Sx.maxW then 2100 else (Sx.num 4 4 l3).getD 0) := rfl
 have HF := hid hF
 have HL3 := hid hl3
 rw [hF] at X1 ⊢
 clear hF hl3
 by_cases c1 : l3 = Sx.only
 ·have q1 : (l3 == [111, 110, 108, 121]) = true := by simp [c1, Sx.only]
  have TV' : Hid (Sx.toV F l3 = F) := by show _ = _; rw [TV.out, if_pos c1]
  have R3' : Hid (Sx.r3 o = Sx.nxO (Sx.r2 o)) := by show _ = _; rw [R3.out, c1]; rfl
  clear c1
  obtain ⟨k1, z1⟩ := ca_at X1.out 1 rfl
  obtain ⟨k2, z2⟩ := ca_at X1.out 2 rfl
  have sz := X1.out.1
  go_wp2_with fail
  clear sz k1 z1 k2 z2
  have X2 := hid (ca_put (X1.out) 2 (.int .i64 F) (by simp [rule0]))
  have R2 := hid (ca_far (o := 2) (u := .int .i64 F) (R1.out) hX)
  have T2 := hid (tkO_put (o := 2) (u := .int .i64 F) (T1.out) le1)
  have GB := hid (gb_put (o := 2) (u := .int .i64 F) (GA.out) (Nat.le_succ _))
  clear X1 R1 T1 GA
  rw [← R3'.out] at T2
  clear n2 R3 TV R3'
  go_wp2_with fail
  refine (month_any b _ _ T2.out).mono ?_
  rintro e w6 ⟨rfl, g1, t1⟩
  have GA := hid (gb_trans GB.out g1)
  have T1 : Hid (TkO w6 b lim (Sx.r4 o)) := t1
  have R1 := hid (ca_grown R2.out g1 hne)
  have X1 := hid (ca_grown X2.out g1 hne1)
  clear X2 R2 T2 GB g1 t1
  obtain ⟨k3, z3⟩ := ca_at X1.out 3 rfl
  have sz := X1.out.1
  go_wp2_with fail
  clear sz k3 z3
  have X2 := hid (ca_put (X1.out) 3 (.int .i64 ((Sx.monthO (Sx.nxS (Sx.r3 o))).getD 0)) (by simp [rule0]))
  have R2 := hid (ca_far (o := 3) (u := .int .i64 ((Sx.monthO (Sx.nxS (Sx.r3 o))).getD 0)) (R1.out) hX)
  have T2 := hid (tkO_put (o := 3) (u := .int .i64 ((Sx.monthO (Sx.nxS (Sx.r3 o))).getD 0)) (T1.out) le1)
  have GB := hid (gb_put (o := 3) (u := .int .i64 ((Sx.monthO (Sx.nxS (Sx.r3 o))).getD 0)) (GA.out) (Nat.le_succ _))
  clear X1 R1 T1 GA
  refine (form_any b _ _ T2.out).mono ?_
  rintro e w7 ⟨rfl, g1, t1⟩
  have GA := hid (gb_trans GB.out g1)
  have T1 : Hid (TkO w7 b lim (Sx.r5 o)) := t1
  have R1 := hid (ca_grown R2.out g1 hne)
  have X1 := hid (ca_grown X2.out g1 hne1)
  clear X2 R2 T2 GB g1 t1
  obtain ⟨k4, z4⟩ := ca_at X1.out 4 rfl
  obtain ⟨k5, z5⟩ := ca_at X1.out 5 rfl
  obtain ⟨k6, z6⟩ := ca_at X1.out 6 rfl
  have sz := X1.out.1
  go_wp2_with fail
  clear sz k4 z4 k5 z5 k6 z6
  have X2 := hid (ca_put (ca_put (ca_put (X1.out) 4 (.int .i64 (Sx.formV (Sx.nxS (Sx.r4 o))).kind) (by simp [rule0])) 5 (.int .i64 (Sx.formV (Sx.nxS (Sx.r4 o))).wk) (by simp [rule0])) 6 (.int .i64 (Sx.formV (Sx.nxS (Sx.r4 o))).n) (by simp [rule0]))
  have R2 := hid (ca_far (o := 6) (u := .int .i64 (Sx.formV (Sx.nxS (Sx.r4 o))).n) (ca_far (o := 5) (u := .int .i64 (Sx.formV (Sx.nxS (Sx.r4 o))).wk) (ca_far (o := 4) (u := .int .i64 (Sx.formV (Sx.nxS (Sx.r4 o))).kind) (R1.out) hX) hX) hX)
  have T2 := hid (tkO_put (o := 6) (u := .int .i64 (Sx.formV (Sx.nxS (Sx.r4 o))).n) (tkO_put (o := 5) (u := .int .i64 (Sx.formV (Sx.nxS (Sx.r4 o))).wk) (tkO_put (o := 4) (u := .int .i64 (Sx.formV (Sx.nxS (Sx.r4 o))).kind) (T1.out) le1) le1) le1)
  have GB := hid (gb_put (o := 6) (u := .int .i64 (Sx.formV (Sx.nxS (Sx.r4 o))).n) (gb_put (o := 5) (u := .int .i64 (Sx.formV (Sx.nxS (Sx.r4 o))).wk) (gb_put (o := 4) (u := .int .i64 (Sx.formV (Sx.nxS (Sx.r4 o))).kind) (GA.out) (Nat.le_succ _)) (Nat.le_succ _)) (Nat.le_succ _))
  clear X1 R1 T1 GA
  refine (clocked_any b _ 1 _ T2.out (.inl rfl)).mono ?_
  rintro e w8 ⟨rfl, g1, t1⟩
  have GA := hid (gb_trans GB.out g1)
  have T1 : Hid (TkO w8 b lim (Sx.r6 o)) := t1
  have R1 := hid (ca_grown R2.out g1 hne)
  have X1 := hid (ca_grown X2.out g1 hne1)
  clear X2 R2 T2 GB g1 t1
  obtain ⟨k7, z7⟩ := ca_at X1.out 7 rfl
  obtain ⟨k8, z8⟩ := ca_at X1.out 8 rfl
  have sz := X1.out.1
  go_wp2_with fail
  clear sz k7 z7 k8 z8
  have X2 := hid (ca_put (ca_put (X1.out) 7 (.int .i64 (Sx.clockV 1 (Sx.nxS (Sx.r5 o))).1) (by simp [rule0])) 8 (.int .i64 (Sx.clockV 1 (Sx.nxS (Sx.r5 o))).2) (by simp [rule0]))
  have R2 := hid (ca_far (o := 8) (u := .int .i64 (Sx.clockV 1 (Sx.nxS (Sx.r5 o))).2) (ca_far (o := 7) (u := .int .i64 (Sx.clockV 1 (Sx.nxS (Sx.r5 o))).1) (R1.out) hX) hX)
  have T2 := hid (tkO_put (o := 8) (u := .int .i64 (Sx.clockV 1 (Sx.nxS (Sx.r5 o))).2) (tkO_put (o := 7) (u := .int .i64 (Sx.clockV 1 (Sx.nxS (Sx.r5 o))).1) (T1.out) le1) le1)
  have GB := hid (gb_put (o := 8) (u := .int .i64 (Sx.clockV 1 (Sx.nxS (Sx.r5 o))).2) (gb_put (o := 7) (u := .int .i64 (Sx.clockV 1 (Sx.nxS (Sx.r5 o))).1) (GA.out) (Nat.le_succ _)) (Nat.le_succ _))
  clear X1 R1 T1 GA
  have n2 := nxS_len T2.out
  refine (next_any b _ _ T2.out).mono ?_
  rintro e w9 ⟨rfl, g1, t1⟩
  have GA := hid (gb_trans GB.out g1)
  have T1 : Hid (TkO w9 b lim (Sx.nxO (Sx.r6 o))) := t1
  have R1 := hid (ca_grown R2.out g1 hne)
  have X1 := hid (ca_grown X2.out g1 hne1)
  clear X2 R2 T2 GB g1 t1
  go_wp2_with fail
  have X2 := X1
  have R2 := R1
  have T2 := T1
  have GB := GA
  clear X1 R1 T1 GA
  refine (span_str b _ _ _ T2.out n2).mono ?_
  rintro e w10 ⟨rfl, g1, t1⟩
  have GA := hid (gb_trans GB.out g1)
  have T1 : Hid (TkO w10 b lim (Sx.r7 o)) := t1
  have R1 := hid (ca_grown R2.out g1 hne)
  have X1 := hid (ca_grown X2.out g1 hne1)
  clear X2 R2 T2 GB g1 t1
  clear n2
  obtain ⟨k9, z9⟩ := ca_at X1.out 9 rfl
  have sz := X1.out.1
  go_wp2_with fail
  clear sz k9 z9
  have X2 := hid (ca_put (X1.out) 9 (.int .i64 (Sx.spanV (Sx.nxS (Sx.r6 o)))) (by simp [rule0]))
  have R2 := hid (ca_far (o := 9) (u := .int .i64 (Sx.spanV (Sx.nxS (Sx.r6 o)))) (R1.out) hX)
  have T2 := hid (tkO_put (o := 9) (u := .int .i64 (Sx.spanV (Sx.nxS (Sx.r6 o)))) (T1.out) le1)
  have GB := hid (gb_put (o := 9) (u := .int .i64 (Sx.spanV (Sx.nxS (Sx.r6 o)))) (GA.out) (Nat.le_succ _))
  clear X1 R1 T1 GA
  have n2 := nxS_len T2.out
  refine (next_any b _ _ T2.out).mono ?_
  rintro e w11 ⟨rfl, g1, t1⟩
  have GA := hid (gb_trans GB.out g1)
  have T1 : Hid (TkO w11 b lim (Sx.nxO (Sx.r7 o))) := t1
  have R1 := hid (ca_grown R2.out g1 hne)
  have X1 := hid (ca_grown X2.out g1 hne1)
  clear X2 R2 T2 GB g1 t1
  obtain ⟨l8, hl8⟩ : ∃ l8, Sx.nxS (Sx.r7 o) = l8 := ⟨_, rfl⟩
  have R8 : Hid (Sx.r8 o = Sx.keep (Sx.gLetter l8) (Sx.nxO (Sx.r7 o))) := by show _ = _; rw [← hl8]; rfl
  have RT : Hid (Sx.ruleT o = ⟨Sx.nxS o, F, Sx.toV F l3, (Sx.monthO (Sx.nxS (Sx.r3 o))).getD 0, (Sx.formV (Sx.nxS (Sx.r4 o))).kind, (Sx.formV (Sx.nxS (Sx.r4 o))).wk, (Sx.formV (Sx.nxS (Sx.r4 o))).n, (Sx.clockV 1 (Sx.nxS (Sx.r5 o))).1, (Sx.clockV 1 (Sx.nxS (Sx.r5 o))).2, Sx.spanV (Sx.nxS (Sx.r6 o)), Sx.letterV l8⟩) := by show _ = _; rw [← hl8, ← HF.out, ← HL3.out]; rfl
  rw [hl8] at n2 ⊢
  clear hl8 HF HL3
  obtain ⟨tx, bad, b0, b1, y0, y1, blt⟩ := tk_cells T1.out
  have sz := X1.out.1
  have sr := R1.out.1
  obtain ⟨k0, z0⟩ := ca_at X1.out 0 rfl
  obtain ⟨k1, z1⟩ := ca_at X1.out 1 rfl
  obtain ⟨k2, z2⟩ := ca_at X1.out 2 rfl
  obtain ⟨k3, z3⟩ := ca_at X1.out 3 rfl
  obtain ⟨k4, z4⟩ := ca_at X1.out 4 rfl
  obtain ⟨k5, z5⟩ := ca_at X1.out 5 rfl
  obtain ⟨k6, z6⟩ := ca_at X1.out 6 rfl
  obtain ⟨k7, z7⟩ := ca_at X1.out 7 rfl
  obtain ⟨k8, z8⟩ := ca_at X1.out 8 rfl
  obtain ⟨k9, z9⟩ := ca_at X1.out 9 rfl
  obtain ⟨k10, z10⟩ := ca_at X1.out 10 rfl
  obtain ⟨p0, v0⟩ := ca_at R1.out 0 rfl
  obtain ⟨p1, v1⟩ := ca_at R1.out 1 rfl
  obtain ⟨p2, v2⟩ := ca_at R1.out 2 rfl
  obtain ⟨p3, v3⟩ := ca_at R1.out 3 rfl
  obtain ⟨p4, v4⟩ := ca_at R1.out 4 rfl
  obtain ⟨p5, v5⟩ := ca_at R1.out 5 rfl
  obtain ⟨p6, v6⟩ := ca_at R1.out 6 rfl
  obtain ⟨p7, v7⟩ := ca_at R1.out 7 rfl
  obtain ⟨p8, v8⟩ := ca_at R1.out 8 rfl
  obtain ⟨p9, v9⟩ := ca_at R1.out 9 rfl
  obtain ⟨p10, v10⟩ := ca_at R1.out 10 rfl
  have hX' : ¬ w.heap.size + 1 = w.heap.size := by omega
  have hbX : ¬ b = w.heap.size + 1 := by omega
  have hbR : ¬ b = w.heap.size := by omega
  by_cases c0 : l8 = []
  ·have q0 : l8.isEmpty = true := by rw [c0]; rfl
   have q1 : (l8 == [45]) = false := by rw [c0]; rfl
   have LV : Sx.letterV l8 = l8 := by rw [c0]; rfl
   have R8' : Hid (Sx.r8 o = none) := by show _ = _; rw [R8.out, c0]; rfl
   clear c0
   go_wp2
   rw [RT.out]
   refine bodyPost_ret (v := ruleV ⟨Sx.nxS o, F, Sx.toV F l3, (Sx.monthO (Sx.nxS (Sx.r3 o))).getD 0, (Sx.formV (Sx.nxS (Sx.r4 o))).kind, (Sx.formV (Sx.nxS (Sx.r4 o))).wk, (Sx.formV (Sx.nxS (Sx.r4 o))).n, (Sx.clockV 1 (Sx.nxS (Sx.r5 o))).1, (Sx.clockV 1 (Sx.nxS (Sx.r5 o))).2, Sx.spanV (Sx.nxS (Sx.r6 o)), Sx.letterV l8⟩) (by simp [results, Tryz.results148, go_sem, LV, TV'.out, *]) rfl ⟨rfl, ?_, ?_⟩
   ·repeat (refine gb_put ?_ (by omega))
    exact gb_set GA.out (.inl rfl) _
   ·rw [R8'.out]
    repeat (refine tkO_put ?_ (by omega))
    exact tkO_bad T1.out
  have q0 : l8.isEmpty = false := by cases l8 with | nil => exact absurd rfl c0 | cons _ _ => rfl
  by_cases c1 : l8 = [45]
  ·have q1 : (l8 == [45]) = true := by simp [c1]
   have LV : Sx.letterV l8 = [] := by rw [c1]; rfl
   have R8' : Hid (Sx.r8 o = Sx.nxO (Sx.r7 o)) := by show _ = _; rw [R8.out, c1]; rfl
   clear c0 c1
   go_wp2
   rw [RT.out]
   refine bodyPost_ret (v := ruleV ⟨Sx.nxS o, F, Sx.toV F l3, (Sx.monthO (Sx.nxS (Sx.r3 o))).getD 0, (Sx.formV (Sx.nxS (Sx.r4 o))).kind, (Sx.formV (Sx.nxS (Sx.r4 o))).wk, (Sx.formV (Sx.nxS (Sx.r4 o))).n, (Sx.clockV 1 (Sx.nxS (Sx.r5 o))).1, (Sx.clockV 1 (Sx.nxS (Sx.r5 o))).2, Sx.spanV (Sx.nxS (Sx.r6 o)), Sx.letterV l8⟩) (by simp [results, Tryz.results148, go_sem, LV, TV'.out, *]) rfl ⟨rfl, ?_, ?_⟩
   ·repeat (refine gb_put ?_ (by omega))
    exact GA.out
   ·rw [R8'.out]
    repeat (refine tkO_put ?_ (by omega))
    exact T1.out
  have q1 : (l8 == [45]) = false := by simpa using c1
  have LV : Sx.letterV l8 = l8 := by rw [Sx.letterV, if_neg c1]
  cases hL : Sx.lettersB l8
  ·have R8' : Hid (Sx.r8 o = none) := by show _ = _; rw [R8.out, Sx.gLetter, Sx.letterO, if_neg c1, if_neg (by simp [hL])]; rfl
   have HL := hid hL
   clear c0 c1 hL
   go_wp2_with (go_at_call 164; refine (rLetters_str _ _ n2 HL.out).mono ?_; rintro e w12 ⟨rfl, rfl⟩)
   rw [RT.out]
   refine bodyPost_ret (v := ruleV ⟨Sx.nxS o, F, Sx.toV F l3, (Sx.monthO (Sx.nxS (Sx.r3 o))).getD 0, (Sx.formV (Sx.nxS (Sx.r4 o))).kind, (Sx.formV (Sx.nxS (Sx.r4 o))).wk, (Sx.formV (Sx.nxS (Sx.r4 o))).n, (Sx.clockV 1 (Sx.nxS (Sx.r5 o))).1, (Sx.clockV 1 (Sx.nxS (Sx.r5 o))).2, Sx.spanV (Sx.nxS (Sx.r6 o)), Sx.letterV l8⟩) (by simp [results, Tryz.results148, go_sem, LV, TV'.out, *]) rfl ⟨rfl, ?_, ?_⟩
   ·repeat (refine gb_put ?_ (by omega))
    exact gb_set GA.out (.inl rfl) _
   ·rw [R8'.out]
    repeat (refine tkO_put ?_ (by omega))
    exact tkO_bad T1.out
  ·have R8' : Hid (Sx.r8 o = Sx.nxO (Sx.r7 o)) := by show _ = _; rw [R8.out, Sx.gLetter, Sx.letterO, if_neg c1, if_pos ⟨c0, hL⟩]; rfl
   have HL := hid hL
   clear c0 c1 hL
   go_wp2_with (go_at_call 164; refine (rLetters_str _ _ n2 HL.out).mono ?_; rintro e w12 ⟨rfl, rfl⟩)
   rw [RT.out]
   refine bodyPost_ret (v := ruleV ⟨Sx.nxS o, F, Sx.toV F l3, (Sx.monthO (Sx.nxS (Sx.r3 o))).getD 0, (Sx.formV (Sx.nxS (Sx.r4 o))).kind, (Sx.formV (Sx.nxS (Sx.r4 o))).wk, (Sx.formV (Sx.nxS (Sx.r4 o))).n, (Sx.clockV 1 (Sx.nxS (Sx.r5 o))).1, (Sx.clockV 1 (Sx.nxS (Sx.r5 o))).2, Sx.spanV (Sx.nxS (Sx.r6 o)), Sx.letterV l8⟩) (by simp [results, Tryz.results148, go_sem, LV, TV'.out, *]) rfl ⟨rfl, ?_, ?_⟩
   ·repeat (refine gb_put ?_ (by omega))
    exact GA.out
   ·rw [R8'.out]
    repeat (refine tkO_put ?_ (by omega))
    exact T1.out
 have q1 : (l3 == [111, 110, 108, 121]) = false := by simpa [Sx.only] using c1
 by_cases c2 : l3 = Sx.maxW
 ·have q2 : (l3 == [109, 97, 120]) = true := by simp [c2, Sx.maxW]
  have TV' : Hid (Sx.toV F l3 = 2100) := by show _ = _; rw [TV.out, if_neg c1, if_pos c2]
  have R3' : Hid (Sx.r3 o = Sx.nxO (Sx.r2 o)) := by show _ = _; rw [R3.out, c2]; rfl
  clear c1 c2
  obtain ⟨k2, z2⟩ := ca_at X1.out 2 rfl
  have sz := X1.out.1
  go_wp2_with fail
  clear sz k2 z2
  have X2 := hid (ca_put (X1.out) 2 (.int .i64 2100) (by simp [rule0]))
  have R2 := hid (ca_far (o := 2) (u := .int .i64 2100) (R1.out) hX)
  have T2 := hid (tkO_put (o := 2) (u := .int .i64 2100) (T1.out) le1)
  have GB := hid (gb_put (o := 2) (u := .int .i64 2100) (GA.out) (Nat.le_succ _))
  clear X1 R1 T1 GA
  rw [← R3'.out] at T2
  clear n2 R3 TV R3'
  go_wp2_with fail
  refine (month_any b _ _ T2.out).mono ?_
  rintro e w6 ⟨rfl, g1, t1⟩
  have GA := hid (gb_trans GB.out g1)
  have T1 : Hid (TkO w6 b lim (Sx.r4 o)) := t1
  have R1 := hid (ca_grown R2.out g1 hne)
  have X1 := hid (ca_grown X2.out g1 hne1)
  clear X2 R2 T2 GB g1 t1
  obtain ⟨k3, z3⟩ := ca_at X1.out 3 rfl
  have sz := X1.out.1
  go_wp2_with fail
  clear sz k3 z3
  have X2 := hid (ca_put (X1.out) 3 (.int .i64 ((Sx.monthO (Sx.nxS (Sx.r3 o))).getD 0)) (by simp [rule0]))
  have R2 := hid (ca_far (o := 3) (u := .int .i64 ((Sx.monthO (Sx.nxS (Sx.r3 o))).getD 0)) (R1.out) hX)
  have T2 := hid (tkO_put (o := 3) (u := .int .i64 ((Sx.monthO (Sx.nxS (Sx.r3 o))).getD 0)) (T1.out) le1)
  have GB := hid (gb_put (o := 3) (u := .int .i64 ((Sx.monthO (Sx.nxS (Sx.r3 o))).getD 0)) (GA.out) (Nat.le_succ _))
  clear X1 R1 T1 GA
  refine (form_any b _ _ T2.out).mono ?_
  rintro e w7 ⟨rfl, g1, t1⟩
  have GA := hid (gb_trans GB.out g1)
  have T1 : Hid (TkO w7 b lim (Sx.r5 o)) := t1
  have R1 := hid (ca_grown R2.out g1 hne)
  have X1 := hid (ca_grown X2.out g1 hne1)
  clear X2 R2 T2 GB g1 t1
  obtain ⟨k4, z4⟩ := ca_at X1.out 4 rfl
  obtain ⟨k5, z5⟩ := ca_at X1.out 5 rfl
  obtain ⟨k6, z6⟩ := ca_at X1.out 6 rfl
  have sz := X1.out.1
  go_wp2_with fail
  clear sz k4 z4 k5 z5 k6 z6
  have X2 := hid (ca_put (ca_put (ca_put (X1.out) 4 (.int .i64 (Sx.formV (Sx.nxS (Sx.r4 o))).kind) (by simp [rule0])) 5 (.int .i64 (Sx.formV (Sx.nxS (Sx.r4 o))).wk) (by simp [rule0])) 6 (.int .i64 (Sx.formV (Sx.nxS (Sx.r4 o))).n) (by simp [rule0]))
  have R2 := hid (ca_far (o := 6) (u := .int .i64 (Sx.formV (Sx.nxS (Sx.r4 o))).n) (ca_far (o := 5) (u := .int .i64 (Sx.formV (Sx.nxS (Sx.r4 o))).wk) (ca_far (o := 4) (u := .int .i64 (Sx.formV (Sx.nxS (Sx.r4 o))).kind) (R1.out) hX) hX) hX)
  have T2 := hid (tkO_put (o := 6) (u := .int .i64 (Sx.formV (Sx.nxS (Sx.r4 o))).n) (tkO_put (o := 5) (u := .int .i64 (Sx.formV (Sx.nxS (Sx.r4 o))).wk) (tkO_put (o := 4) (u := .int .i64 (Sx.formV (Sx.nxS (Sx.r4 o))).kind) (T1.out) le1) le1) le1)
  have GB := hid (gb_put (o := 6) (u := .int .i64 (Sx.formV (Sx.nxS (Sx.r4 o))).n) (gb_put (o := 5) (u := .int .i64 (Sx.formV (Sx.nxS (Sx.r4 o))).wk) (gb_put (o := 4) (u := .int .i64 (Sx.formV (Sx.nxS (Sx.r4 o))).kind) (GA.out) (Nat.le_succ _)) (Nat.le_succ _)) (Nat.le_succ _))
  clear X1 R1 T1 GA
  refine (clocked_any b _ 1 _ T2.out (.inl rfl)).mono ?_
  rintro e w8 ⟨rfl, g1, t1⟩
  have GA := hid (gb_trans GB.out g1)
  have T1 : Hid (TkO w8 b lim (Sx.r6 o)) := t1
  have R1 := hid (ca_grown R2.out g1 hne)
  have X1 := hid (ca_grown X2.out g1 hne1)
  clear X2 R2 T2 GB g1 t1
  obtain ⟨k7, z7⟩ := ca_at X1.out 7 rfl
  obtain ⟨k8, z8⟩ := ca_at X1.out 8 rfl
  have sz := X1.out.1
  go_wp2_with fail
  clear sz k7 z7 k8 z8
  have X2 := hid (ca_put (ca_put (X1.out) 7 (.int .i64 (Sx.clockV 1 (Sx.nxS (Sx.r5 o))).1) (by simp [rule0])) 8 (.int .i64 (Sx.clockV 1 (Sx.nxS (Sx.r5 o))).2) (by simp [rule0]))
  have R2 := hid (ca_far (o := 8) (u := .int .i64 (Sx.clockV 1 (Sx.nxS (Sx.r5 o))).2) (ca_far (o := 7) (u := .int .i64 (Sx.clockV 1 (Sx.nxS (Sx.r5 o))).1) (R1.out) hX) hX)
  have T2 := hid (tkO_put (o := 8) (u := .int .i64 (Sx.clockV 1 (Sx.nxS (Sx.r5 o))).2) (tkO_put (o := 7) (u := .int .i64 (Sx.clockV 1 (Sx.nxS (Sx.r5 o))).1) (T1.out) le1) le1)
  have GB := hid (gb_put (o := 8) (u := .int .i64 (Sx.clockV 1 (Sx.nxS (Sx.r5 o))).2) (gb_put (o := 7) (u := .int .i64 (Sx.clockV 1 (Sx.nxS (Sx.r5 o))).1) (GA.out) (Nat.le_succ _)) (Nat.le_succ _))
  clear X1 R1 T1 GA
  have n2 := nxS_len T2.out
  refine (next_any b _ _ T2.out).mono ?_
  rintro e w9 ⟨rfl, g1, t1⟩
  have GA := hid (gb_trans GB.out g1)
  have T1 : Hid (TkO w9 b lim (Sx.nxO (Sx.r6 o))) := t1
  have R1 := hid (ca_grown R2.out g1 hne)
  have X1 := hid (ca_grown X2.out g1 hne1)
  clear X2 R2 T2 GB g1 t1
  go_wp2_with fail
  have X2 := X1
  have R2 := R1
  have T2 := T1
  have GB := GA
  clear X1 R1 T1 GA
  refine (span_str b _ _ _ T2.out n2).mono ?_
  rintro e w10 ⟨rfl, g1, t1⟩
  have GA := hid (gb_trans GB.out g1)
  have T1 : Hid (TkO w10 b lim (Sx.r7 o)) := t1
  have R1 := hid (ca_grown R2.out g1 hne)
  have X1 := hid (ca_grown X2.out g1 hne1)
  clear X2 R2 T2 GB g1 t1
  clear n2
  obtain ⟨k9, z9⟩ := ca_at X1.out 9 rfl
  have sz := X1.out.1
  go_wp2_with fail
  clear sz k9 z9
  have X2 := hid (ca_put (X1.out) 9 (.int .i64 (Sx.spanV (Sx.nxS (Sx.r6 o)))) (by simp [rule0]))
  have R2 := hid (ca_far (o := 9) (u := .int .i64 (Sx.spanV (Sx.nxS (Sx.r6 o)))) (R1.out) hX)
  have T2 := hid (tkO_put (o := 9) (u := .int .i64 (Sx.spanV (Sx.nxS (Sx.r6 o)))) (T1.out) le1)
  have GB := hid (gb_put (o := 9) (u := .int .i64 (Sx.spanV (Sx.nxS (Sx.r6 o)))) (GA.out) (Nat.le_succ _))
  clear X1 R1 T1 GA
  have n2 := nxS_len T2.out
  refine (next_any b _ _ T2.out).mono ?_
  rintro e w11 ⟨rfl, g1, t1⟩
  have GA := hid (gb_trans GB.out g1)
  have T1 : Hid (TkO w11 b lim (Sx.nxO (Sx.r7 o))) := t1
  have R1 := hid (ca_grown R2.out g1 hne)
  have X1 := hid (ca_grown X2.out g1 hne1)
  clear X2 R2 T2 GB g1 t1
  obtain ⟨l8, hl8⟩ : ∃ l8, Sx.nxS (Sx.r7 o) = l8 := ⟨_, rfl⟩
  have R8 : Hid (Sx.r8 o = Sx.keep (Sx.gLetter l8) (Sx.nxO (Sx.r7 o))) := by show _ = _; rw [← hl8]; rfl
  have RT : Hid (Sx.ruleT o = ⟨Sx.nxS o, F, Sx.toV F l3, (Sx.monthO (Sx.nxS (Sx.r3 o))).getD 0, (Sx.formV (Sx.nxS (Sx.r4 o))).kind, (Sx.formV (Sx.nxS (Sx.r4 o))).wk, (Sx.formV (Sx.nxS (Sx.r4 o))).n, (Sx.clockV 1 (Sx.nxS (Sx.r5 o))).1, (Sx.clockV 1 (Sx.nxS (Sx.r5 o))).2, Sx.spanV (Sx.nxS (Sx.r6 o)), Sx.letterV l8⟩) := by show _ = _; rw [← hl8, ← HF.out, ← HL3.out]; rfl
  rw [hl8] at n2 ⊢
  clear hl8 HF HL3
  obtain ⟨tx, bad, b0, b1, y0, y1, blt⟩ := tk_cells T1.out
  have sz := X1.out.1
  have sr := R1.out.1
  obtain ⟨k0, z0⟩ := ca_at X1.out 0 rfl
  obtain ⟨k1, z1⟩ := ca_at X1.out 1 rfl
  obtain ⟨k2, z2⟩ := ca_at X1.out 2 rfl
  obtain ⟨k3, z3⟩ := ca_at X1.out 3 rfl
  obtain ⟨k4, z4⟩ := ca_at X1.out 4 rfl
  obtain ⟨k5, z5⟩ := ca_at X1.out 5 rfl
  obtain ⟨k6, z6⟩ := ca_at X1.out 6 rfl
  obtain ⟨k7, z7⟩ := ca_at X1.out 7 rfl
  obtain ⟨k8, z8⟩ := ca_at X1.out 8 rfl
  obtain ⟨k9, z9⟩ := ca_at X1.out 9 rfl
  obtain ⟨k10, z10⟩ := ca_at X1.out 10 rfl
  obtain ⟨p0, v0⟩ := ca_at R1.out 0 rfl
  obtain ⟨p1, v1⟩ := ca_at R1.out 1 rfl
  obtain ⟨p2, v2⟩ := ca_at R1.out 2 rfl
  obtain ⟨p3, v3⟩ := ca_at R1.out 3 rfl
  obtain ⟨p4, v4⟩ := ca_at R1.out 4 rfl
  obtain ⟨p5, v5⟩ := ca_at R1.out 5 rfl
  obtain ⟨p6, v6⟩ := ca_at R1.out 6 rfl
  obtain ⟨p7, v7⟩ := ca_at R1.out 7 rfl
  obtain ⟨p8, v8⟩ := ca_at R1.out 8 rfl
  obtain ⟨p9, v9⟩ := ca_at R1.out 9 rfl
  obtain ⟨p10, v10⟩ := ca_at R1.out 10 rfl
  have hX' : ¬ w.heap.size + 1 = w.heap.size := by omega
  have hbX : ¬ b = w.heap.size + 1 := by omega
  have hbR : ¬ b = w.heap.size := by omega
  by_cases c0 : l8 = []
  ·have q0 : l8.isEmpty = true := by rw [c0]; rfl
   have q1 : (l8 == [45]) = false := by rw [c0]; rfl
   have LV : Sx.letterV l8 = l8 := by rw [c0]; rfl
   have R8' : Hid (Sx.r8 o = none) := by show _ = _; rw [R8.out, c0]; rfl
   clear c0
   go_wp2
   rw [RT.out]
   refine bodyPost_ret (v := ruleV ⟨Sx.nxS o, F, Sx.toV F l3, (Sx.monthO (Sx.nxS (Sx.r3 o))).getD 0, (Sx.formV (Sx.nxS (Sx.r4 o))).kind, (Sx.formV (Sx.nxS (Sx.r4 o))).wk, (Sx.formV (Sx.nxS (Sx.r4 o))).n, (Sx.clockV 1 (Sx.nxS (Sx.r5 o))).1, (Sx.clockV 1 (Sx.nxS (Sx.r5 o))).2, Sx.spanV (Sx.nxS (Sx.r6 o)), Sx.letterV l8⟩) (by simp [results, Tryz.results148, go_sem, LV, TV'.out, *]) rfl ⟨rfl, ?_, ?_⟩
   ·repeat (refine gb_put ?_ (by omega))
    exact gb_set GA.out (.inl rfl) _
   ·rw [R8'.out]
    repeat (refine tkO_put ?_ (by omega))
    exact tkO_bad T1.out
  have q0 : l8.isEmpty = false := by cases l8 with | nil => exact absurd rfl c0 | cons _ _ => rfl
  by_cases c1 : l8 = [45]
  ·have q1 : (l8 == [45]) = true := by simp [c1]
   have LV : Sx.letterV l8 = [] := by rw [c1]; rfl
   have R8' : Hid (Sx.r8 o = Sx.nxO (Sx.r7 o)) := by show _ = _; rw [R8.out, c1]; rfl
   clear c0 c1
   go_wp2
   rw [RT.out]
   refine bodyPost_ret (v := ruleV ⟨Sx.nxS o, F, Sx.toV F l3, (Sx.monthO (Sx.nxS (Sx.r3 o))).getD 0, (Sx.formV (Sx.nxS (Sx.r4 o))).kind, (Sx.formV (Sx.nxS (Sx.r4 o))).wk, (Sx.formV (Sx.nxS (Sx.r4 o))).n, (Sx.clockV 1 (Sx.nxS (Sx.r5 o))).1, (Sx.clockV 1 (Sx.nxS (Sx.r5 o))).2, Sx.spanV (Sx.nxS (Sx.r6 o)), Sx.letterV l8⟩) (by simp [results, Tryz.results148, go_sem, LV, TV'.out, *]) rfl ⟨rfl, ?_, ?_⟩
   ·repeat (refine gb_put ?_ (by omega))
    exact GA.out
   ·rw [R8'.out]
    repeat (refine tkO_put ?_ (by omega))
    exact T1.out
  have q1 : (l8 == [45]) = false := by simpa using c1
  have LV : Sx.letterV l8 = l8 := by rw [Sx.letterV, if_neg c1]
  cases hL : Sx.lettersB l8
  ·have R8' : Hid (Sx.r8 o = none) := by show _ = _; rw [R8.out, Sx.gLetter, Sx.letterO, if_neg c1, if_neg (by simp [hL])]; rfl
   have HL := hid hL
   clear c0 c1 hL
   go_wp2_with (go_at_call 164; refine (rLetters_str _ _ n2 HL.out).mono ?_; rintro e w12 ⟨rfl, rfl⟩)
   rw [RT.out]
   refine bodyPost_ret (v := ruleV ⟨Sx.nxS o, F, Sx.toV F l3, (Sx.monthO (Sx.nxS (Sx.r3 o))).getD 0, (Sx.formV (Sx.nxS (Sx.r4 o))).kind, (Sx.formV (Sx.nxS (Sx.r4 o))).wk, (Sx.formV (Sx.nxS (Sx.r4 o))).n, (Sx.clockV 1 (Sx.nxS (Sx.r5 o))).1, (Sx.clockV 1 (Sx.nxS (Sx.r5 o))).2, Sx.spanV (Sx.nxS (Sx.r6 o)), Sx.letterV l8⟩) (by simp [results, Tryz.results148, go_sem, LV, TV'.out, *]) rfl ⟨rfl, ?_, ?_⟩
   ·repeat (refine gb_put ?_ (by omega))
    exact gb_set GA.out (.inl rfl) _
   ·rw [R8'.out]
    repeat (refine tkO_put ?_ (by omega))
    exact tkO_bad T1.out
  ·have R8' : Hid (Sx.r8 o = Sx.nxO (Sx.r7 o)) := by show _ = _; rw [R8.out, Sx.gLetter, Sx.letterO, if_neg c1, if_pos ⟨c0, hL⟩]; rfl
   have HL := hid hL
   clear c0 c1 hL
   go_wp2_with (go_at_call 164; refine (rLetters_str _ _ n2 HL.out).mono ?_; rintro e w12 ⟨rfl, rfl⟩)
   rw [RT.out]
   refine bodyPost_ret (v := ruleV ⟨Sx.nxS o, F, Sx.toV F l3, (Sx.monthO (Sx.nxS (Sx.r3 o))).getD 0, (Sx.formV (Sx.nxS (Sx.r4 o))).kind, (Sx.formV (Sx.nxS (Sx.r4 o))).wk, (Sx.formV (Sx.nxS (Sx.r4 o))).n, (Sx.clockV 1 (Sx.nxS (Sx.r5 o))).1, (Sx.clockV 1 (Sx.nxS (Sx.r5 o))).2, Sx.spanV (Sx.nxS (Sx.r6 o)), Sx.letterV l8⟩) (by simp [results, Tryz.results148, go_sem, LV, TV'.out, *]) rfl ⟨rfl, ?_, ?_⟩
   ·repeat (refine gb_put ?_ (by omega))
    exact GA.out
   ·rw [R8'.out]
    repeat (refine tkO_put ?_ (by omega))
    exact T1.out
 ·have q2 : (l3 == [109, 97, 120]) = false := by simpa [Sx.maxW] using c2
  have TV' : Hid (Sx.toV F l3 = (Sx.num 4 4 l3).getD 0) := by show _ = _; rw [TV.out, if_neg c1, if_neg c2]
  have R3' : Hid (Sx.r3 o = Sx.keep (Sx.num 4 4 l3).isSome (Sx.nxO (Sx.r2 o))) := by show _ = _; rw [R3.out]; simp [Sx.gTo, c1, c2]
  clear c1 c2
  go_wp2_with fail
  have X2 := X1
  have R2 := R1
  have T2 := T1
  have GB := GA
  clear X1 R1 T1 GA
  refine (number_str b _ _ 4 4 _ T2.out (by omega) n2).mono ?_
  rintro e w5 ⟨rfl, g1, t1⟩
  have GA := hid (gb_trans GB.out g1)
  have T1 : Hid (TkO w5 b lim (Sx.keep (Sx.num 4 4 l3).isSome (Sx.nxO (Sx.r2 o)))) := t1
  have R1 := hid (ca_grown R2.out g1 hne)
  have X1 := hid (ca_grown X2.out g1 hne1)
  clear X2 R2 T2 GB g1 t1
  obtain ⟨k2, z2⟩ := ca_at X1.out 2 rfl
  have sz := X1.out.1
  go_wp2_with fail
  clear sz k2 z2
  have X2 := hid (ca_put (X1.out) 2 (.int .i64 ((Sx.num 4 4 l3).getD 0)) (by simp [rule0]))
  have R2 := hid (ca_far (o := 2) (u := .int .i64 ((Sx.num 4 4 l3).getD 0)) (R1.out) hX)
  have T2 := hid (tkO_put (o := 2) (u := .int .i64 ((Sx.num 4 4 l3).getD 0)) (T1.out) le1)
  have GB := hid (gb_put (o := 2) (u := .int .i64 ((Sx.num 4 4 l3).getD 0)) (GA.out) (Nat.le_succ _))
  clear X1 R1 T1 GA
  rw [← R3'.out] at T2
  clear n2 R3 TV R3'
  go_wp2_with fail
  refine (month_any b _ _ T2.out).mono ?_
  rintro e w6 ⟨rfl, g1, t1⟩
  have GA := hid (gb_trans GB.out g1)
  have T1 : Hid (TkO w6 b lim (Sx.r4 o)) := t1
  have R1 := hid (ca_grown R2.out g1 hne)
  have X1 := hid (ca_grown X2.out g1 hne1)
  clear X2 R2 T2 GB g1 t1
  obtain ⟨k3, z3⟩ := ca_at X1.out 3 rfl
  have sz := X1.out.1
  go_wp2_with fail
  clear sz k3 z3
  have X2 := hid (ca_put (X1.out) 3 (.int .i64 ((Sx.monthO (Sx.nxS (Sx.r3 o))).getD 0)) (by simp [rule0]))
  have R2 := hid (ca_far (o := 3) (u := .int .i64 ((Sx.monthO (Sx.nxS (Sx.r3 o))).getD 0)) (R1.out) hX)
  have T2 := hid (tkO_put (o := 3) (u := .int .i64 ((Sx.monthO (Sx.nxS (Sx.r3 o))).getD 0)) (T1.out) le1)
  have GB := hid (gb_put (o := 3) (u := .int .i64 ((Sx.monthO (Sx.nxS (Sx.r3 o))).getD 0)) (GA.out) (Nat.le_succ _))
  clear X1 R1 T1 GA
  refine (form_any b _ _ T2.out).mono ?_
  rintro e w7 ⟨rfl, g1, t1⟩
  have GA := hid (gb_trans GB.out g1)
  have T1 : Hid (TkO w7 b lim (Sx.r5 o)) := t1
  have R1 := hid (ca_grown R2.out g1 hne)
  have X1 := hid (ca_grown X2.out g1 hne1)
  clear X2 R2 T2 GB g1 t1
  obtain ⟨k4, z4⟩ := ca_at X1.out 4 rfl
  obtain ⟨k5, z5⟩ := ca_at X1.out 5 rfl
  obtain ⟨k6, z6⟩ := ca_at X1.out 6 rfl
  have sz := X1.out.1
  go_wp2_with fail
  clear sz k4 z4 k5 z5 k6 z6
  have X2 := hid (ca_put (ca_put (ca_put (X1.out) 4 (.int .i64 (Sx.formV (Sx.nxS (Sx.r4 o))).kind) (by simp [rule0])) 5 (.int .i64 (Sx.formV (Sx.nxS (Sx.r4 o))).wk) (by simp [rule0])) 6 (.int .i64 (Sx.formV (Sx.nxS (Sx.r4 o))).n) (by simp [rule0]))
  have R2 := hid (ca_far (o := 6) (u := .int .i64 (Sx.formV (Sx.nxS (Sx.r4 o))).n) (ca_far (o := 5) (u := .int .i64 (Sx.formV (Sx.nxS (Sx.r4 o))).wk) (ca_far (o := 4) (u := .int .i64 (Sx.formV (Sx.nxS (Sx.r4 o))).kind) (R1.out) hX) hX) hX)
  have T2 := hid (tkO_put (o := 6) (u := .int .i64 (Sx.formV (Sx.nxS (Sx.r4 o))).n) (tkO_put (o := 5) (u := .int .i64 (Sx.formV (Sx.nxS (Sx.r4 o))).wk) (tkO_put (o := 4) (u := .int .i64 (Sx.formV (Sx.nxS (Sx.r4 o))).kind) (T1.out) le1) le1) le1)
  have GB := hid (gb_put (o := 6) (u := .int .i64 (Sx.formV (Sx.nxS (Sx.r4 o))).n) (gb_put (o := 5) (u := .int .i64 (Sx.formV (Sx.nxS (Sx.r4 o))).wk) (gb_put (o := 4) (u := .int .i64 (Sx.formV (Sx.nxS (Sx.r4 o))).kind) (GA.out) (Nat.le_succ _)) (Nat.le_succ _)) (Nat.le_succ _))
  clear X1 R1 T1 GA
  refine (clocked_any b _ 1 _ T2.out (.inl rfl)).mono ?_
  rintro e w8 ⟨rfl, g1, t1⟩
  have GA := hid (gb_trans GB.out g1)
  have T1 : Hid (TkO w8 b lim (Sx.r6 o)) := t1
  have R1 := hid (ca_grown R2.out g1 hne)
  have X1 := hid (ca_grown X2.out g1 hne1)
  clear X2 R2 T2 GB g1 t1
  obtain ⟨k7, z7⟩ := ca_at X1.out 7 rfl
  obtain ⟨k8, z8⟩ := ca_at X1.out 8 rfl
  have sz := X1.out.1
  go_wp2_with fail
  clear sz k7 z7 k8 z8
  have X2 := hid (ca_put (ca_put (X1.out) 7 (.int .i64 (Sx.clockV 1 (Sx.nxS (Sx.r5 o))).1) (by simp [rule0])) 8 (.int .i64 (Sx.clockV 1 (Sx.nxS (Sx.r5 o))).2) (by simp [rule0]))
  have R2 := hid (ca_far (o := 8) (u := .int .i64 (Sx.clockV 1 (Sx.nxS (Sx.r5 o))).2) (ca_far (o := 7) (u := .int .i64 (Sx.clockV 1 (Sx.nxS (Sx.r5 o))).1) (R1.out) hX) hX)
  have T2 := hid (tkO_put (o := 8) (u := .int .i64 (Sx.clockV 1 (Sx.nxS (Sx.r5 o))).2) (tkO_put (o := 7) (u := .int .i64 (Sx.clockV 1 (Sx.nxS (Sx.r5 o))).1) (T1.out) le1) le1)
  have GB := hid (gb_put (o := 8) (u := .int .i64 (Sx.clockV 1 (Sx.nxS (Sx.r5 o))).2) (gb_put (o := 7) (u := .int .i64 (Sx.clockV 1 (Sx.nxS (Sx.r5 o))).1) (GA.out) (Nat.le_succ _)) (Nat.le_succ _))
  clear X1 R1 T1 GA
  have n2 := nxS_len T2.out
  refine (next_any b _ _ T2.out).mono ?_
  rintro e w9 ⟨rfl, g1, t1⟩
  have GA := hid (gb_trans GB.out g1)
  have T1 : Hid (TkO w9 b lim (Sx.nxO (Sx.r6 o))) := t1
  have R1 := hid (ca_grown R2.out g1 hne)
  have X1 := hid (ca_grown X2.out g1 hne1)
  clear X2 R2 T2 GB g1 t1
  go_wp2_with fail
  have X2 := X1
  have R2 := R1
  have T2 := T1
  have GB := GA
  clear X1 R1 T1 GA
  refine (span_str b _ _ _ T2.out n2).mono ?_
  rintro e w10 ⟨rfl, g1, t1⟩
  have GA := hid (gb_trans GB.out g1)
  have T1 : Hid (TkO w10 b lim (Sx.r7 o)) := t1
  have R1 := hid (ca_grown R2.out g1 hne)
  have X1 := hid (ca_grown X2.out g1 hne1)
  clear X2 R2 T2 GB g1 t1
  clear n2
  obtain ⟨k9, z9⟩ := ca_at X1.out 9 rfl
  have sz := X1.out.1
  go_wp2_with fail
  clear sz k9 z9
  have X2 := hid (ca_put (X1.out) 9 (.int .i64 (Sx.spanV (Sx.nxS (Sx.r6 o)))) (by simp [rule0]))
  have R2 := hid (ca_far (o := 9) (u := .int .i64 (Sx.spanV (Sx.nxS (Sx.r6 o)))) (R1.out) hX)
  have T2 := hid (tkO_put (o := 9) (u := .int .i64 (Sx.spanV (Sx.nxS (Sx.r6 o)))) (T1.out) le1)
  have GB := hid (gb_put (o := 9) (u := .int .i64 (Sx.spanV (Sx.nxS (Sx.r6 o)))) (GA.out) (Nat.le_succ _))
  clear X1 R1 T1 GA
  have n2 := nxS_len T2.out
  refine (next_any b _ _ T2.out).mono ?_
  rintro e w11 ⟨rfl, g1, t1⟩
  have GA := hid (gb_trans GB.out g1)
  have T1 : Hid (TkO w11 b lim (Sx.nxO (Sx.r7 o))) := t1
  have R1 := hid (ca_grown R2.out g1 hne)
  have X1 := hid (ca_grown X2.out g1 hne1)
  clear X2 R2 T2 GB g1 t1
  obtain ⟨l8, hl8⟩ : ∃ l8, Sx.nxS (Sx.r7 o) = l8 := ⟨_, rfl⟩
  have R8 : Hid (Sx.r8 o = Sx.keep (Sx.gLetter l8) (Sx.nxO (Sx.r7 o))) := by show _ = _; rw [← hl8]; rfl
  have RT : Hid (Sx.ruleT o = ⟨Sx.nxS o, F, Sx.toV F l3, (Sx.monthO (Sx.nxS (Sx.r3 o))).getD 0, (Sx.formV (Sx.nxS (Sx.r4 o))).kind, (Sx.formV (Sx.nxS (Sx.r4 o))).wk, (Sx.formV (Sx.nxS (Sx.r4 o))).n, (Sx.clockV 1 (Sx.nxS (Sx.r5 o))).1, (Sx.clockV 1 (Sx.nxS (Sx.r5 o))).2, Sx.spanV (Sx.nxS (Sx.r6 o)), Sx.letterV l8⟩) := by show _ = _; rw [← hl8, ← HF.out, ← HL3.out]; rfl
  rw [hl8] at n2 ⊢
  clear hl8 HF HL3
  obtain ⟨tx, bad, b0, b1, y0, y1, blt⟩ := tk_cells T1.out
  have sz := X1.out.1
  have sr := R1.out.1
  obtain ⟨k0, z0⟩ := ca_at X1.out 0 rfl
  obtain ⟨k1, z1⟩ := ca_at X1.out 1 rfl
  obtain ⟨k2, z2⟩ := ca_at X1.out 2 rfl
  obtain ⟨k3, z3⟩ := ca_at X1.out 3 rfl
  obtain ⟨k4, z4⟩ := ca_at X1.out 4 rfl
  obtain ⟨k5, z5⟩ := ca_at X1.out 5 rfl
  obtain ⟨k6, z6⟩ := ca_at X1.out 6 rfl
  obtain ⟨k7, z7⟩ := ca_at X1.out 7 rfl
  obtain ⟨k8, z8⟩ := ca_at X1.out 8 rfl
  obtain ⟨k9, z9⟩ := ca_at X1.out 9 rfl
  obtain ⟨k10, z10⟩ := ca_at X1.out 10 rfl
  obtain ⟨p0, v0⟩ := ca_at R1.out 0 rfl
  obtain ⟨p1, v1⟩ := ca_at R1.out 1 rfl
  obtain ⟨p2, v2⟩ := ca_at R1.out 2 rfl
  obtain ⟨p3, v3⟩ := ca_at R1.out 3 rfl
  obtain ⟨p4, v4⟩ := ca_at R1.out 4 rfl
  obtain ⟨p5, v5⟩ := ca_at R1.out 5 rfl
  obtain ⟨p6, v6⟩ := ca_at R1.out 6 rfl
  obtain ⟨p7, v7⟩ := ca_at R1.out 7 rfl
  obtain ⟨p8, v8⟩ := ca_at R1.out 8 rfl
  obtain ⟨p9, v9⟩ := ca_at R1.out 9 rfl
  obtain ⟨p10, v10⟩ := ca_at R1.out 10 rfl
  have hX' : ¬ w.heap.size + 1 = w.heap.size := by omega
  have hbX : ¬ b = w.heap.size + 1 := by omega
  have hbR : ¬ b = w.heap.size := by omega
  by_cases c0 : l8 = []
  ·have q0 : l8.isEmpty = true := by rw [c0]; rfl
   have q1 : (l8 == [45]) = false := by rw [c0]; rfl
   have LV : Sx.letterV l8 = l8 := by rw [c0]; rfl
   have R8' : Hid (Sx.r8 o = none) := by show _ = _; rw [R8.out, c0]; rfl
   clear c0
   go_wp2
   rw [RT.out]
   refine bodyPost_ret (v := ruleV ⟨Sx.nxS o, F, Sx.toV F l3, (Sx.monthO (Sx.nxS (Sx.r3 o))).getD 0, (Sx.formV (Sx.nxS (Sx.r4 o))).kind, (Sx.formV (Sx.nxS (Sx.r4 o))).wk, (Sx.formV (Sx.nxS (Sx.r4 o))).n, (Sx.clockV 1 (Sx.nxS (Sx.r5 o))).1, (Sx.clockV 1 (Sx.nxS (Sx.r5 o))).2, Sx.spanV (Sx.nxS (Sx.r6 o)), Sx.letterV l8⟩) (by simp [results, Tryz.results148, go_sem, LV, TV'.out, *]) rfl ⟨rfl, ?_, ?_⟩
   ·repeat (refine gb_put ?_ (by omega))
    exact gb_set GA.out (.inl rfl) _
   ·rw [R8'.out]
    repeat (refine tkO_put ?_ (by omega))
    exact tkO_bad T1.out
  have q0 : l8.isEmpty = false := by cases l8 with | nil => exact absurd rfl c0 | cons _ _ => rfl
  by_cases c1 : l8 = [45]
  ·have q1 : (l8 == [45]) = true := by simp [c1]
   have LV : Sx.letterV l8 = [] := by rw [c1]; rfl
   have R8' : Hid (Sx.r8 o = Sx.nxO (Sx.r7 o)) := by show _ = _; rw [R8.out, c1]; rfl
   clear c0 c1
   go_wp2
   rw [RT.out]
   refine bodyPost_ret (v := ruleV ⟨Sx.nxS o, F, Sx.toV F l3, (Sx.monthO (Sx.nxS (Sx.r3 o))).getD 0, (Sx.formV (Sx.nxS (Sx.r4 o))).kind, (Sx.formV (Sx.nxS (Sx.r4 o))).wk, (Sx.formV (Sx.nxS (Sx.r4 o))).n, (Sx.clockV 1 (Sx.nxS (Sx.r5 o))).1, (Sx.clockV 1 (Sx.nxS (Sx.r5 o))).2, Sx.spanV (Sx.nxS (Sx.r6 o)), Sx.letterV l8⟩) (by simp [results, Tryz.results148, go_sem, LV, TV'.out, *]) rfl ⟨rfl, ?_, ?_⟩
   ·repeat (refine gb_put ?_ (by omega))
    exact GA.out
   ·rw [R8'.out]
    repeat (refine tkO_put ?_ (by omega))
    exact T1.out
  have q1 : (l8 == [45]) = false := by simpa using c1
  have LV : Sx.letterV l8 = l8 := by rw [Sx.letterV, if_neg c1]
  cases hL : Sx.lettersB l8
  ·have R8' : Hid (Sx.r8 o = none) := by show _ = _; rw [R8.out, Sx.gLetter, Sx.letterO, if_neg c1, if_neg (by simp [hL])]; rfl
   have HL := hid hL
   clear c0 c1 hL
   go_wp2_with (go_at_call 164; refine (rLetters_str _ _ n2 HL.out).mono ?_; rintro e w12 ⟨rfl, rfl⟩)
   rw [RT.out]
   refine bodyPost_ret (v := ruleV ⟨Sx.nxS o, F, Sx.toV F l3, (Sx.monthO (Sx.nxS (Sx.r3 o))).getD 0, (Sx.formV (Sx.nxS (Sx.r4 o))).kind, (Sx.formV (Sx.nxS (Sx.r4 o))).wk, (Sx.formV (Sx.nxS (Sx.r4 o))).n, (Sx.clockV 1 (Sx.nxS (Sx.r5 o))).1, (Sx.clockV 1 (Sx.nxS (Sx.r5 o))).2, Sx.spanV (Sx.nxS (Sx.r6 o)), Sx.letterV l8⟩) (by simp [results, Tryz.results148, go_sem, LV, TV'.out, *]) rfl ⟨rfl, ?_, ?_⟩
   ·repeat (refine gb_put ?_ (by omega))
    exact gb_set GA.out (.inl rfl) _
   ·rw [R8'.out]
    repeat (refine tkO_put ?_ (by omega))
    exact tkO_bad T1.out
  ·have R8' : Hid (Sx.r8 o = Sx.nxO (Sx.r7 o)) := by show _ = _; rw [R8.out, Sx.gLetter, Sx.letterO, if_neg c1, if_pos ⟨c0, hL⟩]; rfl
   have HL := hid hL
   clear c0 c1 hL
   go_wp2_with (go_at_call 164; refine (rLetters_str _ _ n2 HL.out).mono ?_; rintro e w12 ⟨rfl, rfl⟩)
   rw [RT.out]
   refine bodyPost_ret (v := ruleV ⟨Sx.nxS o, F, Sx.toV F l3, (Sx.monthO (Sx.nxS (Sx.r3 o))).getD 0, (Sx.formV (Sx.nxS (Sx.r4 o))).kind, (Sx.formV (Sx.nxS (Sx.r4 o))).wk, (Sx.formV (Sx.nxS (Sx.r4 o))).n, (Sx.clockV 1 (Sx.nxS (Sx.r5 o))).1, (Sx.clockV 1 (Sx.nxS (Sx.r5 o))).2, Sx.spanV (Sx.nxS (Sx.r6 o)), Sx.letterV l8⟩) (by simp [results, Tryz.results148, go_sem, LV, TV'.out, *]) rfl ⟨rfl, ?_, ?_⟩
   ·repeat (refine gb_put ?_ (by omega))
    exact GA.out
   ·rw [R8'.out]
    repeat (refine tkO_put ?_ (by omega))
    exact T1.out
end
section
open Go.RowKit

namespace Sx
def gShift (s : Tx.Bs) : Bool := (shiftO s).isSome
def gRules (s : Tx.Bs) : Bool := (rulesO s).isSome
def digH : Tx.Bs → Bool
 | [] => false
 | c :: _ => digB c
def shiftV (s : Tx.Bs) : Int := if s.head? = some 45 then -spanV s.tail else spanV s
def rulesV (s : Tx.Bs) : Tx.Bs × Int := if s = [45] then ([], 0) else if digH s = true then ([], spanV s) else (s, 0)
theorem rulesO_def (s : Tx.Bs) : rulesO s = if s = [45] then some ([], 0) else if digH s = true then (if s = [48] then none else (spanO s).map fun n => ([], n)) else if nameB s = true then some (s, 0) else none := by
 unfold rulesO; cases s <;> rfl
theorem shiftV_eq {s : Tx.Bs} {n : Int} (h : shiftO s = some n) : shiftV s = n := by
 unfold shiftO at h; unfold shiftV
 split
 ·rename_i q
  rw [if_pos q] at h
  simp [Option.map_eq_some_iff] at h
  obtain ⟨a, h1, h2⟩ := h
  rw [spanV_eq h1]; exact h2
 ·rename_i q
  rw [if_neg q] at h
  exact spanV_eq h
theorem rulesV_eq {s : Tx.Bs} {p : Tx.Bs × Int} (h : rulesO s = some p) : rulesV s = p := by
 rw [rulesO_def] at h; unfold rulesV
 split
 ·rename_i q; rw [if_pos q] at h; simpa using h
 ·rename_i q
  rw [if_neg q] at h
  split
  ·rename_i q2
   rw [if_pos q2] at h
   split at h
   ·cases h
   ·simp [Option.map_eq_some_iff] at h
    obtain ⟨a, h1, h2⟩ := h
    rw [spanV_eq h1]; exact h2
  ·rename_i q2
   rw [if_neg q2] at h
   split at h
   ·simpa using h
   ·cases h
def e1 (o : O) : O := stp gShift o
def e2 (o : O) : O := stp gRules (e1 o)
def e3 (o : O) : O := stp formatB (e2 o)
def e4 (o : O) : O := stp (gNum 4 4) (e3 o)
def e5 (o : O) : O := stp gMonth (e4 o)
def e6 (o : O) : O := stp (gNum 1 2) (e5 o)
def e7 (o : O) : O := stp (gClock 2) (e6 o)
def e8 (o : O) : O := keep (decide ((clockV 2 (nxS (e6 o))).2 ≠ 1)) (e7 o)
def eraT0 (o : O) : Er := ⟨shiftV (nxS o), (rulesV (nxS (e1 o))).1, (rulesV (nxS (e1 o))).2, nxS (e2 o), true, 0, 0, 0, 0, 0⟩
def eraT1 (o : O) : Er := ⟨shiftV (nxS o), (rulesV (nxS (e1 o))).1, (rulesV (nxS (e1 o))).2, nxS (e2 o), false, (num 4 4 (nxS (e3 o))).getD 0, (monthO (nxS (e4 o))).getD 0, (num 1 2 (nxS (e5 o))).getD 0, (clockV 2 (nxS (e6 o))).1, (clockV 2 (nxS (e6 o))).2⟩
theorem e_none : e3 none = none := by simp [e3, e2, e1, stp_none]
theorem e8_none {o : O} (h : e3 o = none) : e8 o = none := by simp [e8, e7, e6, e5, e4, h, stp_none, keep_none]
/- what the fields of an era come to -/
theorem era_few {fs : List Tx.Bs} (h : e3 (some fs) = none) : eraO fs = none := by
 match fs, h with
 | [], _ => rfl
 | [_], _ => rfl
 | [_, _], _ => rfl
 | a :: b :: c :: rest, h =>
   simp only [eraO]
   cases h1 : shiftO a with
   | none => rfl
   | some sh =>
     cases h2 : rulesO b with
     | none => rfl
     | some rs =>
       cases h3 : formatO c with
       | none => rfl
       | some f =>
         have hf : formatB c = true := by
          unfold formatO at h3; split at h3
          ·assumption
          ·cases h3
         exfalso
         simp [e3, e2, e1, stp_cons, gShift, gRules, h1, h2, hf] at h
theorem era_head {fs rest : List Tx.Bs} (h : e3 (some fs) = some rest) : ∃ a b c, fs = a :: b :: c :: rest ∧ ∃ sh rs, shiftO a = some sh ∧ rulesO b = some rs ∧ formatB c = true ∧ nxS (some fs) = a ∧ nxS (e1 (some fs)) = b ∧ nxS (e2 (some fs)) = c := by
 match fs, h with
 | [], h => simp [e3, e2, e1, stp_nil, stp_none] at h
 | [a], h =>
   exfalso
   by_cases q : gShift a = true <;> simp [e3, e2, e1, stp_nil, stp_none, stp_cons, q] at h
 | [a, b], h =>
   exfalso
   by_cases q : gShift a = true <;> by_cases q2 : gRules b = true <;> simp [e3, e2, e1, stp_nil, stp_none, stp_cons, q, q2] at h
 | a :: b :: c :: r, h =>
   cases h1 : shiftO a with
   | none => simp [e3, e2, e1, stp_none, stp_cons, gShift, h1] at h
   | some sh =>
     cases h2 : rulesO b with
     | none => simp [e3, e2, e1, stp_none, stp_cons, gShift, gRules, h1, h2] at h
     | some rs =>
       cases h3 : formatB c with
       | false => simp [e3, e2, e1, stp_none, stp_cons, gShift, gRules, h1, h2, h3] at h
       | true =>
         simp [e3, e2, e1, stp_none, stp_cons, gShift, gRules, h1, h2, h3] at h
         subst h
         exact ⟨a, b, c, rfl, sh, rs, h1, h2, h3, rfl, by simp [e1, stp_cons, gShift, h1, nxS], by simp [e2, e1, stp_cons, gShift, gRules, h1, h2, nxS]⟩
theorem era_open {fs : List Tx.Bs} (h : e3 (some fs) = some []) : eraO fs = some (eraT0 (some fs), []) := by
 obtain ⟨a, b, c, rfl, sh, rs, h1, h2, h3, n1, n2, n3⟩ := era_head h
 have v1 := shiftV_eq h1
 have v2 := rulesV_eq h2
 simp only [eraO, h1, h2, formatO, h3, if_true, Option.bind_some, eraT0, n1, n2, n3, v1, v2]
theorem era_shut {fs : List Tx.Bs} {f : Tx.Bs} {r : List Tx.Bs} (h : e3 (some fs) = some (f :: r)) : eraO fs = (e8 (some fs)).map fun rest => (eraT1 (some fs), rest) := by
 obtain ⟨a, b, c, rfl, sh, rs, h1, h2, h3, n1, n2, n3⟩ := era_head h
 have v1 := shiftV_eq h1
 have v2 := rulesV_eq h2
 simp only [eraO, h1, h2, formatO, h3, if_true, Option.bind_some, e8, e7, e6, e5, e4, eraT1, h, n1, n2, n3, v1, v2]
 match f, r with
 | y, [] => by_cases q : gNum 4 4 y = true <;> simp [stp_cons, stp_nil, stp_none, keep_none, q]
 | y, [m] => by_cases q : gNum 4 4 y = true <;> by_cases q2 : gMonth m = true <;> simp [stp_cons, stp_nil, stp_none, keep_none, q, q2]
 | y, [m, d] => by_cases q : gNum 4 4 y = true <;> by_cases q2 : gMonth m = true <;> by_cases q3 : gNum 1 2 d = true <;> simp [stp_cons, stp_nil, stp_none, keep_none, q, q2, q3]
 | y, m :: d :: t :: more =>
   simp only
   cases k1 : num 4 4 y with
   | none => simp [stp_cons, stp_none, keep_none, gNum, k1]
   | some uy =>
     cases k2 : monthO m with
     | none => simp [stp_cons, stp_none, keep_none, gNum, gMonth, k1, k2]
     | some um =>
       cases k3 : num 1 2 d with
       | none => simp [stp_cons, stp_none, keep_none, gNum, gMonth, k1, k2, k3]
       | some ud =>
         cases k4 : clockO 2 t with
         | none => simp [stp_cons, stp_none, keep_none, gNum, gMonth, gClock, k1, k2, k3, k4]
         | some ac =>
           have v4 := clockV_eq k4
           by_cases k5 : ac.2 = 1
           ·simp [stp_cons, stp_none, keep, nxS, gNum, gMonth, gClock, k1, k2, k3, k4, v4, k5]
           ·simp [stp_cons, stp_none, keep, nxS, gNum, gMonth, gClock, k1, k2, k3, k4, v4, k5]
end Sx
theorem tk_len {w : World} {b lim : Nat} {o : Sx.O} (h : TkO w b lim o) : ∃ a n cap, w.cell? ⟨b, 0, none⟩ = some (.slice a n cap) ∧ ∀ fs, o = some fs → n = fs.length := by
 cases o with
 | none => obtain ⟨fs, lt', le, ⟨a, cap, c0, _⟩, _⟩ := h.out; exact ⟨_, _, _, c0, fun _ q => by cases q⟩
 | some fs => obtain ⟨lt', le, ⟨a, cap, c0, _⟩, _⟩ := (show TkS _ _ _ _ _ from h.out); exact ⟨_, _, _, c0, fun _ q => by cases q; rfl⟩
end
section
open Go.RowKit

def era0 : List Value := [.int .i64 0, .string ⟨#[]⟩, .int .i64 0, .string ⟨#[]⟩, .bool false, .int .i64 0, .int .i64 0, .int .i64 0, .int .i64 0, .int .i64 0]
/- how it ends -/
def EraEnd (o : Sx.O) (x : Sx.Er) (oF : Sx.O) : Prop := match o.bind Sx.eraO with | some p => x = p.1 ∧ oF = some p.2 | none => oF = none
theorem eraEnd_open {o : Sx.O} {n : Nat} (h : ∀ fs, Sx.e3 o = some fs → n = fs.length) (hn : n = 0) : EraEnd o (Sx.eraT0 o) (Sx.e3 o) := by
 unfold EraEnd
 cases o with
 | none => exact Sx.e_none
 | some fs =>
   show match Sx.eraO fs with | some p => _ | none => _
   cases he : Sx.e3 (some fs) with
   | none => rw [Sx.era_few he]
   | some r =>
     have : r = [] := List.length_eq_zero_iff.1 (by have := h r he; omega)
     subst this
     rw [Sx.era_open he]
     exact ⟨rfl, rfl⟩
theorem eraEnd_shut {o : Sx.O} {n : Nat} (h : ∀ fs, Sx.e3 o = some fs → n = fs.length) (hn : ¬ n = 0) : EraEnd o (Sx.eraT1 o) (Sx.e8 o) := by
 unfold EraEnd
 cases o with
 | none => exact Sx.e8_none Sx.e_none
 | some fs =>
   show match Sx.eraO fs with | some p => _ | none => _
   cases he : Sx.e3 (some fs) with
   | none => rw [Sx.era_few he]; exact Sx.e8_none he
   | some r =>
     match r, he with
     | [], he => exact absurd (h [] he) hn
     | f :: r, he =>
       rw [Sx.era_shut he]
       cases h8 : Sx.e8 (some fs) with
       | none => rfl
       | some q => exact ⟨rfl, rfl⟩
theorem tkO_as {w : World} {b lim : Nat} {o o' : Sx.O} (h : TkO w b lim o') (e : o = o') : TkO w b lim o := by rw [e]; exact h
theorem eraOf_any {lim : Nat} (b : Nat) (o : Sx.O) (w : World) (h : TkO w b lim o) :
  Calls Tryz.prog 147 #[.pointer (some ⟨b, 0, none⟩)] w fun e w' => ∃ x oF, e = .returned (eraV x) ∧ w.grownBy w' (some b) ∧ TkO w' b lim oF ∧ EraEnd o x oF := by
 obtain ⟨lt, le⟩ := tkO_le h
 have T2 := hid (tkO_alloc (tkO_alloc h (.cells era0.toArray 67)) (.cells era0.toArray 67))
 have R2 := hid (ca_alloc (ca_new w era0 67) (.cells era0.toArray 67))
 have X2 : Hid (CellsAt ((w.alloc (.cells era0.toArray 67)).alloc (.cells era0.toArray 67)) (w.heap.size + 1) era0) := by
  have := ca_new (w.alloc (.cells era0.toArray 67)) era0 67
  rw [show (w.alloc (.cells era0.toArray 67)).heap.size = w.heap.size + 1 by simp] at this
  exact this
 have GB := hid (gb_alloc (gb_alloc (gb_refl w b) (.cells era0.toArray 67)) (.cells era0.toArray 67))
 have hne : ¬ w.heap.size = b := by omega
 have hne1 : ¬ w.heap.size + 1 = b := by omega
 have le1 : lim ≤ w.heap.size + 1 := by omega
 have hX : ¬ w.heap.size = w.heap.size + 1 := by omega
 have hX' : ¬ w.heap.size + 1 = w.heap.size := by omega
 have hbX : ¬ b = w.heap.size + 1 := by omega
 have hbR : ¬ b = w.heap.size := by omega
 have n2 := nxS_len h
 clear h
 obtain ⟨l1, hl1⟩ : ∃ l1, Sx.nxS o = l1 := ⟨_, rfl⟩
 obtain ⟨l2, hl2⟩ : ∃ l2, Sx.nxS (Sx.e1 o) = l2 := ⟨_, rfl⟩
 have E1 : Hid (Sx.e1 o = Sx.keep (Sx.gShift l1) (Sx.nxO o)) := by show _ = _; rw [← hl1]; rfl
 have E2 : Hid (Sx.e2 o = Sx.keep (Sx.gRules l2) (Sx.nxO (Sx.e1 o))) := by show _ = _; rw [← hl2]; rfl
 have ET0 : Hid (Sx.eraT0 o = ⟨Sx.shiftV l1, (Sx.rulesV l2).1, (Sx.rulesV l2).2, Sx.nxS (Sx.e2 o), true, 0, 0, 0, 0, 0⟩) := by show _ = _; rw [← hl1, ← hl2]; rfl
 have ET1 : Hid (Sx.eraT1 o = ⟨Sx.shiftV l1, (Sx.rulesV l2).1, (Sx.rulesV l2).2, Sx.nxS (Sx.e2 o), false, (Sx.num 4 4 (Sx.nxS (Sx.e3 o))).getD 0, (Sx.monthO (Sx.nxS (Sx.e4 o))).getD 0, (Sx.num 1 2 (Sx.nxS (Sx.e5 o))).getD 0, (Sx.clockV 2 (Sx.nxS (Sx.e6 o))).1, (Sx.clockV 2 (Sx.nxS (Sx.e6 o))).2⟩) := by show _ = _; rw [← hl1, ← hl2]; rfl
 have HL1 := hid hl1
 have HL2 := hid hl2
 rw [hl1] at n2
 have sb1 := Sx.spanV_bd l1.tail
 clear hl1 hl2
 go_enter Tryz.func147, Tryz.ntmps147
 go_wp2_with fail
 refine (next_any b _ _ T2.out).mono ?_
 rintro e w1 ⟨rfl, g1, t1⟩
 have GA := hid (gb_trans GB.out g1)
 have T1 : Hid (TkO w1 b lim (Sx.nxO o)) := t1
 have R1 := hid (ca_grown R2.out g1 hne)
 have X1 := hid (ca_grown X2.out g1 hne1)
 clear X2 R2 T2 GB g1 t1
 rw [HL1.out]
 obtain ⟨H, hH⟩ : ∃ H, decide (l1.head? = some 45) = H := ⟨_, rfl⟩
 have HH := hid hH
 clear hH
 go_upto_region 3 with fail
 go_cut [16] from 10 to 16 (fun s16 wc => s16 = .bool H ∧ wc = w1)
 case first =>
  match l1, HH with
  | [], HH =>
    have hf : H = false := HH.out.symm
    subst hf
    go_wp2_with fail
    go_meet
    exact ⟨rfl, rfl⟩
  | c :: r, HH =>
    have hq : ((c.toNat : Int) == 45) = H := by rw [← HH.out]; have := u8_eq c 45; simp at this; rw [Bool.eq_iff_iff]; simp [this]
    have h0 : (⟨(c :: r).toArray⟩ : ByteArray)[0]'(by rw [strV_size]; simp) = c := rfl
    have hs0 : 0 < (⟨(c :: r).toArray⟩ : ByteArray).size := by rw [strV_size]; simp
    clear HH
    go_wp2_with fail
    go_meet
    exact ⟨rfl, rfl⟩
 case rest =>
 obtain ⟨rfl, rfl⟩ := hcut
 go_upto_if 16 with fail
 go_cut [] from 17 to 26 (fun wc => Hid (w.grownBy wc (some b)) ∧ Hid (TkO wc b lim (Sx.e1 o)) ∧ Hid (CellsAt wc w.heap.size era0) ∧ Hid (CellsAt wc (w.heap.size + 1) (era0.set 0 (.int .i64 (Sx.shiftV l1)))))
 case first =>
  cases hb : H
  ·have SV : Hid (Sx.shiftV l1 = Sx.spanV l1) := by show _ = _; rw [Sx.shiftV, if_neg (by have := HH.out; rw [hb] at this; simpa using this)]
   have SO : Hid (Sx.gShift l1 = (Sx.spanO l1).isSome) := by show _ = _; rw [Sx.gShift, Sx.shiftO, if_neg (by have := HH.out; rw [hb] at this; simpa using this)]
   subst hb
   have X2 := X1
   have R2 := R1
   have T2 := T1
   have GB := GA
   clear X1 R1 T1 GA
   go_wp2_with fail
   refine (span_str b _ _ _ T2.out n2).mono ?_
   rintro e w2 ⟨rfl, g1, t1⟩
   have GA := hid (gb_trans GB.out g1)
   have T1 : Hid (TkO w2 b lim (Sx.keep (Sx.spanO l1).isSome (Sx.nxO o))) := t1
   have R1 := hid (ca_grown R2.out g1 hne)
   have X1 := hid (ca_grown X2.out g1 hne1)
   clear X2 R2 T2 GB g1 t1
   obtain ⟨k0, z0⟩ := ca_at X1.out 0 rfl
   have sz := X1.out.1
   go_wp2_with fail
   go_meet
   clear sz k0 z0
   have X2 := hid (ca_put (X1.out) 0 (.int .i64 (Sx.spanV l1)) (by simp [era0]))
   have R2 := hid (ca_far (o := 0) (u := .int .i64 (Sx.spanV l1)) (R1.out) hX)
   have T2 := hid (tkO_put (o := 0) (u := .int .i64 (Sx.spanV l1)) (T1.out) le1)
   have GB := hid (gb_put (o := 0) (u := .int .i64 (Sx.spanV l1)) (GA.out) (Nat.le_succ _))
   clear X1 R1 T1 GA
   rw [E1.out, SV.out, SO.out]
   exact ⟨GB, T2, R2, X2⟩
  ·have hq : l1.head? = some 45 := by have := HH.out; rw [hb] at this; simpa using this
   have SV : Hid (Sx.shiftV l1 = -Sx.spanV l1.tail) := by show _ = _; rw [Sx.shiftV, if_pos hq]
   have SO : Hid (Sx.gShift l1 = (Sx.spanO l1.tail).isSome) := by show _ = _; rw [Sx.gShift, Sx.shiftO, if_pos hq]; cases Sx.spanO l1.tail <;> rfl
   have hs0 : (1 : Int) ≤ ((⟨l1.toArray⟩ : ByteArray).size : Int) := by rw [strV_size]; cases l1 with | nil => cases hq | cons c r => simp; omega
   have TD := hid (show ((⟨l1.toArray⟩ : ByteArray).extract 1 (⟨l1.toArray⟩ : ByteArray).size).data.toList = l1.tail by rw [tail_of, strV_data]; simp)
   have nt : l1.tail.length ≤ 24 := by simp; omega
   obtain ⟨sb1, sb2⟩ := sb1
   subst hb
   clear hq
   have X2 := X1
   have R2 := R1
   have T2 := T1
   have GB := GA
   clear X1 R1 T1 GA
   go_wp2_with fail
   refine (span_of b _ _ _ TD.out _ T2.out nt).mono ?_
   rintro e w2 ⟨rfl, g1, t1⟩
   have GA := hid (gb_trans GB.out g1)
   have T1 : Hid (TkO w2 b lim (Sx.keep (Sx.spanO l1.tail).isSome (Sx.nxO o))) := t1
   have R1 := hid (ca_grown R2.out g1 hne)
   have X1 := hid (ca_grown X2.out g1 hne1)
   clear X2 R2 T2 GB g1 t1
   obtain ⟨k0, z0⟩ := ca_at X1.out 0 rfl
   have sz := X1.out.1
   go_wp2_with fail
   go_meet
   clear sz k0 z0
   have X2 := hid (ca_put (X1.out) 0 (.int .i64 (-Sx.spanV l1.tail)) (by simp [era0]))
   have R2 := hid (ca_far (o := 0) (u := .int .i64 (-Sx.spanV l1.tail)) (R1.out) hX)
   have T2 := hid (tkO_put (o := 0) (u := .int .i64 (-Sx.spanV l1.tail)) (T1.out) le1)
   have GB := hid (gb_put (o := 0) (u := .int .i64 (-Sx.spanV l1.tail)) (GA.out) (Nat.le_succ _))
   clear X1 R1 T1 GA
   rw [E1.out, SV.out, SO.out]
   exact ⟨GB, T2, R2, X2⟩
 case rest =>
 clear X1 R1 T1 GA n2 sb1 HH
 obtain ⟨GB, T2, R2, X2⟩ := hcut
 have n2 := nxS_len T2.out
 rw [HL2.out] at n2
 go_wp2_with fail
 refine (next_any b _ _ T2.out).mono ?_
 rintro e w3 ⟨rfl, g1, t1⟩
 have GA := hid (gb_trans GB.out g1)
 have T1 : Hid (TkO w3 b lim (Sx.nxO (Sx.e1 o))) := t1
 have R1 := hid (ca_grown R2.out g1 hne)
 have X1 := hid (ca_grown X2.out g1 hne1)
 clear X2 R2 T2 GB g1 t1
 rw [HL2.out]
 by_cases c1 : l2 = [45]
 ·have q1 : (l2 == [45]) = true := by simp [c1]
  have RV : Hid (Sx.rulesV l2 = ([], 0)) := by show _ = _; rw [Sx.rulesV, if_pos c1]
  have E2' : Hid (Sx.e2 o = Sx.nxO (Sx.e1 o)) := by show _ = _; rw [E2.out, c1]; rfl
  rw [← E2'.out] at T1
  clear c1 E2 E2'
  have X2 := X1
  have R2 := R1
  have T2 := T1
  have GB := GA
  clear X1 R1 T1 GA
  go_wp2_with fail
  have nf := nxS_len T2.out
  obtain ⟨l3, hl3⟩ : ∃ l3, Sx.nxS (Sx.e2 o) = l3 := ⟨_, rfl⟩
  rw [hl3] at nf ET0 ET1
  have E3 : Hid (Sx.e3 o = Sx.keep (Sx.formatB l3) (Sx.nxO (Sx.e2 o))) := by show _ = _; rw [← hl3]; rfl
  have HL3 := hid hl3
  clear hl3
  refine (next_any b _ _ T2.out).mono ?_
  rintro e w7 ⟨rfl, g1, t1⟩
  have GA := hid (gb_trans GB.out g1)
  have T1 : Hid (TkO w7 b lim (Sx.nxO (Sx.e2 o))) := t1
  have R1 := hid (ca_grown R2.out g1 hne)
  have X1 := hid (ca_grown X2.out g1 hne1)
  clear X2 R2 T2 GB g1 t1
  rw [HL3.out]
  obtain ⟨k3, z3⟩ := ca_at X1.out 3 rfl
  have sz := X1.out.1
  obtain ⟨B, hB⟩ : ∃ B, Sx.formatB l3 = B := ⟨_, rfl⟩
  have HB := hid hB
  clear hB
  go_upto_if 63 with (go_at_call 167; refine (isFormat_str _ _ nf HB.out).mono ?_; rintro e w8 ⟨rfl, rfl⟩)
  clear sz k3 z3
  have X2 := hid (ca_put (X1.out) 3 (strV l3) (by simp [era0]))
  have R2 := hid (ca_far (o := 3) (u := strV l3) (R1.out) hX)
  have T2 := hid (tkO_put (o := 3) (u := strV l3) (T1.out) le1)
  have GB := hid (gb_put (o := 3) (u := strV l3) (GA.out) (Nat.le_succ _))
  clear X1 R1 T1 GA
  go_cut [] from 64 to 66 (fun wc => Hid (w.grownBy wc (some b)) ∧ Hid (TkO wc b lim (Sx.e3 o)) ∧ Hid (CellsAt wc w.heap.size era0) ∧ Hid (CellsAt wc (w.heap.size + 1) ((era0.set 0 (.int .i64 (Sx.shiftV l1))).set 3 (strV l3))))
  case first =>
   obtain ⟨tx, bad, b0, b1, y0, y1, blt⟩ := tk_cells T2.out
   cases hb : B
   ·subst hb
    go_wp2_with fail
    go_meet
    rw [E3.out, HB.out]
    exact ⟨gb_set GB.out (.inl rfl) _, tkO_bad T2.out, ca_far R2.out hne, ca_far X2.out hne1⟩
   ·subst hb
    go_wp2_with fail
    go_meet
    rw [E3.out, HB.out]
    exact ⟨GB, T2, R2, X2⟩
  case rest =>
  clear X2 R2 T2 GB HB HL3 nf E3
  obtain ⟨GA, T1, R1, X1⟩ := hcut
  obtain ⟨la, ln, lcap, lc, hln⟩ := tk_len T1.out
  have bl := tkO_lt T1.out
  have HLN := hid hln
  clear hln
  by_cases h0 : ln = 0
  ·have EE := hid (eraEnd_open HLN.out h0)
   subst h0
   have sz := X1.out.1
   have sr := R1.out.1
   obtain ⟨k0, z0⟩ := ca_at X1.out 0 rfl
   obtain ⟨k1, z1⟩ := ca_at X1.out 1 rfl
   obtain ⟨k2, z2⟩ := ca_at X1.out 2 rfl
   obtain ⟨k3, z3⟩ := ca_at X1.out 3 rfl
   obtain ⟨k4, z4⟩ := ca_at X1.out 4 rfl
   obtain ⟨k5, z5⟩ := ca_at X1.out 5 rfl
   obtain ⟨k6, z6⟩ := ca_at X1.out 6 rfl
   obtain ⟨k7, z7⟩ := ca_at X1.out 7 rfl
   obtain ⟨k8, z8⟩ := ca_at X1.out 8 rfl
   obtain ⟨k9, z9⟩ := ca_at X1.out 9 rfl
   obtain ⟨p0, v0⟩ := ca_at R1.out 0 rfl
   obtain ⟨p1, v1⟩ := ca_at R1.out 1 rfl
   obtain ⟨p2, v2⟩ := ca_at R1.out 2 rfl
   obtain ⟨p3, v3⟩ := ca_at R1.out 3 rfl
   obtain ⟨p4, v4⟩ := ca_at R1.out 4 rfl
   obtain ⟨p5, v5⟩ := ca_at R1.out 5 rfl
   obtain ⟨p6, v6⟩ := ca_at R1.out 6 rfl
   obtain ⟨p7, v7⟩ := ca_at R1.out 7 rfl
   obtain ⟨p8, v8⟩ := ca_at R1.out 8 rfl
   obtain ⟨p9, v9⟩ := ca_at R1.out 9 rfl
   go_wp2
   refine bodyPost_ret (v := eraV ⟨Sx.shiftV l1, (Sx.rulesV l2).1, (Sx.rulesV l2).2, l3, true, 0, 0, 0, 0, 0⟩) (by simp [results, Tryz.results147, go_sem, RV.out, *]) rfl ⟨Sx.eraT0 o, _, by rw [ET0.out], ?_, ?_, EE.out⟩
   ·repeat (refine gb_put ?_ (by omega))
    exact GA.out
   ·repeat (refine tkO_put ?_ (by omega))
    exact T1.out
  ·have EE := hid (eraEnd_shut HLN.out h0)
   have h0' : ((ln : Int) == 0) = false := by simp; omega
   clear h0 HLN
   have X2 := X1
   have R2 := R1
   have T2 := T1
   have GB := GA
   clear X1 R1 T1 GA
   have n4 := nxS_len T2.out
   go_wp2_with fail
   clear lc
   refine (next_any b _ _ T2.out).mono ?_
   rintro e w9 ⟨rfl, g1, t1⟩
   have GA := hid (gb_trans GB.out g1)
   have T1 : Hid (TkO w9 b lim (Sx.nxO (Sx.e3 o))) := t1
   have R1 := hid (ca_grown R2.out g1 hne)
   have X1 := hid (ca_grown X2.out g1 hne1)
   clear X2 R2 T2 GB g1 t1
   go_wp2_with fail
   have X2 := X1
   have R2 := R1
   have T2 := T1
   have GB := GA
   clear X1 R1 T1 GA
   refine (number_str b _ _ 4 4 _ T2.out (by omega) n4).mono ?_
   rintro e w10 ⟨rfl, g1, t1⟩
   have GA := hid (gb_trans GB.out g1)
   have T1 : Hid (TkO w10 b lim (Sx.e4 o)) := t1
   have R1 := hid (ca_grown R2.out g1 hne)
   have X1 := hid (ca_grown X2.out g1 hne1)
   clear X2 R2 T2 GB g1 t1
   go_wp2_with fail
   have X2 := X1
   have R2 := R1
   have T2 := T1
   have GB := GA
   clear X1 R1 T1 GA
   refine (month_any b _ _ T2.out).mono ?_
   rintro e w11 ⟨rfl, g1, t1⟩
   have GA := hid (gb_trans GB.out g1)
   have T1 : Hid (TkO w11 b lim (Sx.e5 o)) := t1
   have R1 := hid (ca_grown R2.out g1 hne)
   have X1 := hid (ca_grown X2.out g1 hne1)
   clear X2 R2 T2 GB g1 t1
   go_wp2_with fail
   have X2 := X1
   have R2 := R1
   have T2 := T1
   have GB := GA
   clear X1 R1 T1 GA
   have n5 := nxS_len T2.out
   refine (next_any b _ _ T2.out).mono ?_
   rintro e w12 ⟨rfl, g1, t1⟩
   have GA := hid (gb_trans GB.out g1)
   have T1 : Hid (TkO w12 b lim (Sx.nxO (Sx.e5 o))) := t1
   have R1 := hid (ca_grown R2.out g1 hne)
   have X1 := hid (ca_grown X2.out g1 hne1)
   clear X2 R2 T2 GB g1 t1
   go_wp2_with fail
   have X2 := X1
   have R2 := R1
   have T2 := T1
   have GB := GA
   clear X1 R1 T1 GA
   refine (number_str b _ _ 1 2 _ T2.out (by omega) n5).mono ?_
   rintro e w13 ⟨rfl, g1, t1⟩
   have GA := hid (gb_trans GB.out g1)
   have T1 : Hid (TkO w13 b lim (Sx.e6 o)) := t1
   have R1 := hid (ca_grown R2.out g1 hne)
   have X1 := hid (ca_grown X2.out g1 hne1)
   clear X2 R2 T2 GB g1 t1
   obtain ⟨k5, z5⟩ := ca_at X1.out 5 rfl
   obtain ⟨k6, z6⟩ := ca_at X1.out 6 rfl
   obtain ⟨k7, z7⟩ := ca_at X1.out 7 rfl
   have sz := X1.out.1
   go_wp2_with fail
   clear sz k5 z5 k6 z6 k7 z7
   have X2 := hid (ca_put (ca_put (ca_put (X1.out) 5 (.int .i64 ((Sx.num 4 4 (Sx.nxS (Sx.e3 o))).getD 0)) (by simp [era0])) 6 (.int .i64 ((Sx.monthO (Sx.nxS (Sx.e4 o))).getD 0)) (by simp [era0])) 7 (.int .i64 ((Sx.num 1 2 (Sx.nxS (Sx.e5 o))).getD 0)) (by simp [era0]))
   have R2 := hid (ca_far (o := 7) (u := .int .i64 ((Sx.num 1 2 (Sx.nxS (Sx.e5 o))).getD 0)) (ca_far (o := 6) (u := .int .i64 ((Sx.monthO (Sx.nxS (Sx.e4 o))).getD 0)) (ca_far (o := 5) (u := .int .i64 ((Sx.num 4 4 (Sx.nxS (Sx.e3 o))).getD 0)) (R1.out) hX) hX) hX)
   have T2 := hid (tkO_put (o := 7) (u := .int .i64 ((Sx.num 1 2 (Sx.nxS (Sx.e5 o))).getD 0)) (tkO_put (o := 6) (u := .int .i64 ((Sx.monthO (Sx.nxS (Sx.e4 o))).getD 0)) (tkO_put (o := 5) (u := .int .i64 ((Sx.num 4 4 (Sx.nxS (Sx.e3 o))).getD 0)) (T1.out) le1) le1) le1)
   have GB := hid (gb_put (o := 7) (u := .int .i64 ((Sx.num 1 2 (Sx.nxS (Sx.e5 o))).getD 0)) (gb_put (o := 6) (u := .int .i64 ((Sx.monthO (Sx.nxS (Sx.e4 o))).getD 0)) (gb_put (o := 5) (u := .int .i64 ((Sx.num 4 4 (Sx.nxS (Sx.e3 o))).getD 0)) (GA.out) (Nat.le_succ _)) (Nat.le_succ _)) (Nat.le_succ _))
   clear X1 R1 T1 GA
   refine (clocked_any b _ 2 _ T2.out (.inr rfl)).mono ?_
   rintro e w14 ⟨rfl, g1, t1⟩
   have GA := hid (gb_trans GB.out g1)
   have T1 : Hid (TkO w14 b lim (Sx.e7 o)) := t1
   have R1 := hid (ca_grown R2.out g1 hne)
   have X1 := hid (ca_grown X2.out g1 hne1)
   clear X2 R2 T2 GB g1 t1
   have E8 : Hid (Sx.e8 o = Sx.keep (decide ((Sx.clockV 2 (Sx.nxS (Sx.e6 o))).2 ≠ 1)) (Sx.e7 o)) := rfl
   obtain ⟨⟨A, K⟩, hAK⟩ : ∃ p, Sx.clockV 2 (Sx.nxS (Sx.e6 o)) = p := ⟨_, rfl⟩
   rw [hAK] at E8 ET1 ⊢
   clear hAK
   have sz := X1.out.1
   have sr := R1.out.1
   obtain ⟨k0, z0⟩ := ca_at X1.out 0 rfl
   obtain ⟨k1, z1⟩ := ca_at X1.out 1 rfl
   obtain ⟨k2, z2⟩ := ca_at X1.out 2 rfl
   obtain ⟨k3, z3⟩ := ca_at X1.out 3 rfl
   obtain ⟨k4, z4⟩ := ca_at X1.out 4 rfl
   obtain ⟨k5, z5⟩ := ca_at X1.out 5 rfl
   obtain ⟨k6, z6⟩ := ca_at X1.out 6 rfl
   obtain ⟨k7, z7⟩ := ca_at X1.out 7 rfl
   obtain ⟨k8, z8⟩ := ca_at X1.out 8 rfl
   obtain ⟨k9, z9⟩ := ca_at X1.out 9 rfl
   obtain ⟨p0, v0⟩ := ca_at R1.out 0 rfl
   obtain ⟨p1, v1⟩ := ca_at R1.out 1 rfl
   obtain ⟨p2, v2⟩ := ca_at R1.out 2 rfl
   obtain ⟨p3, v3⟩ := ca_at R1.out 3 rfl
   obtain ⟨p4, v4⟩ := ca_at R1.out 4 rfl
   obtain ⟨p5, v5⟩ := ca_at R1.out 5 rfl
   obtain ⟨p6, v6⟩ := ca_at R1.out 6 rfl
   obtain ⟨p7, v7⟩ := ca_at R1.out 7 rfl
   obtain ⟨p8, v8⟩ := ca_at R1.out 8 rfl
   obtain ⟨p9, v9⟩ := ca_at R1.out 9 rfl
   obtain ⟨tx, bad, b0, b1, y0, y1, blt⟩ := tk_cells T1.out
   by_cases hK : K = 1
   ·have E8' : Hid (Sx.e8 o = none) := by show _ = _; rw [E8.out]; simp [hK, Sx.keep]
    subst hK
    go_wp2
    refine bodyPost_ret (v := eraV ⟨Sx.shiftV l1, (Sx.rulesV l2).1, (Sx.rulesV l2).2, l3, false, (Sx.num 4 4 (Sx.nxS (Sx.e3 o))).getD 0, (Sx.monthO (Sx.nxS (Sx.e4 o))).getD 0, (Sx.num 1 2 (Sx.nxS (Sx.e5 o))).getD 0, A, 1⟩) (by simp [results, Tryz.results147, go_sem, RV.out, *]) rfl ⟨Sx.eraT1 o, _, by rw [ET1.out], ?_, ?_, EE.out⟩
    ·repeat (refine gb_put ?_ (by omega))
     exact gb_set (gb_put (gb_put GA.out (by omega)) (by omega)) (.inl rfl) _
    ·rw [E8'.out]
     repeat (refine tkO_put ?_ (by omega))
     exact tkO_bad (tkO_put (tkO_put T1.out (by omega)) (by omega))
   ·have E8' : Hid (Sx.e8 o = Sx.e7 o) := by show _ = _; rw [E8.out]; simp [hK, Sx.keep]
    have hK' : (K == 1) = false := by simp [hK]
    clear hK
    go_wp2
    refine bodyPost_ret (v := eraV ⟨Sx.shiftV l1, (Sx.rulesV l2).1, (Sx.rulesV l2).2, l3, false, (Sx.num 4 4 (Sx.nxS (Sx.e3 o))).getD 0, (Sx.monthO (Sx.nxS (Sx.e4 o))).getD 0, (Sx.num 1 2 (Sx.nxS (Sx.e5 o))).getD 0, A, K⟩) (by simp [results, Tryz.results147, go_sem, RV.out, *]) rfl ⟨Sx.eraT1 o, _, by rw [ET1.out], ?_, ?_, EE.out⟩
    ·repeat (refine gb_put ?_ (by omega))
     exact GA.out
    ·rw [E8'.out]
     repeat (refine tkO_put ?_ (by omega))
     exact T1.out
 have q1 : (l2 == [45]) = false := by simpa using c1
 cases hd : Sx.digH l2
 ·have RV : Hid (Sx.rulesV l2 = (l2, 0)) := by show _ = _; rw [Sx.rulesV, if_neg c1, if_neg (by simp [hd])]
  have GR : Hid (Sx.gRules l2 = Sx.nameB l2) := by show _ = _; rw [Sx.gRules, Sx.rulesO_def, if_neg c1, if_neg (by simp [hd])]; cases Sx.nameB l2 <;> rfl
  obtain ⟨NB, hNB⟩ : ∃ NB, Sx.nameB l2 = NB := ⟨_, rfl⟩
  have HN := hid hNB
  clear hNB c1
  rw [HN.out] at GR
  obtain ⟨tx, bad, b0, b1, y0, y1, blt⟩ := tk_cells T1.out
  obtain ⟨k1, z1⟩ := ca_at X1.out 1 rfl
  have sz := X1.out.1
  match l2, hd with
  | [], hd =>
    have hnb : NB = false := HN.out.symm
    subst hnb
    go_wp2_with (go_at_call 120; refine (isName_str _ _ HN.out).mono ?_; rintro e w5 ⟨rfl, rfl⟩)
    clear sz k1 z1
    clear b0 b1 y0 y1 blt
    have X2 := hid (ca_put (ca_far (o := 1) (u := .bool true) X1.out hne1) 1 (strV []) (by simp [era0]))
    have R2 := hid (ca_far (o := 1) (u := strV []) (ca_far (o := 1) (u := .bool true) R1.out hne) hX)
    have T2 := hid (tkO_as (o := Sx.e2 o) (tkO_put (o := 1) (u := strV []) (tkO_bad T1.out) le1) (by rw [E2.out, GR.out]; rfl))
    have GB := hid (gb_put (o := 1) (u := strV []) (gb_set GA.out (p := ⟨b, 1, none⟩) (.inl rfl) (.bool true)) (Nat.le_succ _))
    clear X1 R1 T1 GA E2 GR HN
    have nf := nxS_len T2.out
    obtain ⟨l3, hl3⟩ : ∃ l3, Sx.nxS (Sx.e2 o) = l3 := ⟨_, rfl⟩
    rw [hl3] at nf ET0 ET1
    have E3 : Hid (Sx.e3 o = Sx.keep (Sx.formatB l3) (Sx.nxO (Sx.e2 o))) := by show _ = _; rw [← hl3]; rfl
    have HL3 := hid hl3
    clear hl3
    refine (next_any b _ _ T2.out).mono ?_
    rintro e w7 ⟨rfl, g1, t1⟩
    have GA := hid (gb_trans GB.out g1)
    have T1 : Hid (TkO w7 b lim (Sx.nxO (Sx.e2 o))) := t1
    have R1 := hid (ca_grown R2.out g1 hne)
    have X1 := hid (ca_grown X2.out g1 hne1)
    clear X2 R2 T2 GB g1 t1
    rw [HL3.out]
    obtain ⟨k3, z3⟩ := ca_at X1.out 3 rfl
    have sz := X1.out.1
    obtain ⟨B, hB⟩ : ∃ B, Sx.formatB l3 = B := ⟨_, rfl⟩
    have HB := hid hB
    clear hB
    go_upto_if 63 with (go_at_call 167; refine (isFormat_str _ _ nf HB.out).mono ?_; rintro e w8 ⟨rfl, rfl⟩)
    clear sz k3 z3
    have X2 := hid (ca_put (X1.out) 3 (strV l3) (by simp [era0]))
    have R2 := hid (ca_far (o := 3) (u := strV l3) (R1.out) hX)
    have T2 := hid (tkO_put (o := 3) (u := strV l3) (T1.out) le1)
    have GB := hid (gb_put (o := 3) (u := strV l3) (GA.out) (Nat.le_succ _))
    clear X1 R1 T1 GA
    go_cut [] from 64 to 66 (fun wc => Hid (w.grownBy wc (some b)) ∧ Hid (TkO wc b lim (Sx.e3 o)) ∧ Hid (CellsAt wc w.heap.size era0) ∧ Hid (CellsAt wc (w.heap.size + 1) (((era0.set 0 (.int .i64 (Sx.shiftV l1))).set 1 (strV [])).set 3 (strV l3))))
    case first =>
     obtain ⟨tx, bad, b0, b1, y0, y1, blt⟩ := tk_cells T2.out
     cases hb : B
     ·subst hb
      go_wp2_with fail
      go_meet
      rw [E3.out, HB.out]
      exact ⟨gb_set GB.out (.inl rfl) _, tkO_bad T2.out, ca_far R2.out hne, ca_far X2.out hne1⟩
     ·subst hb
      go_wp2_with fail
      go_meet
      rw [E3.out, HB.out]
      exact ⟨GB, T2, R2, X2⟩
    case rest =>
    clear X2 R2 T2 GB HB HL3 nf E3
    obtain ⟨GA, T1, R1, X1⟩ := hcut
    obtain ⟨la, ln, lcap, lc, hln⟩ := tk_len T1.out
    have bl := tkO_lt T1.out
    have HLN := hid hln
    clear hln
    by_cases h0 : ln = 0
    ·have EE := hid (eraEnd_open HLN.out h0)
     subst h0
     have sz := X1.out.1
     have sr := R1.out.1
     obtain ⟨k0, z0⟩ := ca_at X1.out 0 rfl
     obtain ⟨k1, z1⟩ := ca_at X1.out 1 rfl
     obtain ⟨k2, z2⟩ := ca_at X1.out 2 rfl
     obtain ⟨k3, z3⟩ := ca_at X1.out 3 rfl
     obtain ⟨k4, z4⟩ := ca_at X1.out 4 rfl
     obtain ⟨k5, z5⟩ := ca_at X1.out 5 rfl
     obtain ⟨k6, z6⟩ := ca_at X1.out 6 rfl
     obtain ⟨k7, z7⟩ := ca_at X1.out 7 rfl
     obtain ⟨k8, z8⟩ := ca_at X1.out 8 rfl
     obtain ⟨k9, z9⟩ := ca_at X1.out 9 rfl
     obtain ⟨p0, v0⟩ := ca_at R1.out 0 rfl
     obtain ⟨p1, v1⟩ := ca_at R1.out 1 rfl
     obtain ⟨p2, v2⟩ := ca_at R1.out 2 rfl
     obtain ⟨p3, v3⟩ := ca_at R1.out 3 rfl
     obtain ⟨p4, v4⟩ := ca_at R1.out 4 rfl
     obtain ⟨p5, v5⟩ := ca_at R1.out 5 rfl
     obtain ⟨p6, v6⟩ := ca_at R1.out 6 rfl
     obtain ⟨p7, v7⟩ := ca_at R1.out 7 rfl
     obtain ⟨p8, v8⟩ := ca_at R1.out 8 rfl
     obtain ⟨p9, v9⟩ := ca_at R1.out 9 rfl
     go_wp2
     refine bodyPost_ret (v := eraV ⟨Sx.shiftV l1, (Sx.rulesV []).1, (Sx.rulesV []).2, l3, true, 0, 0, 0, 0, 0⟩) (by simp [results, Tryz.results147, go_sem, RV.out, *]) rfl ⟨Sx.eraT0 o, _, by rw [ET0.out], ?_, ?_, EE.out⟩
     ·repeat (refine gb_put ?_ (by omega))
      exact GA.out
     ·repeat (refine tkO_put ?_ (by omega))
      exact T1.out
    ·have EE := hid (eraEnd_shut HLN.out h0)
     have h0' : ((ln : Int) == 0) = false := by simp; omega
     clear h0 HLN
     have X2 := X1
     have R2 := R1
     have T2 := T1
     have GB := GA
     clear X1 R1 T1 GA
     have n4 := nxS_len T2.out
     go_wp2_with fail
     clear lc
     refine (next_any b _ _ T2.out).mono ?_
     rintro e w9 ⟨rfl, g1, t1⟩
     have GA := hid (gb_trans GB.out g1)
     have T1 : Hid (TkO w9 b lim (Sx.nxO (Sx.e3 o))) := t1
     have R1 := hid (ca_grown R2.out g1 hne)
     have X1 := hid (ca_grown X2.out g1 hne1)
     clear X2 R2 T2 GB g1 t1
     go_wp2_with fail
     have X2 := X1
     have R2 := R1
     have T2 := T1
     have GB := GA
     clear X1 R1 T1 GA
     refine (number_str b _ _ 4 4 _ T2.out (by omega) n4).mono ?_
     rintro e w10 ⟨rfl, g1, t1⟩
     have GA := hid (gb_trans GB.out g1)
     have T1 : Hid (TkO w10 b lim (Sx.e4 o)) := t1
     have R1 := hid (ca_grown R2.out g1 hne)
     have X1 := hid (ca_grown X2.out g1 hne1)
     clear X2 R2 T2 GB g1 t1
     go_wp2_with fail
     have X2 := X1
     have R2 := R1
     have T2 := T1
     have GB := GA
     clear X1 R1 T1 GA
     refine (month_any b _ _ T2.out).mono ?_
     rintro e w11 ⟨rfl, g1, t1⟩
     have GA := hid (gb_trans GB.out g1)
     have T1 : Hid (TkO w11 b lim (Sx.e5 o)) := t1
     have R1 := hid (ca_grown R2.out g1 hne)
     have X1 := hid (ca_grown X2.out g1 hne1)
     clear X2 R2 T2 GB g1 t1
     go_wp2_with fail
     have X2 := X1
     have R2 := R1
     have T2 := T1
     have GB := GA
     clear X1 R1 T1 GA
     have n5 := nxS_len T2.out
     refine (next_any b _ _ T2.out).mono ?_
     rintro e w12 ⟨rfl, g1, t1⟩
     have GA := hid (gb_trans GB.out g1)
     have T1 : Hid (TkO w12 b lim (Sx.nxO (Sx.e5 o))) := t1
     have R1 := hid (ca_grown R2.out g1 hne)
     have X1 := hid (ca_grown X2.out g1 hne1)
     clear X2 R2 T2 GB g1 t1
     go_wp2_with fail
     have X2 := X1
     have R2 := R1
     have T2 := T1
     have GB := GA
     clear X1 R1 T1 GA
     refine (number_str b _ _ 1 2 _ T2.out (by omega) n5).mono ?_
     rintro e w13 ⟨rfl, g1, t1⟩
     have GA := hid (gb_trans GB.out g1)
     have T1 : Hid (TkO w13 b lim (Sx.e6 o)) := t1
     have R1 := hid (ca_grown R2.out g1 hne)
     have X1 := hid (ca_grown X2.out g1 hne1)
     clear X2 R2 T2 GB g1 t1
     obtain ⟨k5, z5⟩ := ca_at X1.out 5 rfl
     obtain ⟨k6, z6⟩ := ca_at X1.out 6 rfl
     obtain ⟨k7, z7⟩ := ca_at X1.out 7 rfl
     have sz := X1.out.1
     go_wp2_with fail
     clear sz k5 z5 k6 z6 k7 z7
     have X2 := hid (ca_put (ca_put (ca_put (X1.out) 5 (.int .i64 ((Sx.num 4 4 (Sx.nxS (Sx.e3 o))).getD 0)) (by simp [era0])) 6 (.int .i64 ((Sx.monthO (Sx.nxS (Sx.e4 o))).getD 0)) (by simp [era0])) 7 (.int .i64 ((Sx.num 1 2 (Sx.nxS (Sx.e5 o))).getD 0)) (by simp [era0]))
     have R2 := hid (ca_far (o := 7) (u := .int .i64 ((Sx.num 1 2 (Sx.nxS (Sx.e5 o))).getD 0)) (ca_far (o := 6) (u := .int .i64 ((Sx.monthO (Sx.nxS (Sx.e4 o))).getD 0)) (ca_far (o := 5) (u := .int .i64 ((Sx.num 4 4 (Sx.nxS (Sx.e3 o))).getD 0)) (R1.out) hX) hX) hX)
     have T2 := hid (tkO_put (o := 7) (u := .int .i64 ((Sx.num 1 2 (Sx.nxS (Sx.e5 o))).getD 0)) (tkO_put (o := 6) (u := .int .i64 ((Sx.monthO (Sx.nxS (Sx.e4 o))).getD 0)) (tkO_put (o := 5) (u := .int .i64 ((Sx.num 4 4 (Sx.nxS (Sx.e3 o))).getD 0)) (T1.out) le1) le1) le1)
     have GB := hid (gb_put (o := 7) (u := .int .i64 ((Sx.num 1 2 (Sx.nxS (Sx.e5 o))).getD 0)) (gb_put (o := 6) (u := .int .i64 ((Sx.monthO (Sx.nxS (Sx.e4 o))).getD 0)) (gb_put (o := 5) (u := .int .i64 ((Sx.num 4 4 (Sx.nxS (Sx.e3 o))).getD 0)) (GA.out) (Nat.le_succ _)) (Nat.le_succ _)) (Nat.le_succ _))
     clear X1 R1 T1 GA
     refine (clocked_any b _ 2 _ T2.out (.inr rfl)).mono ?_
     rintro e w14 ⟨rfl, g1, t1⟩
     have GA := hid (gb_trans GB.out g1)
     have T1 : Hid (TkO w14 b lim (Sx.e7 o)) := t1
     have R1 := hid (ca_grown R2.out g1 hne)
     have X1 := hid (ca_grown X2.out g1 hne1)
     clear X2 R2 T2 GB g1 t1
     have E8 : Hid (Sx.e8 o = Sx.keep (decide ((Sx.clockV 2 (Sx.nxS (Sx.e6 o))).2 ≠ 1)) (Sx.e7 o)) := rfl
     obtain ⟨⟨A, K⟩, hAK⟩ : ∃ p, Sx.clockV 2 (Sx.nxS (Sx.e6 o)) = p := ⟨_, rfl⟩
     rw [hAK] at E8 ET1 ⊢
     clear hAK
     have sz := X1.out.1
     have sr := R1.out.1
     obtain ⟨k0, z0⟩ := ca_at X1.out 0 rfl
     obtain ⟨k1, z1⟩ := ca_at X1.out 1 rfl
     obtain ⟨k2, z2⟩ := ca_at X1.out 2 rfl
     obtain ⟨k3, z3⟩ := ca_at X1.out 3 rfl
     obtain ⟨k4, z4⟩ := ca_at X1.out 4 rfl
     obtain ⟨k5, z5⟩ := ca_at X1.out 5 rfl
     obtain ⟨k6, z6⟩ := ca_at X1.out 6 rfl
     obtain ⟨k7, z7⟩ := ca_at X1.out 7 rfl
     obtain ⟨k8, z8⟩ := ca_at X1.out 8 rfl
     obtain ⟨k9, z9⟩ := ca_at X1.out 9 rfl
     obtain ⟨p0, v0⟩ := ca_at R1.out 0 rfl
     obtain ⟨p1, v1⟩ := ca_at R1.out 1 rfl
     obtain ⟨p2, v2⟩ := ca_at R1.out 2 rfl
     obtain ⟨p3, v3⟩ := ca_at R1.out 3 rfl
     obtain ⟨p4, v4⟩ := ca_at R1.out 4 rfl
     obtain ⟨p5, v5⟩ := ca_at R1.out 5 rfl
     obtain ⟨p6, v6⟩ := ca_at R1.out 6 rfl
     obtain ⟨p7, v7⟩ := ca_at R1.out 7 rfl
     obtain ⟨p8, v8⟩ := ca_at R1.out 8 rfl
     obtain ⟨p9, v9⟩ := ca_at R1.out 9 rfl
     obtain ⟨tx, bad, b0, b1, y0, y1, blt⟩ := tk_cells T1.out
     by_cases hK : K = 1
     ·have E8' : Hid (Sx.e8 o = none) := by show _ = _; rw [E8.out]; simp [hK, Sx.keep]
      subst hK
      go_wp2
      refine bodyPost_ret (v := eraV ⟨Sx.shiftV l1, (Sx.rulesV []).1, (Sx.rulesV []).2, l3, false, (Sx.num 4 4 (Sx.nxS (Sx.e3 o))).getD 0, (Sx.monthO (Sx.nxS (Sx.e4 o))).getD 0, (Sx.num 1 2 (Sx.nxS (Sx.e5 o))).getD 0, A, 1⟩) (by simp [results, Tryz.results147, go_sem, RV.out, *]) rfl ⟨Sx.eraT1 o, _, by rw [ET1.out], ?_, ?_, EE.out⟩
      ·repeat (refine gb_put ?_ (by omega))
       exact gb_set (gb_put (gb_put GA.out (by omega)) (by omega)) (.inl rfl) _
      ·rw [E8'.out]
       repeat (refine tkO_put ?_ (by omega))
       exact tkO_bad (tkO_put (tkO_put T1.out (by omega)) (by omega))
     ·have E8' : Hid (Sx.e8 o = Sx.e7 o) := by show _ = _; rw [E8.out]; simp [hK, Sx.keep]
      have hK' : (K == 1) = false := by simp [hK]
      clear hK
      go_wp2
      refine bodyPost_ret (v := eraV ⟨Sx.shiftV l1, (Sx.rulesV []).1, (Sx.rulesV []).2, l3, false, (Sx.num 4 4 (Sx.nxS (Sx.e3 o))).getD 0, (Sx.monthO (Sx.nxS (Sx.e4 o))).getD 0, (Sx.num 1 2 (Sx.nxS (Sx.e5 o))).getD 0, A, K⟩) (by simp [results, Tryz.results147, go_sem, RV.out, *]) rfl ⟨Sx.eraT1 o, _, by rw [ET1.out], ?_, ?_, EE.out⟩
      ·repeat (refine gb_put ?_ (by omega))
       exact GA.out
      ·rw [E8'.out]
       repeat (refine tkO_put ?_ (by omega))
       exact T1.out
  | c :: r, hd =>
    have HD : Hid (Sx.digB c = false) := hd
    have h0 : (⟨(c :: r).toArray⟩ : ByteArray)[0]'(by rw [strV_size]; simp) = c := rfl
    have hs0 : 0 < (⟨(c :: r).toArray⟩ : ByteArray).size := by rw [strV_size]; simp
    clear hd
    cases hnb : NB
    ·subst hnb
     go_wp2_with (first | (go_at_call 166; refine (rDigit_is _ _ HD.out).mono ?_; rintro e w4 ⟨rfl, rfl⟩) | (go_at_call 120; refine (isName_str _ _ HN.out).mono ?_; rintro e w5 ⟨rfl, rfl⟩))
     clear sz k1 z1
     clear b0 b1 y0 y1 blt
     have X2 := hid (ca_put (ca_far (o := 1) (u := .bool true) X1.out hne1) 1 (strV (c :: r)) (by simp [era0]))
     have R2 := hid (ca_far (o := 1) (u := strV (c :: r)) (ca_far (o := 1) (u := .bool true) R1.out hne) hX)
     have T2 := hid (tkO_as (o := Sx.e2 o) (tkO_put (o := 1) (u := strV (c :: r)) (tkO_bad T1.out) le1) (by rw [E2.out, GR.out]; rfl))
     have GB := hid (gb_put (o := 1) (u := strV (c :: r)) (gb_set GA.out (p := ⟨b, 1, none⟩) (.inl rfl) (.bool true)) (Nat.le_succ _))
     clear X1 R1 T1 GA E2 GR HN
     have nf := nxS_len T2.out
     obtain ⟨l3, hl3⟩ : ∃ l3, Sx.nxS (Sx.e2 o) = l3 := ⟨_, rfl⟩
     rw [hl3] at nf ET0 ET1
     have E3 : Hid (Sx.e3 o = Sx.keep (Sx.formatB l3) (Sx.nxO (Sx.e2 o))) := by show _ = _; rw [← hl3]; rfl
     have HL3 := hid hl3
     clear hl3
     refine (next_any b _ _ T2.out).mono ?_
     rintro e w7 ⟨rfl, g1, t1⟩
     have GA := hid (gb_trans GB.out g1)
     have T1 : Hid (TkO w7 b lim (Sx.nxO (Sx.e2 o))) := t1
     have R1 := hid (ca_grown R2.out g1 hne)
     have X1 := hid (ca_grown X2.out g1 hne1)
     clear X2 R2 T2 GB g1 t1
     rw [HL3.out]
     obtain ⟨k3, z3⟩ := ca_at X1.out 3 rfl
     have sz := X1.out.1
     obtain ⟨B, hB⟩ : ∃ B, Sx.formatB l3 = B := ⟨_, rfl⟩
     have HB := hid hB
     clear hB
     go_upto_if 63 with (go_at_call 167; refine (isFormat_str _ _ nf HB.out).mono ?_; rintro e w8 ⟨rfl, rfl⟩)
     clear sz k3 z3
     have X2 := hid (ca_put (X1.out) 3 (strV l3) (by simp [era0]))
     have R2 := hid (ca_far (o := 3) (u := strV l3) (R1.out) hX)
     have T2 := hid (tkO_put (o := 3) (u := strV l3) (T1.out) le1)
     have GB := hid (gb_put (o := 3) (u := strV l3) (GA.out) (Nat.le_succ _))
     clear X1 R1 T1 GA
     go_cut [] from 64 to 66 (fun wc => Hid (w.grownBy wc (some b)) ∧ Hid (TkO wc b lim (Sx.e3 o)) ∧ Hid (CellsAt wc w.heap.size era0) ∧ Hid (CellsAt wc (w.heap.size + 1) (((era0.set 0 (.int .i64 (Sx.shiftV l1))).set 1 (strV (c :: r))).set 3 (strV l3))))
     case first =>
      obtain ⟨tx, bad, b0, b1, y0, y1, blt⟩ := tk_cells T2.out
      cases hb : B
      ·subst hb
       go_wp2_with fail
       go_meet
       rw [E3.out, HB.out]
       exact ⟨gb_set GB.out (.inl rfl) _, tkO_bad T2.out, ca_far R2.out hne, ca_far X2.out hne1⟩
      ·subst hb
       go_wp2_with fail
       go_meet
       rw [E3.out, HB.out]
       exact ⟨GB, T2, R2, X2⟩
     case rest =>
     clear X2 R2 T2 GB HB HL3 nf E3
     obtain ⟨GA, T1, R1, X1⟩ := hcut
     obtain ⟨la, ln, lcap, lc, hln⟩ := tk_len T1.out
     have bl := tkO_lt T1.out
     have HLN := hid hln
     clear hln
     by_cases h0 : ln = 0
     ·have EE := hid (eraEnd_open HLN.out h0)
      subst h0
      have sz := X1.out.1
      have sr := R1.out.1
      obtain ⟨k0, z0⟩ := ca_at X1.out 0 rfl
      obtain ⟨k1, z1⟩ := ca_at X1.out 1 rfl
      obtain ⟨k2, z2⟩ := ca_at X1.out 2 rfl
      obtain ⟨k3, z3⟩ := ca_at X1.out 3 rfl
      obtain ⟨k4, z4⟩ := ca_at X1.out 4 rfl
      obtain ⟨k5, z5⟩ := ca_at X1.out 5 rfl
      obtain ⟨k6, z6⟩ := ca_at X1.out 6 rfl
      obtain ⟨k7, z7⟩ := ca_at X1.out 7 rfl
      obtain ⟨k8, z8⟩ := ca_at X1.out 8 rfl
      obtain ⟨k9, z9⟩ := ca_at X1.out 9 rfl
      obtain ⟨p0, v0⟩ := ca_at R1.out 0 rfl
      obtain ⟨p1, v1⟩ := ca_at R1.out 1 rfl
      obtain ⟨p2, v2⟩ := ca_at R1.out 2 rfl
      obtain ⟨p3, v3⟩ := ca_at R1.out 3 rfl
      obtain ⟨p4, v4⟩ := ca_at R1.out 4 rfl
      obtain ⟨p5, v5⟩ := ca_at R1.out 5 rfl
      obtain ⟨p6, v6⟩ := ca_at R1.out 6 rfl
      obtain ⟨p7, v7⟩ := ca_at R1.out 7 rfl
      obtain ⟨p8, v8⟩ := ca_at R1.out 8 rfl
      obtain ⟨p9, v9⟩ := ca_at R1.out 9 rfl
      go_wp2
      refine bodyPost_ret (v := eraV ⟨Sx.shiftV l1, (Sx.rulesV (c :: r)).1, (Sx.rulesV (c :: r)).2, l3, true, 0, 0, 0, 0, 0⟩) (by simp [results, Tryz.results147, go_sem, RV.out, *]) rfl ⟨Sx.eraT0 o, _, by rw [ET0.out], ?_, ?_, EE.out⟩
      ·repeat (refine gb_put ?_ (by omega))
       exact GA.out
      ·repeat (refine tkO_put ?_ (by omega))
       exact T1.out
     ·have EE := hid (eraEnd_shut HLN.out h0)
      have h0' : ((ln : Int) == 0) = false := by simp; omega
      clear h0 HLN
      have X2 := X1
      have R2 := R1
      have T2 := T1
      have GB := GA
      clear X1 R1 T1 GA
      have n4 := nxS_len T2.out
      go_wp2_with fail
      clear lc
      refine (next_any b _ _ T2.out).mono ?_
      rintro e w9 ⟨rfl, g1, t1⟩
      have GA := hid (gb_trans GB.out g1)
      have T1 : Hid (TkO w9 b lim (Sx.nxO (Sx.e3 o))) := t1
      have R1 := hid (ca_grown R2.out g1 hne)
      have X1 := hid (ca_grown X2.out g1 hne1)
      clear X2 R2 T2 GB g1 t1
      go_wp2_with fail
      have X2 := X1
      have R2 := R1
      have T2 := T1
      have GB := GA
      clear X1 R1 T1 GA
      refine (number_str b _ _ 4 4 _ T2.out (by omega) n4).mono ?_
      rintro e w10 ⟨rfl, g1, t1⟩
      have GA := hid (gb_trans GB.out g1)
      have T1 : Hid (TkO w10 b lim (Sx.e4 o)) := t1
      have R1 := hid (ca_grown R2.out g1 hne)
      have X1 := hid (ca_grown X2.out g1 hne1)
      clear X2 R2 T2 GB g1 t1
      go_wp2_with fail
      have X2 := X1
      have R2 := R1
      have T2 := T1
      have GB := GA
      clear X1 R1 T1 GA
      refine (month_any b _ _ T2.out).mono ?_
      rintro e w11 ⟨rfl, g1, t1⟩
      have GA := hid (gb_trans GB.out g1)
      have T1 : Hid (TkO w11 b lim (Sx.e5 o)) := t1
      have R1 := hid (ca_grown R2.out g1 hne)
      have X1 := hid (ca_grown X2.out g1 hne1)
      clear X2 R2 T2 GB g1 t1
      go_wp2_with fail
      have X2 := X1
      have R2 := R1
      have T2 := T1
      have GB := GA
      clear X1 R1 T1 GA
      have n5 := nxS_len T2.out
      refine (next_any b _ _ T2.out).mono ?_
      rintro e w12 ⟨rfl, g1, t1⟩
      have GA := hid (gb_trans GB.out g1)
      have T1 : Hid (TkO w12 b lim (Sx.nxO (Sx.e5 o))) := t1
      have R1 := hid (ca_grown R2.out g1 hne)
      have X1 := hid (ca_grown X2.out g1 hne1)
      clear X2 R2 T2 GB g1 t1
      go_wp2_with fail
      have X2 := X1
      have R2 := R1
      have T2 := T1
      have GB := GA
      clear X1 R1 T1 GA
      refine (number_str b _ _ 1 2 _ T2.out (by omega) n5).mono ?_
      rintro e w13 ⟨rfl, g1, t1⟩
      have GA := hid (gb_trans GB.out g1)
      have T1 : Hid (TkO w13 b lim (Sx.e6 o)) := t1
      have R1 := hid (ca_grown R2.out g1 hne)
      have X1 := hid (ca_grown X2.out g1 hne1)
      clear X2 R2 T2 GB g1 t1
      obtain ⟨k5, z5⟩ := ca_at X1.out 5 rfl
      obtain ⟨k6, z6⟩ := ca_at X1.out 6 rfl
      obtain ⟨k7, z7⟩ := ca_at X1.out 7 rfl
      have sz := X1.out.1
      go_wp2_with fail
      clear sz k5 z5 k6 z6 k7 z7
      have X2 := hid (ca_put (ca_put (ca_put (X1.out) 5 (.int .i64 ((Sx.num 4 4 (Sx.nxS (Sx.e3 o))).getD 0)) (by simp [era0])) 6 (.int .i64 ((Sx.monthO (Sx.nxS (Sx.e4 o))).getD 0)) (by simp [era0])) 7 (.int .i64 ((Sx.num 1 2 (Sx.nxS (Sx.e5 o))).getD 0)) (by simp [era0]))
      have R2 := hid (ca_far (o := 7) (u := .int .i64 ((Sx.num 1 2 (Sx.nxS (Sx.e5 o))).getD 0)) (ca_far (o := 6) (u := .int .i64 ((Sx.monthO (Sx.nxS (Sx.e4 o))).getD 0)) (ca_far (o := 5) (u := .int .i64 ((Sx.num 4 4 (Sx.nxS (Sx.e3 o))).getD 0)) (R1.out) hX) hX) hX)
      have T2 := hid (tkO_put (o := 7) (u := .int .i64 ((Sx.num 1 2 (Sx.nxS (Sx.e5 o))).getD 0)) (tkO_put (o := 6) (u := .int .i64 ((Sx.monthO (Sx.nxS (Sx.e4 o))).getD 0)) (tkO_put (o := 5) (u := .int .i64 ((Sx.num 4 4 (Sx.nxS (Sx.e3 o))).getD 0)) (T1.out) le1) le1) le1)
      have GB := hid (gb_put (o := 7) (u := .int .i64 ((Sx.num 1 2 (Sx.nxS (Sx.e5 o))).getD 0)) (gb_put (o := 6) (u := .int .i64 ((Sx.monthO (Sx.nxS (Sx.e4 o))).getD 0)) (gb_put (o := 5) (u := .int .i64 ((Sx.num 4 4 (Sx.nxS (Sx.e3 o))).getD 0)) (GA.out) (Nat.le_succ _)) (Nat.le_succ _)) (Nat.le_succ _))
      clear X1 R1 T1 GA
      refine (clocked_any b _ 2 _ T2.out (.inr rfl)).mono ?_
      rintro e w14 ⟨rfl, g1, t1⟩
      have GA := hid (gb_trans GB.out g1)
      have T1 : Hid (TkO w14 b lim (Sx.e7 o)) := t1
      have R1 := hid (ca_grown R2.out g1 hne)
      have X1 := hid (ca_grown X2.out g1 hne1)
      clear X2 R2 T2 GB g1 t1
      have E8 : Hid (Sx.e8 o = Sx.keep (decide ((Sx.clockV 2 (Sx.nxS (Sx.e6 o))).2 ≠ 1)) (Sx.e7 o)) := rfl
      obtain ⟨⟨A, K⟩, hAK⟩ : ∃ p, Sx.clockV 2 (Sx.nxS (Sx.e6 o)) = p := ⟨_, rfl⟩
      rw [hAK] at E8 ET1 ⊢
      clear hAK
      have sz := X1.out.1
      have sr := R1.out.1
      obtain ⟨k0, z0⟩ := ca_at X1.out 0 rfl
      obtain ⟨k1, z1⟩ := ca_at X1.out 1 rfl
      obtain ⟨k2, z2⟩ := ca_at X1.out 2 rfl
      obtain ⟨k3, z3⟩ := ca_at X1.out 3 rfl
      obtain ⟨k4, z4⟩ := ca_at X1.out 4 rfl
      obtain ⟨k5, z5⟩ := ca_at X1.out 5 rfl
      obtain ⟨k6, z6⟩ := ca_at X1.out 6 rfl
      obtain ⟨k7, z7⟩ := ca_at X1.out 7 rfl
      obtain ⟨k8, z8⟩ := ca_at X1.out 8 rfl
      obtain ⟨k9, z9⟩ := ca_at X1.out 9 rfl
      obtain ⟨p0, v0⟩ := ca_at R1.out 0 rfl
      obtain ⟨p1, v1⟩ := ca_at R1.out 1 rfl
      obtain ⟨p2, v2⟩ := ca_at R1.out 2 rfl
      obtain ⟨p3, v3⟩ := ca_at R1.out 3 rfl
      obtain ⟨p4, v4⟩ := ca_at R1.out 4 rfl
      obtain ⟨p5, v5⟩ := ca_at R1.out 5 rfl
      obtain ⟨p6, v6⟩ := ca_at R1.out 6 rfl
      obtain ⟨p7, v7⟩ := ca_at R1.out 7 rfl
      obtain ⟨p8, v8⟩ := ca_at R1.out 8 rfl
      obtain ⟨p9, v9⟩ := ca_at R1.out 9 rfl
      obtain ⟨tx, bad, b0, b1, y0, y1, blt⟩ := tk_cells T1.out
      by_cases hK : K = 1
      ·have E8' : Hid (Sx.e8 o = none) := by show _ = _; rw [E8.out]; simp [hK, Sx.keep]
       subst hK
       go_wp2
       refine bodyPost_ret (v := eraV ⟨Sx.shiftV l1, (Sx.rulesV (c :: r)).1, (Sx.rulesV (c :: r)).2, l3, false, (Sx.num 4 4 (Sx.nxS (Sx.e3 o))).getD 0, (Sx.monthO (Sx.nxS (Sx.e4 o))).getD 0, (Sx.num 1 2 (Sx.nxS (Sx.e5 o))).getD 0, A, 1⟩) (by simp [results, Tryz.results147, go_sem, RV.out, *]) rfl ⟨Sx.eraT1 o, _, by rw [ET1.out], ?_, ?_, EE.out⟩
       ·repeat (refine gb_put ?_ (by omega))
        exact gb_set (gb_put (gb_put GA.out (by omega)) (by omega)) (.inl rfl) _
       ·rw [E8'.out]
        repeat (refine tkO_put ?_ (by omega))
        exact tkO_bad (tkO_put (tkO_put T1.out (by omega)) (by omega))
      ·have E8' : Hid (Sx.e8 o = Sx.e7 o) := by show _ = _; rw [E8.out]; simp [hK, Sx.keep]
       have hK' : (K == 1) = false := by simp [hK]
       clear hK
       go_wp2
       refine bodyPost_ret (v := eraV ⟨Sx.shiftV l1, (Sx.rulesV (c :: r)).1, (Sx.rulesV (c :: r)).2, l3, false, (Sx.num 4 4 (Sx.nxS (Sx.e3 o))).getD 0, (Sx.monthO (Sx.nxS (Sx.e4 o))).getD 0, (Sx.num 1 2 (Sx.nxS (Sx.e5 o))).getD 0, A, K⟩) (by simp [results, Tryz.results147, go_sem, RV.out, *]) rfl ⟨Sx.eraT1 o, _, by rw [ET1.out], ?_, ?_, EE.out⟩
       ·repeat (refine gb_put ?_ (by omega))
        exact GA.out
       ·rw [E8'.out]
        repeat (refine tkO_put ?_ (by omega))
        exact T1.out
    ·subst hnb
     go_wp2_with (first | (go_at_call 166; refine (rDigit_is _ _ HD.out).mono ?_; rintro e w4 ⟨rfl, rfl⟩) | (go_at_call 120; refine (isName_str _ _ HN.out).mono ?_; rintro e w5 ⟨rfl, rfl⟩))
     clear sz k1 z1
     clear b0 b1 y0 y1 blt
     have X2 := hid (ca_put X1.out 1 (strV (c :: r)) (by simp [era0]))
     have R2 := hid (ca_far (o := 1) (u := strV (c :: r)) R1.out hX)
     have T2 := hid (tkO_as (o := Sx.e2 o) (tkO_put (o := 1) (u := strV (c :: r)) T1.out le1) (by rw [E2.out, GR.out]; rfl))
     have GB := hid (gb_put (o := 1) (u := strV (c :: r)) GA.out (Nat.le_succ _))
     clear X1 R1 T1 GA E2 GR HN
     have nf := nxS_len T2.out
     obtain ⟨l3, hl3⟩ : ∃ l3, Sx.nxS (Sx.e2 o) = l3 := ⟨_, rfl⟩
     rw [hl3] at nf ET0 ET1
     have E3 : Hid (Sx.e3 o = Sx.keep (Sx.formatB l3) (Sx.nxO (Sx.e2 o))) := by show _ = _; rw [← hl3]; rfl
     have HL3 := hid hl3
     clear hl3
     refine (next_any b _ _ T2.out).mono ?_
     rintro e w7 ⟨rfl, g1, t1⟩
     have GA := hid (gb_trans GB.out g1)
     have T1 : Hid (TkO w7 b lim (Sx.nxO (Sx.e2 o))) := t1
     have R1 := hid (ca_grown R2.out g1 hne)
     have X1 := hid (ca_grown X2.out g1 hne1)
     clear X2 R2 T2 GB g1 t1
     rw [HL3.out]
     obtain ⟨k3, z3⟩ := ca_at X1.out 3 rfl
     have sz := X1.out.1
     obtain ⟨B, hB⟩ : ∃ B, Sx.formatB l3 = B := ⟨_, rfl⟩
     have HB := hid hB
     clear hB
     go_upto_if 63 with (go_at_call 167; refine (isFormat_str _ _ nf HB.out).mono ?_; rintro e w8 ⟨rfl, rfl⟩)
     clear sz k3 z3
     have X2 := hid (ca_put (X1.out) 3 (strV l3) (by simp [era0]))
     have R2 := hid (ca_far (o := 3) (u := strV l3) (R1.out) hX)
     have T2 := hid (tkO_put (o := 3) (u := strV l3) (T1.out) le1)
     have GB := hid (gb_put (o := 3) (u := strV l3) (GA.out) (Nat.le_succ _))
     clear X1 R1 T1 GA
     go_cut [] from 64 to 66 (fun wc => Hid (w.grownBy wc (some b)) ∧ Hid (TkO wc b lim (Sx.e3 o)) ∧ Hid (CellsAt wc w.heap.size era0) ∧ Hid (CellsAt wc (w.heap.size + 1) (((era0.set 0 (.int .i64 (Sx.shiftV l1))).set 1 (strV (c :: r))).set 3 (strV l3))))
     case first =>
      obtain ⟨tx, bad, b0, b1, y0, y1, blt⟩ := tk_cells T2.out
      cases hb : B
      ·subst hb
       go_wp2_with fail
       go_meet
       rw [E3.out, HB.out]
       exact ⟨gb_set GB.out (.inl rfl) _, tkO_bad T2.out, ca_far R2.out hne, ca_far X2.out hne1⟩
      ·subst hb
       go_wp2_with fail
       go_meet
       rw [E3.out, HB.out]
       exact ⟨GB, T2, R2, X2⟩
     case rest =>
     clear X2 R2 T2 GB HB HL3 nf E3
     obtain ⟨GA, T1, R1, X1⟩ := hcut
     obtain ⟨la, ln, lcap, lc, hln⟩ := tk_len T1.out
     have bl := tkO_lt T1.out
     have HLN := hid hln
     clear hln
     by_cases h0 : ln = 0
     ·have EE := hid (eraEnd_open HLN.out h0)
      subst h0
      have sz := X1.out.1
      have sr := R1.out.1
      obtain ⟨k0, z0⟩ := ca_at X1.out 0 rfl
      obtain ⟨k1, z1⟩ := ca_at X1.out 1 rfl
      obtain ⟨k2, z2⟩ := ca_at X1.out 2 rfl
      obtain ⟨k3, z3⟩ := ca_at X1.out 3 rfl
      obtain ⟨k4, z4⟩ := ca_at X1.out 4 rfl
      obtain ⟨k5, z5⟩ := ca_at X1.out 5 rfl
      obtain ⟨k6, z6⟩ := ca_at X1.out 6 rfl
      obtain ⟨k7, z7⟩ := ca_at X1.out 7 rfl
      obtain ⟨k8, z8⟩ := ca_at X1.out 8 rfl
      obtain ⟨k9, z9⟩ := ca_at X1.out 9 rfl
      obtain ⟨p0, v0⟩ := ca_at R1.out 0 rfl
      obtain ⟨p1, v1⟩ := ca_at R1.out 1 rfl
      obtain ⟨p2, v2⟩ := ca_at R1.out 2 rfl
      obtain ⟨p3, v3⟩ := ca_at R1.out 3 rfl
      obtain ⟨p4, v4⟩ := ca_at R1.out 4 rfl
      obtain ⟨p5, v5⟩ := ca_at R1.out 5 rfl
      obtain ⟨p6, v6⟩ := ca_at R1.out 6 rfl
      obtain ⟨p7, v7⟩ := ca_at R1.out 7 rfl
      obtain ⟨p8, v8⟩ := ca_at R1.out 8 rfl
      obtain ⟨p9, v9⟩ := ca_at R1.out 9 rfl
      go_wp2
      refine bodyPost_ret (v := eraV ⟨Sx.shiftV l1, (Sx.rulesV (c :: r)).1, (Sx.rulesV (c :: r)).2, l3, true, 0, 0, 0, 0, 0⟩) (by simp [results, Tryz.results147, go_sem, RV.out, *]) rfl ⟨Sx.eraT0 o, _, by rw [ET0.out], ?_, ?_, EE.out⟩
      ·repeat (refine gb_put ?_ (by omega))
       exact GA.out
      ·repeat (refine tkO_put ?_ (by omega))
       exact T1.out
     ·have EE := hid (eraEnd_shut HLN.out h0)
      have h0' : ((ln : Int) == 0) = false := by simp; omega
      clear h0 HLN
      have X2 := X1
      have R2 := R1
      have T2 := T1
      have GB := GA
      clear X1 R1 T1 GA
      have n4 := nxS_len T2.out
      go_wp2_with fail
      clear lc
      refine (next_any b _ _ T2.out).mono ?_
      rintro e w9 ⟨rfl, g1, t1⟩
      have GA := hid (gb_trans GB.out g1)
      have T1 : Hid (TkO w9 b lim (Sx.nxO (Sx.e3 o))) := t1
      have R1 := hid (ca_grown R2.out g1 hne)
      have X1 := hid (ca_grown X2.out g1 hne1)
      clear X2 R2 T2 GB g1 t1
      go_wp2_with fail
      have X2 := X1
      have R2 := R1
      have T2 := T1
      have GB := GA
      clear X1 R1 T1 GA
      refine (number_str b _ _ 4 4 _ T2.out (by omega) n4).mono ?_
      rintro e w10 ⟨rfl, g1, t1⟩
      have GA := hid (gb_trans GB.out g1)
      have T1 : Hid (TkO w10 b lim (Sx.e4 o)) := t1
      have R1 := hid (ca_grown R2.out g1 hne)
      have X1 := hid (ca_grown X2.out g1 hne1)
      clear X2 R2 T2 GB g1 t1
      go_wp2_with fail
      have X2 := X1
      have R2 := R1
      have T2 := T1
      have GB := GA
      clear X1 R1 T1 GA
      refine (month_any b _ _ T2.out).mono ?_
      rintro e w11 ⟨rfl, g1, t1⟩
      have GA := hid (gb_trans GB.out g1)
      have T1 : Hid (TkO w11 b lim (Sx.e5 o)) := t1
      have R1 := hid (ca_grown R2.out g1 hne)
      have X1 := hid (ca_grown X2.out g1 hne1)
      clear X2 R2 T2 GB g1 t1
      go_wp2_with fail
      have X2 := X1
      have R2 := R1
      have T2 := T1
      have GB := GA
      clear X1 R1 T1 GA
      have n5 := nxS_len T2.out
      refine (next_any b _ _ T2.out).mono ?_
      rintro e w12 ⟨rfl, g1, t1⟩
      have GA := hid (gb_trans GB.out g1)
      have T1 : Hid (TkO w12 b lim (Sx.nxO (Sx.e5 o))) := t1
      have R1 := hid (ca_grown R2.out g1 hne)
      have X1 := hid (ca_grown X2.out g1 hne1)
      clear X2 R2 T2 GB g1 t1
      go_wp2_with fail
      have X2 := X1
      have R2 := R1
      have T2 := T1
      have GB := GA
      clear X1 R1 T1 GA
      refine (number_str b _ _ 1 2 _ T2.out (by omega) n5).mono ?_
      rintro e w13 ⟨rfl, g1, t1⟩
      have GA := hid (gb_trans GB.out g1)
      have T1 : Hid (TkO w13 b lim (Sx.e6 o)) := t1
      have R1 := hid (ca_grown R2.out g1 hne)
      have X1 := hid (ca_grown X2.out g1 hne1)
      clear X2 R2 T2 GB g1 t1
      obtain ⟨k5, z5⟩ := ca_at X1.out 5 rfl
      obtain ⟨k6, z6⟩ := ca_at X1.out 6 rfl
      obtain ⟨k7, z7⟩ := ca_at X1.out 7 rfl
      have sz := X1.out.1
      go_wp2_with fail
      clear sz k5 z5 k6 z6 k7 z7
      have X2 := hid (ca_put (ca_put (ca_put (X1.out) 5 (.int .i64 ((Sx.num 4 4 (Sx.nxS (Sx.e3 o))).getD 0)) (by simp [era0])) 6 (.int .i64 ((Sx.monthO (Sx.nxS (Sx.e4 o))).getD 0)) (by simp [era0])) 7 (.int .i64 ((Sx.num 1 2 (Sx.nxS (Sx.e5 o))).getD 0)) (by simp [era0]))
      have R2 := hid (ca_far (o := 7) (u := .int .i64 ((Sx.num 1 2 (Sx.nxS (Sx.e5 o))).getD 0)) (ca_far (o := 6) (u := .int .i64 ((Sx.monthO (Sx.nxS (Sx.e4 o))).getD 0)) (ca_far (o := 5) (u := .int .i64 ((Sx.num 4 4 (Sx.nxS (Sx.e3 o))).getD 0)) (R1.out) hX) hX) hX)
      have T2 := hid (tkO_put (o := 7) (u := .int .i64 ((Sx.num 1 2 (Sx.nxS (Sx.e5 o))).getD 0)) (tkO_put (o := 6) (u := .int .i64 ((Sx.monthO (Sx.nxS (Sx.e4 o))).getD 0)) (tkO_put (o := 5) (u := .int .i64 ((Sx.num 4 4 (Sx.nxS (Sx.e3 o))).getD 0)) (T1.out) le1) le1) le1)
      have GB := hid (gb_put (o := 7) (u := .int .i64 ((Sx.num 1 2 (Sx.nxS (Sx.e5 o))).getD 0)) (gb_put (o := 6) (u := .int .i64 ((Sx.monthO (Sx.nxS (Sx.e4 o))).getD 0)) (gb_put (o := 5) (u := .int .i64 ((Sx.num 4 4 (Sx.nxS (Sx.e3 o))).getD 0)) (GA.out) (Nat.le_succ _)) (Nat.le_succ _)) (Nat.le_succ _))
      clear X1 R1 T1 GA
      refine (clocked_any b _ 2 _ T2.out (.inr rfl)).mono ?_
      rintro e w14 ⟨rfl, g1, t1⟩
      have GA := hid (gb_trans GB.out g1)
      have T1 : Hid (TkO w14 b lim (Sx.e7 o)) := t1
      have R1 := hid (ca_grown R2.out g1 hne)
      have X1 := hid (ca_grown X2.out g1 hne1)
      clear X2 R2 T2 GB g1 t1
      have E8 : Hid (Sx.e8 o = Sx.keep (decide ((Sx.clockV 2 (Sx.nxS (Sx.e6 o))).2 ≠ 1)) (Sx.e7 o)) := rfl
      obtain ⟨⟨A, K⟩, hAK⟩ : ∃ p, Sx.clockV 2 (Sx.nxS (Sx.e6 o)) = p := ⟨_, rfl⟩
      rw [hAK] at E8 ET1 ⊢
      clear hAK
      have sz := X1.out.1
      have sr := R1.out.1
      obtain ⟨k0, z0⟩ := ca_at X1.out 0 rfl
      obtain ⟨k1, z1⟩ := ca_at X1.out 1 rfl
      obtain ⟨k2, z2⟩ := ca_at X1.out 2 rfl
      obtain ⟨k3, z3⟩ := ca_at X1.out 3 rfl
      obtain ⟨k4, z4⟩ := ca_at X1.out 4 rfl
      obtain ⟨k5, z5⟩ := ca_at X1.out 5 rfl
      obtain ⟨k6, z6⟩ := ca_at X1.out 6 rfl
      obtain ⟨k7, z7⟩ := ca_at X1.out 7 rfl
      obtain ⟨k8, z8⟩ := ca_at X1.out 8 rfl
      obtain ⟨k9, z9⟩ := ca_at X1.out 9 rfl
      obtain ⟨p0, v0⟩ := ca_at R1.out 0 rfl
      obtain ⟨p1, v1⟩ := ca_at R1.out 1 rfl
      obtain ⟨p2, v2⟩ := ca_at R1.out 2 rfl
      obtain ⟨p3, v3⟩ := ca_at R1.out 3 rfl
      obtain ⟨p4, v4⟩ := ca_at R1.out 4 rfl
      obtain ⟨p5, v5⟩ := ca_at R1.out 5 rfl
      obtain ⟨p6, v6⟩ := ca_at R1.out 6 rfl
      obtain ⟨p7, v7⟩ := ca_at R1.out 7 rfl
      obtain ⟨p8, v8⟩ := ca_at R1.out 8 rfl
      obtain ⟨p9, v9⟩ := ca_at R1.out 9 rfl
      obtain ⟨tx, bad, b0, b1, y0, y1, blt⟩ := tk_cells T1.out
      by_cases hK : K = 1
      ·have E8' : Hid (Sx.e8 o = none) := by show _ = _; rw [E8.out]; simp [hK, Sx.keep]
       subst hK
       go_wp2
       refine bodyPost_ret (v := eraV ⟨Sx.shiftV l1, (Sx.rulesV (c :: r)).1, (Sx.rulesV (c :: r)).2, l3, false, (Sx.num 4 4 (Sx.nxS (Sx.e3 o))).getD 0, (Sx.monthO (Sx.nxS (Sx.e4 o))).getD 0, (Sx.num 1 2 (Sx.nxS (Sx.e5 o))).getD 0, A, 1⟩) (by simp [results, Tryz.results147, go_sem, RV.out, *]) rfl ⟨Sx.eraT1 o, _, by rw [ET1.out], ?_, ?_, EE.out⟩
       ·repeat (refine gb_put ?_ (by omega))
        exact gb_set (gb_put (gb_put GA.out (by omega)) (by omega)) (.inl rfl) _
       ·rw [E8'.out]
        repeat (refine tkO_put ?_ (by omega))
        exact tkO_bad (tkO_put (tkO_put T1.out (by omega)) (by omega))
      ·have E8' : Hid (Sx.e8 o = Sx.e7 o) := by show _ = _; rw [E8.out]; simp [hK, Sx.keep]
       have hK' : (K == 1) = false := by simp [hK]
       clear hK
       go_wp2
       refine bodyPost_ret (v := eraV ⟨Sx.shiftV l1, (Sx.rulesV (c :: r)).1, (Sx.rulesV (c :: r)).2, l3, false, (Sx.num 4 4 (Sx.nxS (Sx.e3 o))).getD 0, (Sx.monthO (Sx.nxS (Sx.e4 o))).getD 0, (Sx.num 1 2 (Sx.nxS (Sx.e5 o))).getD 0, A, K⟩) (by simp [results, Tryz.results147, go_sem, RV.out, *]) rfl ⟨Sx.eraT1 o, _, by rw [ET1.out], ?_, ?_, EE.out⟩
       ·repeat (refine gb_put ?_ (by omega))
        exact GA.out
       ·rw [E8'.out]
        repeat (refine tkO_put ?_ (by omega))
        exact T1.out
 ·have RV : Hid (Sx.rulesV l2 = ([], Sx.spanV l2)) := by show _ = _; rw [Sx.rulesV, if_neg c1, if_pos hd]
  have HD : Hid (∃ c r, l2 = c :: r ∧ Sx.digB c = true) := by cases l2 with | nil => cases hd | cons c r => exact ⟨c, r, rfl, hd⟩
  obtain ⟨c, r, hcr, hcd⟩ := HD.out
  have hs0 : 0 < (⟨l2.toArray⟩ : ByteArray).size := by rw [strV_size, hcr]; simp
  have h0 : (⟨l2.toArray⟩ : ByteArray)[0]'hs0 = c := by subst hcr; rfl
  have hE : l2.isEmpty = false := by rw [hcr]; rfl
  have HDc := hid hcd
  have HCR := hid hcr
  clear hcr hcd HD
  by_cases c2 : l2 = [48]
  ·have q2 : (l2 == [48]) = true := by simp [c2]
   have E2' : Hid (Sx.e2 o = none) := by show _ = _; rw [E2.out, c2]; rfl
   obtain ⟨tx, bad, b0, b1, y0, y1, blt⟩ := tk_cells T1.out
   clear c1 c2 hd E2
   go_wp2_with (go_at_call 166; refine (rDigit_is _ _ HDc.out).mono ?_; rintro e w4 ⟨rfl, rfl⟩)
   clear b0 b1 y0 y1 blt
   have X2 := hid (ca_far (o := 1) (u := .bool true) X1.out hne1)
   have R2 := hid (ca_far (o := 1) (u := .bool true) R1.out hne)
   have T2 := hid (tkO_bad T1.out)
   have GB := hid (gb_set GA.out (p := ⟨b, 1, none⟩) (.inl rfl) (.bool true))
   clear X1 R1 T1 GA
   refine (span_str b _ _ _ T2.out n2).mono ?_
   rintro e w6 ⟨rfl, g1, t1⟩
   have GA := hid (gb_trans GB.out g1)
   have T1 : Hid (TkO w6 b lim (Sx.keep (Sx.spanO l2).isSome none)) := t1
   have R1 := hid (ca_grown R2.out g1 hne)
   have X1 := hid (ca_grown X2.out g1 hne1)
   clear X2 R2 T2 GB g1 t1
   rw [Sx.keep_none, ← E2'.out] at T1
   obtain ⟨k2, z2⟩ := ca_at X1.out 2 rfl
   have sz := X1.out.1
   go_wp2_with fail
   clear sz k2 z2
   have X2 := hid (ca_put (X1.out) 2 (.int .i64 (Sx.spanV l2)) (by simp [era0]))
   have R2 := hid (ca_far (o := 2) (u := .int .i64 (Sx.spanV l2)) (R1.out) hX)
   have T2 := hid (tkO_put (o := 2) (u := .int .i64 (Sx.spanV l2)) (T1.out) le1)
   have GB := hid (gb_put (o := 2) (u := .int .i64 (Sx.spanV l2)) (GA.out) (Nat.le_succ _))
   clear X1 R1 T1 GA
   have nf := nxS_len T2.out
   obtain ⟨l3, hl3⟩ : ∃ l3, Sx.nxS (Sx.e2 o) = l3 := ⟨_, rfl⟩
   rw [hl3] at nf ET0 ET1
   have E3 : Hid (Sx.e3 o = Sx.keep (Sx.formatB l3) (Sx.nxO (Sx.e2 o))) := by show _ = _; rw [← hl3]; rfl
   have HL3 := hid hl3
   clear hl3
   refine (next_any b _ _ T2.out).mono ?_
   rintro e w7 ⟨rfl, g1, t1⟩
   have GA := hid (gb_trans GB.out g1)
   have T1 : Hid (TkO w7 b lim (Sx.nxO (Sx.e2 o))) := t1
   have R1 := hid (ca_grown R2.out g1 hne)
   have X1 := hid (ca_grown X2.out g1 hne1)
   clear X2 R2 T2 GB g1 t1
   rw [HL3.out]
   obtain ⟨k3, z3⟩ := ca_at X1.out 3 rfl
   have sz := X1.out.1
   obtain ⟨B, hB⟩ : ∃ B, Sx.formatB l3 = B := ⟨_, rfl⟩
   have HB := hid hB
   clear hB
   go_upto_if 63 with (go_at_call 167; refine (isFormat_str _ _ nf HB.out).mono ?_; rintro e w8 ⟨rfl, rfl⟩)
   clear sz k3 z3
   have X2 := hid (ca_put (X1.out) 3 (strV l3) (by simp [era0]))
   have R2 := hid (ca_far (o := 3) (u := strV l3) (R1.out) hX)
   have T2 := hid (tkO_put (o := 3) (u := strV l3) (T1.out) le1)
   have GB := hid (gb_put (o := 3) (u := strV l3) (GA.out) (Nat.le_succ _))
   clear X1 R1 T1 GA
   go_cut [] from 64 to 66 (fun wc => Hid (w.grownBy wc (some b)) ∧ Hid (TkO wc b lim (Sx.e3 o)) ∧ Hid (CellsAt wc w.heap.size era0) ∧ Hid (CellsAt wc (w.heap.size + 1) (((era0.set 0 (.int .i64 (Sx.shiftV l1))).set 2 (.int .i64 (Sx.spanV l2))).set 3 (strV l3))))
   case first =>
    obtain ⟨tx, bad, b0, b1, y0, y1, blt⟩ := tk_cells T2.out
    cases hb : B
    ·subst hb
     go_wp2_with fail
     go_meet
     rw [E3.out, HB.out]
     exact ⟨gb_set GB.out (.inl rfl) _, tkO_bad T2.out, ca_far R2.out hne, ca_far X2.out hne1⟩
    ·subst hb
     go_wp2_with fail
     go_meet
     rw [E3.out, HB.out]
     exact ⟨GB, T2, R2, X2⟩
   case rest =>
   clear X2 R2 T2 GB HB HL3 nf E3
   obtain ⟨GA, T1, R1, X1⟩ := hcut
   obtain ⟨la, ln, lcap, lc, hln⟩ := tk_len T1.out
   have bl := tkO_lt T1.out
   have HLN := hid hln
   clear hln
   by_cases h0 : ln = 0
   ·have EE := hid (eraEnd_open HLN.out h0)
    subst h0
    have sz := X1.out.1
    have sr := R1.out.1
    obtain ⟨k0, z0⟩ := ca_at X1.out 0 rfl
    obtain ⟨k1, z1⟩ := ca_at X1.out 1 rfl
    obtain ⟨k2, z2⟩ := ca_at X1.out 2 rfl
    obtain ⟨k3, z3⟩ := ca_at X1.out 3 rfl
    obtain ⟨k4, z4⟩ := ca_at X1.out 4 rfl
    obtain ⟨k5, z5⟩ := ca_at X1.out 5 rfl
    obtain ⟨k6, z6⟩ := ca_at X1.out 6 rfl
    obtain ⟨k7, z7⟩ := ca_at X1.out 7 rfl
    obtain ⟨k8, z8⟩ := ca_at X1.out 8 rfl
    obtain ⟨k9, z9⟩ := ca_at X1.out 9 rfl
    obtain ⟨p0, v0⟩ := ca_at R1.out 0 rfl
    obtain ⟨p1, v1⟩ := ca_at R1.out 1 rfl
    obtain ⟨p2, v2⟩ := ca_at R1.out 2 rfl
    obtain ⟨p3, v3⟩ := ca_at R1.out 3 rfl
    obtain ⟨p4, v4⟩ := ca_at R1.out 4 rfl
    obtain ⟨p5, v5⟩ := ca_at R1.out 5 rfl
    obtain ⟨p6, v6⟩ := ca_at R1.out 6 rfl
    obtain ⟨p7, v7⟩ := ca_at R1.out 7 rfl
    obtain ⟨p8, v8⟩ := ca_at R1.out 8 rfl
    obtain ⟨p9, v9⟩ := ca_at R1.out 9 rfl
    go_wp2
    refine bodyPost_ret (v := eraV ⟨Sx.shiftV l1, (Sx.rulesV l2).1, (Sx.rulesV l2).2, l3, true, 0, 0, 0, 0, 0⟩) (by simp [results, Tryz.results147, go_sem, RV.out, *]) rfl ⟨Sx.eraT0 o, _, by rw [ET0.out], ?_, ?_, EE.out⟩
    ·repeat (refine gb_put ?_ (by omega))
     exact GA.out
    ·repeat (refine tkO_put ?_ (by omega))
     exact T1.out
   ·have EE := hid (eraEnd_shut HLN.out h0)
    have h0' : ((ln : Int) == 0) = false := by simp; omega
    clear h0 HLN
    have X2 := X1
    have R2 := R1
    have T2 := T1
    have GB := GA
    clear X1 R1 T1 GA
    have n4 := nxS_len T2.out
    go_wp2_with fail
    clear lc
    refine (next_any b _ _ T2.out).mono ?_
    rintro e w9 ⟨rfl, g1, t1⟩
    have GA := hid (gb_trans GB.out g1)
    have T1 : Hid (TkO w9 b lim (Sx.nxO (Sx.e3 o))) := t1
    have R1 := hid (ca_grown R2.out g1 hne)
    have X1 := hid (ca_grown X2.out g1 hne1)
    clear X2 R2 T2 GB g1 t1
    go_wp2_with fail
    have X2 := X1
    have R2 := R1
    have T2 := T1
    have GB := GA
    clear X1 R1 T1 GA
    refine (number_str b _ _ 4 4 _ T2.out (by omega) n4).mono ?_
    rintro e w10 ⟨rfl, g1, t1⟩
    have GA := hid (gb_trans GB.out g1)
    have T1 : Hid (TkO w10 b lim (Sx.e4 o)) := t1
    have R1 := hid (ca_grown R2.out g1 hne)
    have X1 := hid (ca_grown X2.out g1 hne1)
    clear X2 R2 T2 GB g1 t1
    go_wp2_with fail
    have X2 := X1
    have R2 := R1
    have T2 := T1
    have GB := GA
    clear X1 R1 T1 GA
    refine (month_any b _ _ T2.out).mono ?_
    rintro e w11 ⟨rfl, g1, t1⟩
    have GA := hid (gb_trans GB.out g1)
    have T1 : Hid (TkO w11 b lim (Sx.e5 o)) := t1
    have R1 := hid (ca_grown R2.out g1 hne)
    have X1 := hid (ca_grown X2.out g1 hne1)
    clear X2 R2 T2 GB g1 t1
    go_wp2_with fail
    have X2 := X1
    have R2 := R1
    have T2 := T1
    have GB := GA
    clear X1 R1 T1 GA
    have n5 := nxS_len T2.out
    refine (next_any b _ _ T2.out).mono ?_
    rintro e w12 ⟨rfl, g1, t1⟩
    have GA := hid (gb_trans GB.out g1)
    have T1 : Hid (TkO w12 b lim (Sx.nxO (Sx.e5 o))) := t1
    have R1 := hid (ca_grown R2.out g1 hne)
    have X1 := hid (ca_grown X2.out g1 hne1)
    clear X2 R2 T2 GB g1 t1
    go_wp2_with fail
    have X2 := X1
    have R2 := R1
    have T2 := T1
    have GB := GA
    clear X1 R1 T1 GA
    refine (number_str b _ _ 1 2 _ T2.out (by omega) n5).mono ?_
    rintro e w13 ⟨rfl, g1, t1⟩
    have GA := hid (gb_trans GB.out g1)
    have T1 : Hid (TkO w13 b lim (Sx.e6 o)) := t1
    have R1 := hid (ca_grown R2.out g1 hne)
    have X1 := hid (ca_grown X2.out g1 hne1)
    clear X2 R2 T2 GB g1 t1
    obtain ⟨k5, z5⟩ := ca_at X1.out 5 rfl
    obtain ⟨k6, z6⟩ := ca_at X1.out 6 rfl
    obtain ⟨k7, z7⟩ := ca_at X1.out 7 rfl
    have sz := X1.out.1
    go_wp2_with fail
    clear sz k5 z5 k6 z6 k7 z7
    have X2 := hid (ca_put (ca_put (ca_put (X1.out) 5 (.int .i64 ((Sx.num 4 4 (Sx.nxS (Sx.e3 o))).getD 0)) (by simp [era0])) 6 (.int .i64 ((Sx.monthO (Sx.nxS (Sx.e4 o))).getD 0)) (by simp [era0])) 7 (.int .i64 ((Sx.num 1 2 (Sx.nxS (Sx.e5 o))).getD 0)) (by simp [era0]))
    have R2 := hid (ca_far (o := 7) (u := .int .i64 ((Sx.num 1 2 (Sx.nxS (Sx.e5 o))).getD 0)) (ca_far (o := 6) (u := .int .i64 ((Sx.monthO (Sx.nxS (Sx.e4 o))).getD 0)) (ca_far (o := 5) (u := .int .i64 ((Sx.num 4 4 (Sx.nxS (Sx.e3 o))).getD 0)) (R1.out) hX) hX) hX)
    have T2 := hid (tkO_put (o := 7) (u := .int .i64 ((Sx.num 1 2 (Sx.nxS (Sx.e5 o))).getD 0)) (tkO_put (o := 6) (u := .int .i64 ((Sx.monthO (Sx.nxS (Sx.e4 o))).getD 0)) (tkO_put (o := 5) (u := .int .i64 ((Sx.num 4 4 (Sx.nxS (Sx.e3 o))).getD 0)) (T1.out) le1) le1) le1)
    have GB := hid (gb_put (o := 7) (u := .int .i64 ((Sx.num 1 2 (Sx.nxS (Sx.e5 o))).getD 0)) (gb_put (o := 6) (u := .int .i64 ((Sx.monthO (Sx.nxS (Sx.e4 o))).getD 0)) (gb_put (o := 5) (u := .int .i64 ((Sx.num 4 4 (Sx.nxS (Sx.e3 o))).getD 0)) (GA.out) (Nat.le_succ _)) (Nat.le_succ _)) (Nat.le_succ _))
    clear X1 R1 T1 GA
    refine (clocked_any b _ 2 _ T2.out (.inr rfl)).mono ?_
    rintro e w14 ⟨rfl, g1, t1⟩
    have GA := hid (gb_trans GB.out g1)
    have T1 : Hid (TkO w14 b lim (Sx.e7 o)) := t1
    have R1 := hid (ca_grown R2.out g1 hne)
    have X1 := hid (ca_grown X2.out g1 hne1)
    clear X2 R2 T2 GB g1 t1
    have E8 : Hid (Sx.e8 o = Sx.keep (decide ((Sx.clockV 2 (Sx.nxS (Sx.e6 o))).2 ≠ 1)) (Sx.e7 o)) := rfl
    obtain ⟨⟨A, K⟩, hAK⟩ : ∃ p, Sx.clockV 2 (Sx.nxS (Sx.e6 o)) = p := ⟨_, rfl⟩
    rw [hAK] at E8 ET1 ⊢
    clear hAK
    have sz := X1.out.1
    have sr := R1.out.1
    obtain ⟨k0, z0⟩ := ca_at X1.out 0 rfl
    obtain ⟨k1, z1⟩ := ca_at X1.out 1 rfl
    obtain ⟨k2, z2⟩ := ca_at X1.out 2 rfl
    obtain ⟨k3, z3⟩ := ca_at X1.out 3 rfl
    obtain ⟨k4, z4⟩ := ca_at X1.out 4 rfl
    obtain ⟨k5, z5⟩ := ca_at X1.out 5 rfl
    obtain ⟨k6, z6⟩ := ca_at X1.out 6 rfl
    obtain ⟨k7, z7⟩ := ca_at X1.out 7 rfl
    obtain ⟨k8, z8⟩ := ca_at X1.out 8 rfl
    obtain ⟨k9, z9⟩ := ca_at X1.out 9 rfl
    obtain ⟨p0, v0⟩ := ca_at R1.out 0 rfl
    obtain ⟨p1, v1⟩ := ca_at R1.out 1 rfl
    obtain ⟨p2, v2⟩ := ca_at R1.out 2 rfl
    obtain ⟨p3, v3⟩ := ca_at R1.out 3 rfl
    obtain ⟨p4, v4⟩ := ca_at R1.out 4 rfl
    obtain ⟨p5, v5⟩ := ca_at R1.out 5 rfl
    obtain ⟨p6, v6⟩ := ca_at R1.out 6 rfl
    obtain ⟨p7, v7⟩ := ca_at R1.out 7 rfl
    obtain ⟨p8, v8⟩ := ca_at R1.out 8 rfl
    obtain ⟨p9, v9⟩ := ca_at R1.out 9 rfl
    obtain ⟨tx, bad, b0, b1, y0, y1, blt⟩ := tk_cells T1.out
    by_cases hK : K = 1
    ·have E8' : Hid (Sx.e8 o = none) := by show _ = _; rw [E8.out]; simp [hK, Sx.keep]
     subst hK
     go_wp2
     refine bodyPost_ret (v := eraV ⟨Sx.shiftV l1, (Sx.rulesV l2).1, (Sx.rulesV l2).2, l3, false, (Sx.num 4 4 (Sx.nxS (Sx.e3 o))).getD 0, (Sx.monthO (Sx.nxS (Sx.e4 o))).getD 0, (Sx.num 1 2 (Sx.nxS (Sx.e5 o))).getD 0, A, 1⟩) (by simp [results, Tryz.results147, go_sem, RV.out, *]) rfl ⟨Sx.eraT1 o, _, by rw [ET1.out], ?_, ?_, EE.out⟩
     ·repeat (refine gb_put ?_ (by omega))
      exact gb_set (gb_put (gb_put GA.out (by omega)) (by omega)) (.inl rfl) _
     ·rw [E8'.out]
      repeat (refine tkO_put ?_ (by omega))
      exact tkO_bad (tkO_put (tkO_put T1.out (by omega)) (by omega))
    ·have E8' : Hid (Sx.e8 o = Sx.e7 o) := by show _ = _; rw [E8.out]; simp [hK, Sx.keep]
     have hK' : (K == 1) = false := by simp [hK]
     clear hK
     go_wp2
     refine bodyPost_ret (v := eraV ⟨Sx.shiftV l1, (Sx.rulesV l2).1, (Sx.rulesV l2).2, l3, false, (Sx.num 4 4 (Sx.nxS (Sx.e3 o))).getD 0, (Sx.monthO (Sx.nxS (Sx.e4 o))).getD 0, (Sx.num 1 2 (Sx.nxS (Sx.e5 o))).getD 0, A, K⟩) (by simp [results, Tryz.results147, go_sem, RV.out, *]) rfl ⟨Sx.eraT1 o, _, by rw [ET1.out], ?_, ?_, EE.out⟩
     ·repeat (refine gb_put ?_ (by omega))
      exact GA.out
     ·rw [E8'.out]
      repeat (refine tkO_put ?_ (by omega))
      exact T1.out
  ·have q2 : (l2 == [48]) = false := by simpa using c2
   have E2' : Hid (Sx.e2 o = Sx.keep (Sx.spanO l2).isSome (Sx.nxO (Sx.e1 o))) := by show _ = _; rw [E2.out, Sx.gRules, Sx.rulesO_def, if_neg c1, if_pos hd, if_neg c2]; cases Sx.spanO l2 <;> rfl
   clear c1 c2 hd E2
   go_wp2_with (go_at_call 166; refine (rDigit_is _ _ HDc.out).mono ?_; rintro e w4 ⟨rfl, rfl⟩)
   have X2 := X1
   have R2 := R1
   have T2 := T1
   have GB := GA
   clear X1 R1 T1 GA
   refine (span_str b _ _ _ T2.out n2).mono ?_
   rintro e w6 ⟨rfl, g1, t1⟩
   have GA := hid (gb_trans GB.out g1)
   have T1 : Hid (TkO w6 b lim (Sx.keep (Sx.spanO l2).isSome (Sx.nxO (Sx.e1 o)))) := t1
   have R1 := hid (ca_grown R2.out g1 hne)
   have X1 := hid (ca_grown X2.out g1 hne1)
   clear X2 R2 T2 GB g1 t1
   rw [← E2'.out] at T1
   obtain ⟨k2, z2⟩ := ca_at X1.out 2 rfl
   have sz := X1.out.1
   go_wp2_with fail
   clear sz k2 z2
   have X2 := hid (ca_put (X1.out) 2 (.int .i64 (Sx.spanV l2)) (by simp [era0]))
   have R2 := hid (ca_far (o := 2) (u := .int .i64 (Sx.spanV l2)) (R1.out) hX)
   have T2 := hid (tkO_put (o := 2) (u := .int .i64 (Sx.spanV l2)) (T1.out) le1)
   have GB := hid (gb_put (o := 2) (u := .int .i64 (Sx.spanV l2)) (GA.out) (Nat.le_succ _))
   clear X1 R1 T1 GA
   have nf := nxS_len T2.out
   obtain ⟨l3, hl3⟩ : ∃ l3, Sx.nxS (Sx.e2 o) = l3 := ⟨_, rfl⟩
   rw [hl3] at nf ET0 ET1
   have E3 : Hid (Sx.e3 o = Sx.keep (Sx.formatB l3) (Sx.nxO (Sx.e2 o))) := by show _ = _; rw [← hl3]; rfl
   have HL3 := hid hl3
   clear hl3
   refine (next_any b _ _ T2.out).mono ?_
   rintro e w7 ⟨rfl, g1, t1⟩
   have GA := hid (gb_trans GB.out g1)
   have T1 : Hid (TkO w7 b lim (Sx.nxO (Sx.e2 o))) := t1
   have R1 := hid (ca_grown R2.out g1 hne)
   have X1 := hid (ca_grown X2.out g1 hne1)
   clear X2 R2 T2 GB g1 t1
   rw [HL3.out]
   obtain ⟨k3, z3⟩ := ca_at X1.out 3 rfl
   have sz := X1.out.1
   obtain ⟨B, hB⟩ : ∃ B, Sx.formatB l3 = B := ⟨_, rfl⟩
   have HB := hid hB
   clear hB
   go_upto_if 63 with (go_at_call 167; refine (isFormat_str _ _ nf HB.out).mono ?_; rintro e w8 ⟨rfl, rfl⟩)
   clear sz k3 z3
   have X2 := hid (ca_put (X1.out) 3 (strV l3) (by simp [era0]))
   have R2 := hid (ca_far (o := 3) (u := strV l3) (R1.out) hX)
   have T2 := hid (tkO_put (o := 3) (u := strV l3) (T1.out) le1)
   have GB := hid (gb_put (o := 3) (u := strV l3) (GA.out) (Nat.le_succ _))
   clear X1 R1 T1 GA
   go_cut [] from 64 to 66 (fun wc => Hid (w.grownBy wc (some b)) ∧ Hid (TkO wc b lim (Sx.e3 o)) ∧ Hid (CellsAt wc w.heap.size era0) ∧ Hid (CellsAt wc (w.heap.size + 1) (((era0.set 0 (.int .i64 (Sx.shiftV l1))).set 2 (.int .i64 (Sx.spanV l2))).set 3 (strV l3))))
   case first =>
    obtain ⟨tx, bad, b0, b1, y0, y1, blt⟩ := tk_cells T2.out
    cases hb : B
    ·subst hb
     go_wp2_with fail
     go_meet
     rw [E3.out, HB.out]
     exact ⟨gb_set GB.out (.inl rfl) _, tkO_bad T2.out, ca_far R2.out hne, ca_far X2.out hne1⟩
    ·subst hb
     go_wp2_with fail
     go_meet
     rw [E3.out, HB.out]
     exact ⟨GB, T2, R2, X2⟩
   case rest =>
   clear X2 R2 T2 GB HB HL3 nf E3
   obtain ⟨GA, T1, R1, X1⟩ := hcut
   obtain ⟨la, ln, lcap, lc, hln⟩ := tk_len T1.out
   have bl := tkO_lt T1.out
   have HLN := hid hln
   clear hln
   by_cases h0 : ln = 0
   ·have EE := hid (eraEnd_open HLN.out h0)
    subst h0
    have sz := X1.out.1
    have sr := R1.out.1
    obtain ⟨k0, z0⟩ := ca_at X1.out 0 rfl
    obtain ⟨k1, z1⟩ := ca_at X1.out 1 rfl
    obtain ⟨k2, z2⟩ := ca_at X1.out 2 rfl
    obtain ⟨k3, z3⟩ := ca_at X1.out 3 rfl
    obtain ⟨k4, z4⟩ := ca_at X1.out 4 rfl
    obtain ⟨k5, z5⟩ := ca_at X1.out 5 rfl
    obtain ⟨k6, z6⟩ := ca_at X1.out 6 rfl
    obtain ⟨k7, z7⟩ := ca_at X1.out 7 rfl
    obtain ⟨k8, z8⟩ := ca_at X1.out 8 rfl
    obtain ⟨k9, z9⟩ := ca_at X1.out 9 rfl
    obtain ⟨p0, v0⟩ := ca_at R1.out 0 rfl
    obtain ⟨p1, v1⟩ := ca_at R1.out 1 rfl
    obtain ⟨p2, v2⟩ := ca_at R1.out 2 rfl
    obtain ⟨p3, v3⟩ := ca_at R1.out 3 rfl
    obtain ⟨p4, v4⟩ := ca_at R1.out 4 rfl
    obtain ⟨p5, v5⟩ := ca_at R1.out 5 rfl
    obtain ⟨p6, v6⟩ := ca_at R1.out 6 rfl
    obtain ⟨p7, v7⟩ := ca_at R1.out 7 rfl
    obtain ⟨p8, v8⟩ := ca_at R1.out 8 rfl
    obtain ⟨p9, v9⟩ := ca_at R1.out 9 rfl
    go_wp2
    refine bodyPost_ret (v := eraV ⟨Sx.shiftV l1, (Sx.rulesV l2).1, (Sx.rulesV l2).2, l3, true, 0, 0, 0, 0, 0⟩) (by simp [results, Tryz.results147, go_sem, RV.out, *]) rfl ⟨Sx.eraT0 o, _, by rw [ET0.out], ?_, ?_, EE.out⟩
    ·repeat (refine gb_put ?_ (by omega))
     exact GA.out
    ·repeat (refine tkO_put ?_ (by omega))
     exact T1.out
   ·have EE := hid (eraEnd_shut HLN.out h0)
    have h0' : ((ln : Int) == 0) = false := by simp; omega
    clear h0 HLN
    have X2 := X1
    have R2 := R1
    have T2 := T1
    have GB := GA
    clear X1 R1 T1 GA
    have n4 := nxS_len T2.out
    go_wp2_with fail
    clear lc
    refine (next_any b _ _ T2.out).mono ?_
    rintro e w9 ⟨rfl, g1, t1⟩
    have GA := hid (gb_trans GB.out g1)
    have T1 : Hid (TkO w9 b lim (Sx.nxO (Sx.e3 o))) := t1
    have R1 := hid (ca_grown R2.out g1 hne)
    have X1 := hid (ca_grown X2.out g1 hne1)
    clear X2 R2 T2 GB g1 t1
    go_wp2_with fail
    have X2 := X1
    have R2 := R1
    have T2 := T1
    have GB := GA
    clear X1 R1 T1 GA
    refine (number_str b _ _ 4 4 _ T2.out (by omega) n4).mono ?_
    rintro e w10 ⟨rfl, g1, t1⟩
    have GA := hid (gb_trans GB.out g1)
    have T1 : Hid (TkO w10 b lim (Sx.e4 o)) := t1
    have R1 := hid (ca_grown R2.out g1 hne)
    have X1 := hid (ca_grown X2.out g1 hne1)
    clear X2 R2 T2 GB g1 t1
    go_wp2_with fail
    have X2 := X1
    have R2 := R1
    have T2 := T1
    have GB := GA
    clear X1 R1 T1 GA
    refine (month_any b _ _ T2.out).mono ?_
    rintro e w11 ⟨rfl, g1, t1⟩
    have GA := hid (gb_trans GB.out g1)
    have T1 : Hid (TkO w11 b lim (Sx.e5 o)) := t1
    have R1 := hid (ca_grown R2.out g1 hne)
    have X1 := hid (ca_grown X2.out g1 hne1)
    clear X2 R2 T2 GB g1 t1
    go_wp2_with fail
    have X2 := X1
    have R2 := R1
    have T2 := T1
    have GB := GA
    clear X1 R1 T1 GA
    have n5 := nxS_len T2.out
    refine (next_any b _ _ T2.out).mono ?_
    rintro e w12 ⟨rfl, g1, t1⟩
    have GA := hid (gb_trans GB.out g1)
    have T1 : Hid (TkO w12 b lim (Sx.nxO (Sx.e5 o))) := t1
    have R1 := hid (ca_grown R2.out g1 hne)
    have X1 := hid (ca_grown X2.out g1 hne1)
    clear X2 R2 T2 GB g1 t1
    go_wp2_with fail
    have X2 := X1
    have R2 := R1
    have T2 := T1
    have GB := GA
    clear X1 R1 T1 GA
    refine (number_str b _ _ 1 2 _ T2.out (by omega) n5).mono ?_
    rintro e w13 ⟨rfl, g1, t1⟩
    have GA := hid (gb_trans GB.out g1)
    have T1 : Hid (TkO w13 b lim (Sx.e6 o)) := t1
    have R1 := hid (ca_grown R2.out g1 hne)
    have X1 := hid (ca_grown X2.out g1 hne1)
    clear X2 R2 T2 GB g1 t1
    obtain ⟨k5, z5⟩ := ca_at X1.out 5 rfl
    obtain ⟨k6, z6⟩ := ca_at X1.out 6 rfl
    obtain ⟨k7, z7⟩ := ca_at X1.out 7 rfl
    have sz := X1.out.1
    go_wp2_with fail
    clear sz k5 z5 k6 z6 k7 z7
    have X2 := hid (ca_put (ca_put (ca_put (X1.out) 5 (.int .i64 ((Sx.num 4 4 (Sx.nxS (Sx.e3 o))).getD 0)) (by simp [era0])) 6 (.int .i64 ((Sx.monthO (Sx.nxS (Sx.e4 o))).getD 0)) (by simp [era0])) 7 (.int .i64 ((Sx.num 1 2 (Sx.nxS (Sx.e5 o))).getD 0)) (by simp [era0]))
    have R2 := hid (ca_far (o := 7) (u := .int .i64 ((Sx.num 1 2 (Sx.nxS (Sx.e5 o))).getD 0)) (ca_far (o := 6) (u := .int .i64 ((Sx.monthO (Sx.nxS (Sx.e4 o))).getD 0)) (ca_far (o := 5) (u := .int .i64 ((Sx.num 4 4 (Sx.nxS (Sx.e3 o))).getD 0)) (R1.out) hX) hX) hX)
    have T2 := hid (tkO_put (o := 7) (u := .int .i64 ((Sx.num 1 2 (Sx.nxS (Sx.e5 o))).getD 0)) (tkO_put (o := 6) (u := .int .i64 ((Sx.monthO (Sx.nxS (Sx.e4 o))).getD 0)) (tkO_put (o := 5) (u := .int .i64 ((Sx.num 4 4 (Sx.nxS (Sx.e3 o))).getD 0)) (T1.out) le1) le1) le1)
    have GB := hid (gb_put (o := 7) (u := .int .i64 ((Sx.num 1 2 (Sx.nxS (Sx.e5 o))).getD 0)) (gb_put (o := 6) (u := .int .i64 ((Sx.monthO (Sx.nxS (Sx.e4 o))).getD 0)) (gb_put (o := 5) (u := .int .i64 ((Sx.num 4 4 (Sx.nxS (Sx.e3 o))).getD 0)) (GA.out) (Nat.le_succ _)) (Nat.le_succ _)) (Nat.le_succ _))
    clear X1 R1 T1 GA
    refine (clocked_any b _ 2 _ T2.out (.inr rfl)).mono ?_
    rintro e w14 ⟨rfl, g1, t1⟩
    have GA := hid (gb_trans GB.out g1)
    have T1 : Hid (TkO w14 b lim (Sx.e7 o)) := t1
    have R1 := hid (ca_grown R2.out g1 hne)
    have X1 := hid (ca_grown X2.out g1 hne1)
    clear X2 R2 T2 GB g1 t1
    have E8 : Hid (Sx.e8 o = Sx.keep (decide ((Sx.clockV 2 (Sx.nxS (Sx.e6 o))).2 ≠ 1)) (Sx.e7 o)) := rfl
    obtain ⟨⟨A, K⟩, hAK⟩ : ∃ p, Sx.clockV 2 (Sx.nxS (Sx.e6 o)) = p := ⟨_, rfl⟩
    rw [hAK] at E8 ET1 ⊢
    clear hAK
    have sz := X1.out.1
    have sr := R1.out.1
    obtain ⟨k0, z0⟩ := ca_at X1.out 0 rfl
    obtain ⟨k1, z1⟩ := ca_at X1.out 1 rfl
    obtain ⟨k2, z2⟩ := ca_at X1.out 2 rfl
    obtain ⟨k3, z3⟩ := ca_at X1.out 3 rfl
    obtain ⟨k4, z4⟩ := ca_at X1.out 4 rfl
    obtain ⟨k5, z5⟩ := ca_at X1.out 5 rfl
    obtain ⟨k6, z6⟩ := ca_at X1.out 6 rfl
    obtain ⟨k7, z7⟩ := ca_at X1.out 7 rfl
    obtain ⟨k8, z8⟩ := ca_at X1.out 8 rfl
    obtain ⟨k9, z9⟩ := ca_at X1.out 9 rfl
    obtain ⟨p0, v0⟩ := ca_at R1.out 0 rfl
    obtain ⟨p1, v1⟩ := ca_at R1.out 1 rfl
    obtain ⟨p2, v2⟩ := ca_at R1.out 2 rfl
    obtain ⟨p3, v3⟩ := ca_at R1.out 3 rfl
    obtain ⟨p4, v4⟩ := ca_at R1.out 4 rfl
    obtain ⟨p5, v5⟩ := ca_at R1.out 5 rfl
    obtain ⟨p6, v6⟩ := ca_at R1.out 6 rfl
    obtain ⟨p7, v7⟩ := ca_at R1.out 7 rfl
    obtain ⟨p8, v8⟩ := ca_at R1.out 8 rfl
    obtain ⟨p9, v9⟩ := ca_at R1.out 9 rfl
    obtain ⟨tx, bad, b0, b1, y0, y1, blt⟩ := tk_cells T1.out
    by_cases hK : K = 1
    ·have E8' : Hid (Sx.e8 o = none) := by show _ = _; rw [E8.out]; simp [hK, Sx.keep]
     subst hK
     go_wp2
     refine bodyPost_ret (v := eraV ⟨Sx.shiftV l1, (Sx.rulesV l2).1, (Sx.rulesV l2).2, l3, false, (Sx.num 4 4 (Sx.nxS (Sx.e3 o))).getD 0, (Sx.monthO (Sx.nxS (Sx.e4 o))).getD 0, (Sx.num 1 2 (Sx.nxS (Sx.e5 o))).getD 0, A, 1⟩) (by simp [results, Tryz.results147, go_sem, RV.out, *]) rfl ⟨Sx.eraT1 o, _, by rw [ET1.out], ?_, ?_, EE.out⟩
     ·repeat (refine gb_put ?_ (by omega))
      exact gb_set (gb_put (gb_put GA.out (by omega)) (by omega)) (.inl rfl) _
     ·rw [E8'.out]
      repeat (refine tkO_put ?_ (by omega))
      exact tkO_bad (tkO_put (tkO_put T1.out (by omega)) (by omega))
    ·have E8' : Hid (Sx.e8 o = Sx.e7 o) := by show _ = _; rw [E8.out]; simp [hK, Sx.keep]
     have hK' : (K == 1) = false := by simp [hK]
     clear hK
     go_wp2
     refine bodyPost_ret (v := eraV ⟨Sx.shiftV l1, (Sx.rulesV l2).1, (Sx.rulesV l2).2, l3, false, (Sx.num 4 4 (Sx.nxS (Sx.e3 o))).getD 0, (Sx.monthO (Sx.nxS (Sx.e4 o))).getD 0, (Sx.num 1 2 (Sx.nxS (Sx.e5 o))).getD 0, A, K⟩) (by simp [results, Tryz.results147, go_sem, RV.out, *]) rfl ⟨Sx.eraT1 o, _, by rw [ET1.out], ?_, ?_, EE.out⟩
     ·repeat (refine gb_put ?_ (by omega))
      exact GA.out
     ·rw [E8'.out]
      repeat (refine tkO_put ?_ (by omega))
      exact T1.out
end
section
open Go.RowKit

def OwnRules (w : World) (B : Nat) (v : Value) (rs : List Sx.Rl) : Prop := w.ownsRow B 40 11 v rs.length (rs.flatMap ruleCells)
def OwnEras (w : World) (B : Nat) (v : Value) (rs : List Sx.Er) : Prop := w.ownsRow B 67 10 v rs.length (rs.flatMap eraCells)
def OwnLinks (w : World) (B : Nat) (v : Value) (rs : List Sx.Lk) : Prop := w.ownsRow B 35 2 v rs.length (rs.flatMap linkCells)
/- zones whose eras lie in rows of their own: (name, eras' row) -/
structure OwnZs (w : World) (B : Nat) (v : Value) (ps : List (Tx.Bs × Value)) (zs : List Sx.Zn) : Prop where
 len : ps.length = zs.length
 row : w.ownsRow B 44 2 v ps.length (ps.flatMap zoneCells)
 eras : ∀ (i : Nat) (p : Tx.Bs × Value) (x : Sx.Zn), ps[i]? = some p → zs[i]? = some x → p.1 = x.name ∧ OwnEras w B p.2 x.eras
 apart : ∀ (i j : Nat) (p q : Tx.Bs × Value), ps[i]? = some p → ps[j]? = some q → i ≠ j → p.2.ownBlock = none ∨ p.2.ownBlock ≠ q.2.ownBlock
def OwnZones (w : World) (B : Nat) (v : Value) (zs : List Sx.Zn) : Prop := ∃ ps, OwnZs w B v ps zs
structure OwnSrc (w : World) (B : Nat) (r z l : Value) (s : Sx.Sr) : Prop where
 rules : OwnRules w B r s.rules
 zones : OwnZones w B z s.zones
 links : OwnLinks w B l s.links
section
variable {w w' W : World} {B : Nat} {v r z l : Value}
theorem ownZs_shape {ps zs} (h : OwnZs w B v ps zs) : ∃ a cap, v = .slice a zs.length cap := by rw [← h.len]; exact owns_shape0 h.row
theorem ownSrc_nil (w : World) (B : Nat) : OwnSrc w B (.slice none 0 0) (.slice none 0 0) (.slice none 0 0) ⟨[], [], []⟩ :=
 ⟨World.ownsRow_nil _ _ _ _, ⟨[], rfl, World.ownsRow_nil _ _ _ _, fun i p x h => by simp at h, fun i j p q h => by simp at h⟩, World.ownsRow_nil _ _ _ _⟩
theorem ownZs_below {ps zs} (h : OwnZs W B v ps zs) (hb : Below W.heap.size W w') : OwnZs w' B v ps zs :=
 ⟨h.len, owns_below h.row hb, fun i p x a b => ⟨(h.eras i p x a b).1, owns_below (h.eras i p x a b).2 hb⟩, h.apart⟩
theorem ownSrc_below {s : Sx.Sr} (h : OwnSrc W B r z l s) (hb : Below W.heap.size W w') : OwnSrc w' B r z l s := by
 obtain ⟨ps, hz⟩ := h.zones
 exact ⟨owns_below h.rules hb, ⟨ps, ownZs_below hz hb⟩, owns_below h.links hb⟩
/- a row of another kind has turned -/
theorem ownZs_kept {ps zs} {row : Option Nat} (h : OwnZs W B v ps zs) (hg : W.grownBy w' row) (h1 : v.ownBlock = none ∨ v.ownBlock ≠ row) (h2 : ∀ (i : Nat) (p : Tx.Bs × Value), ps[i]? = some p → p.2.ownBlock = none ∨ p.2.ownBlock ≠ row) : OwnZs w' B v ps zs :=
 ⟨h.len, h.row.kept hg h1, fun i p x a b => ⟨(h.eras i p x a b).1, (h.eras i p x a b).2.kept hg (h2 i p a)⟩, h.apart⟩
theorem ownZs_other {ps zs} {e : TypeId} {k n : Nat} {u : Value} {xs : List Value} (h : OwnZs W B v ps zs) (hu : W.ownsRow B e k u n xs) (he : e ≠ 44) (he' : e ≠ 67) (hg : W.grownBy w' u.ownBlock) : OwnZs w' B v ps zs := by
 refine ownZs_kept h hg (owns_ne h.row hu (Ne.symm he)) fun i p hp => ?_
 obtain ⟨x, hx⟩ : ∃ x, zs[i]? = some x := ⟨_, List.getElem?_eq_getElem (by rw [← h.len]; exact (List.getElem?_eq_some_iff.1 hp).1)⟩
 exact owns_ne (h.eras i p x hp hx).2 hu (Ne.symm he')
/- one more -/
theorem ownRules_app {rs : List Sx.Rl} {x : Sx.Rl} (h : w.ownsRow B 40 11 v (rs.length + 1) (rs.flatMap ruleCells ++ ruleCells x)) : OwnRules w B v (rs ++ [x]) := by
 unfold OwnRules; simpa using h
theorem ownEras_app {rs : List Sx.Er} {x : Sx.Er} (h : w.ownsRow B 67 10 v (rs.length + 1) (rs.flatMap eraCells ++ eraCells x)) : OwnEras w B v (rs ++ [x]) := by
 unfold OwnEras; simpa using h
theorem ownLinks_app {rs : List Sx.Lk} {x : Sx.Lk} (h : w.ownsRow B 35 2 v (rs.length + 1) (rs.flatMap linkCells ++ linkCells x)) : OwnLinks w B v (rs ++ [x]) := by
 unfold OwnLinks; simpa using h
theorem ownZs_app {ps zs} {v' ev : Value} {x : Sx.Zn} (h : OwnZs W B v ps zs) (hx : OwnEras W B ev x.eras) (hne : ∀ (i : Nat) (p : Tx.Bs × Value), ps[i]? = some p → p.2.ownBlock = none ∨ p.2.ownBlock ≠ ev.ownBlock) (hev : ev.ownBlock ≠ none)
  (hg : W.grownBy w' v.ownBlock) (h' : w'.ownsRow B 44 2 v' (ps.length + 1) (ps.flatMap zoneCells ++ zoneCells (x.name, ev))) : OwnZs w' B v' (ps ++ [(x.name, ev)]) (zs ++ [x]) := by
 have keep : ∀ u (y : Sx.Zn), OwnEras W B u y.eras → OwnEras w' B u y.eras := fun u y hu => hu.kept hg (owns_ne hu h.row (by decide))
 refine ⟨by simp [h.len], by simpa using h', ?_, ?_⟩
 ·intro i p y hp hy
  by_cases hi : i < ps.length
  ·rw [List.getElem?_append_left hi] at hp
   rw [List.getElem?_append_left (by rw [← h.len]; exact hi)] at hy
   exact ⟨(h.eras i p y hp hy).1, keep _ _ (h.eras i p y hp hy).2⟩
  ·have : i = ps.length := by have := (List.getElem?_eq_some_iff.1 hp).1; simp at this; omega
   subst this
   simp at hp
   rw [h.len] at hy
   simp at hy
   subst hp hy
   exact ⟨rfl, keep _ _ hx⟩
 ·intro i j p q hp hq hij
  by_cases hi : i < ps.length
  ·rw [List.getElem?_append_left hi] at hp
   by_cases hj : j < ps.length
   ·rw [List.getElem?_append_left hj] at hq
    exact h.apart i j p q hp hq hij
   ·have : j = ps.length := by have := (List.getElem?_eq_some_iff.1 hq).1; simp at this; omega
    subst this
    simp at hq
    subst hq
    exact hne i p hp
  ·have : i = ps.length := by have := (List.getElem?_eq_some_iff.1 hp).1; simp at this; omega
   subst this
   simp at hp
   subst hp
   by_cases hj : j < ps.length
   ·rw [List.getElem?_append_left hj] at hq
    right
    rcases hne j q hq with h0 | h0
    ·rw [h0]; exact hev
    ·exact Ne.symm h0
   ·exact absurd (by have := (List.getElem?_eq_some_iff.1 hq).1; simp at this; omega) hij
/- the last zone has an era more: its row's cell is written anew -/
theorem ownZs_last {ps : List (Tx.Bs × Value)} {zs : List Sx.Zn} {g cap : Nat} {nm : Tx.Bs} {ev ev' : Value} {es es' : List Sx.Er} (h : OwnZs W B (.slice (some ⟨g, 0, none⟩) (ps.length + 1) cap) (ps ++ [(nm, ev)]) (zs ++ [⟨nm, es⟩]))
  (hg : W.grownBy w ev.ownBlock) (hx : OwnEras w B ev' es') (hat : ev'.ownBlock = ev.ownBlock ∨ ∃ k, ev'.ownBlock = some k ∧ W.heap.size ≤ k) (hev : ev'.ownBlock ≠ none) :
  OwnZs (w.setCell ⟨g, ps.length * 2 + 1, none⟩ ev') B (.slice (some ⟨g, 0, none⟩) (ps.length + 1) cap) (ps ++ [(nm, ev')]) (zs ++ [⟨nm, es'⟩]) := by
 have hl : ps.length = zs.length := by have := h.len; simpa using this
 have hlast : (ps ++ [(nm, ev)])[ps.length]? = some (nm, ev) := by simp
 have hlz : (zs ++ [⟨nm, es⟩])[ps.length]? = some ⟨nm, es⟩ := by rw [hl]; simp
 have hown := (h.eras _ _ _ hlast hlz).2
 have hrow : W.ownsRow B 44 2 (.slice (some ⟨g, 0, none⟩) (ps.length + 1) cap) (ps.length + 1) ((ps ++ [(nm, ev)]).flatMap zoneCells) := by simpa using h.row
 have hrow' : w.ownsRow B 44 2 (.slice (some ⟨g, 0, none⟩) (ps.length + 1) cap) (ps.length + 1) ((ps ++ [(nm, ev)]).flatMap zoneCells) := hrow.kept hg (owns_ne hrow hown (by decide))
 have hst := (hrow'.stored (ps.length * 2 + 1) ev').1
 have fl : ∀ ps : List (Tx.Bs × Value), (ps.flatMap zoneCells).length = 2 * ps.length := by
  intro ps
  induction ps with
  | nil => rfl
  | cons a r ih => simp [List.flatMap_cons, zoneCells, ih]; omega
 have hne : ∀ {u : Value} {n : Nat} {xs : List Value}, w.ownsRow B 67 10 u n xs → (w.setCell ⟨g, ps.length * 2 + 1, none⟩ ev').ownsRow B 67 10 u n xs := by
  intro u n xs hu
  refine ownsRow_setCell_other hu ?_ _
  rcases owns_ne hu hrow' (by decide) with q | q
  ·rw [q]; simp
  ·simpa [Value.ownBlock] using q
 refine ⟨by simp [hl], ?_, ?_, ?_⟩
 ·have e : ((ps ++ [(nm, ev)]).flatMap zoneCells).set (ps.length * 2 + 1) ev' = (ps ++ [(nm, ev')]).flatMap zoneCells := by
   simp only [List.flatMap_append, List.flatMap_cons, List.flatMap_nil, List.append_nil, zoneCells]
   rw [List.set_append_right _ _ (by rw [fl]; omega), fl, show ps.length * 2 + 1 - 2 * ps.length = 1 by omega]
   rfl
  rw [e] at hst
  simpa using hst
 ·intro i p y hp hy
  by_cases hi : i < ps.length
  ·rw [List.getElem?_append_left hi] at hp
   rw [List.getElem?_append_left (by omega)] at hy
   have hp' : (ps ++ [(nm, ev)])[i]? = some p := by rw [List.getElem?_append_left hi]; exact hp
   have hy' : (zs ++ [⟨nm, es⟩])[i]? = some y := by rw [List.getElem?_append_left (by omega)]; exact hy
   exact ⟨(h.eras i p y hp' hy').1, hne ((h.eras i p y hp' hy').2.kept hg (h.apart i _ p _ hp' hlast (by omega)))⟩
  ·have : i = ps.length := by have := (List.getElem?_eq_some_iff.1 hp).1; simp at this; omega
   subst this
   simp at hp
   rw [hl] at hy
   simp at hy
   subst hp hy
   exact ⟨rfl, hne hx⟩
 ·have old : ∀ (i : Nat) (p : Tx.Bs × Value), ps[i]? = some p → p.2.ownBlock = none ∨ p.2.ownBlock ≠ ev'.ownBlock := by
   intro i p hp
   have hi := (List.getElem?_eq_some_iff.1 hp).1
   have hp' : (ps ++ [(nm, ev)])[i]? = some p := by rw [List.getElem?_append_left hi]; exact hp
   rcases hat with q | ⟨k, q, hk⟩
   ·rw [q]; exact h.apart i _ p _ hp' hlast (by omega)
   ·obtain ⟨y, hy⟩ : ∃ y, (zs ++ [⟨nm, es⟩])[i]? = some y := ⟨_, List.getElem?_eq_getElem (by simp; omega)⟩
    have hb := (h.eras i p y hp' hy).2
    cases hq : p.2.ownBlock with
    | none => exact .inl rfl
    | some m =>
      right
      have := (hb.lt m hq).2
      rw [q]
      intro q2
      simp at q2
      omega
  intro i j p q hp hq hij
  by_cases hi : i < ps.length
  ·rw [List.getElem?_append_left hi] at hp
   by_cases hj : j < ps.length
   ·rw [List.getElem?_append_left hj] at hq
    exact h.apart i j p q (by rw [List.getElem?_append_left hi]; exact hp) (by rw [List.getElem?_append_left hj]; exact hq) hij
   ·have : j = ps.length := by have := (List.getElem?_eq_some_iff.1 hq).1; simp at this; omega
    subst this
    simp at hq
    subst hq
    exact old i p hp
  ·have : i = ps.length := by have := (List.getElem?_eq_some_iff.1 hp).1; simp at this; omega
   subst this
   simp at hp
   subst hp
   by_cases hj : j < ps.length
   ·rw [List.getElem?_append_left hj] at hq
    right
    rcases old j q hq with h0 | h0
    ·rw [h0]; exact hev
    ·exact Ne.symm h0
   ·exact absurd (by have := (List.getElem?_eq_some_iff.1 hq).1; simp at this; omega) hij
/- what is made can be read -/
theorem ownZs_rd {ps zs} (h : OwnZs w B v ps zs) : RdZones w v zs := by
 refine ⟨ps.map Prod.snd, by simp [h.len], ?_, ?_⟩
 ·have e : ((zs.zip (ps.map Prod.snd)).map fun p => (p.1.name, p.2)) = ps := by
   apply List.ext_getElem?
   intro i
   rcases Nat.lt_or_ge i ps.length with hi | hi
   ·have hp : ps[i]? = some ps[i] := List.getElem?_eq_getElem hi
    have hz : zs[i]? = some (zs[i]'(by rw [← h.len]; exact hi)) := List.getElem?_eq_getElem _
    have := (h.eras i _ _ hp hz).1
    simp [List.getElem?_map, List.getElem?_zip_eq_some, hp, hz, List.zip_eq_zipWith, List.getElem?_zipWith, ← this]
   ·rw [List.getElem?_eq_none hi, List.getElem?_eq_none]
    have := h.len
    simp; omega
  rw [e]
  exact own_rd zoneCells_len h.row
 ·intro i ev x hi hx
  simp [List.getElem?_map] at hi
  obtain ⟨nm, hp⟩ := hi
  exact own_rd eraCells_len (h.eras i _ x hp hx).2
theorem ownSrc_rd {s : Sx.Sr} (h : OwnSrc w B r z l s) : RdSrc w r z l s := by
 obtain ⟨ps, hz⟩ := h.zones
 exact ⟨own_rd ruleCells_len h.rules, ownZs_rd hz, own_rd linkCells_len h.links⟩
end
end
section
open Go.RowKit

namespace Sx
theorem addEra_snoc (x : Er) : ∀ (zs : List Zn) (z : Zn), addEra x (zs ++ [z]) = zs ++ [⟨z.name, z.eras ++ [x]⟩]
 | [], z => rfl
 | [a], z => rfl
 | a :: b :: r, z => by
   show a :: addEra x (b :: r ++ [z]) = _
   rw [addEra_snoc x (b :: r) z]; rfl
/- how a line ends: what is left, and whether it stands in as it should -/
def ended (oF : O) (inner must : Bool) : Bool := decide (oF = some []) && (inner == must)
theorem line_must {st : St} {l : Tx.Ln} {x : Er} {oF : O} (hm : st.must = true) (he : EraEnd (some l.fields) x oF) :
  lineO st l = if ended oF l.inner true = true then some ⟨⟨st.src.rules, addEra x st.src.zones, st.src.links⟩, !x.opn⟩ else none := by
 unfold EraEnd at he
 unfold lineO ended
 rw [hm]
 cases hi : l.inner
 ·simp
 ·simp only [ne_eq, not_true_eq_false, if_false, if_true, Option.bind_some] at he ⊢
  cases h : eraO l.fields with
  | none => rw [h] at he; simp only at he; subst he; simp [whole]
  | some p =>
    rw [h] at he; simp only at he
    obtain ⟨rfl, rfl⟩ := he
    obtain ⟨a, r⟩ := p
    cases r <;> simp [whole]
theorem line_word {st : St} {l : Tx.Ln} (hm : st.must = false) : lineO st l = if l.inner = true then none else wordO st.src l.fields := by
 unfold lineO
 rw [hm]
 cases l.inner <;> simp
theorem zoneW_ne : ¬ zoneW = ruleW := by decide
theorem linkW_ne : ¬ linkW = ruleW := by decide
theorem linkW_ne' : ¬ linkW = zoneW := by decide
theorem word_rule (s : Sr) (fs : List Tx.Bs) : wordO s (ruleW :: fs) = (whole (ruleO fs)).map fun r => ⟨⟨s.rules ++ [r], s.zones, s.links⟩, false⟩ := by
 simp [wordO]
theorem word_zone (s : Sr) (fs : List Tx.Bs) : wordO s (zoneW :: fs) = (whole (zoneO fs)).map fun p => ⟨⟨s.rules, s.zones ++ [⟨p.1, [p.2]⟩], s.links⟩, !p.2.opn⟩ := by
 simp [wordO, zoneW_ne]
theorem word_link (s : Sr) (fs : List Tx.Bs) : wordO s (linkW :: fs) = (whole (linkO fs)).map fun l => ⟨⟨s.rules, s.zones, s.links ++ [l]⟩, false⟩ := by
 simp [wordO, linkW_ne, linkW_ne']
theorem line_rule {st : St} {l : Tx.Ln} {fs : List Tx.Bs} (hm : st.must = false) (hf : l.fields = ruleW :: fs) :
  lineO st l = if ended (r8 (some fs)) l.inner false = true then some ⟨⟨st.src.rules ++ [ruleT (some fs)], st.src.zones, st.src.links⟩, false⟩ else none := by
 rw [line_word hm, hf, word_rule]
 unfold ended
 cases hi : l.inner
 ·cases h : ruleO fs with
  | none => rw [rule_none h]; simp [whole]
  | some p =>
    obtain ⟨x, r⟩ := p
    obtain ⟨h1, h2⟩ := rule_some h
    rw [h1, h2]
    cases r <;> simp [whole]
 ·simp
theorem line_zone {st : St} {l : Tx.Ln} {fs : List Tx.Bs} {x : Er} {oF : O} (hm : st.must = false) (hf : l.fields = zoneW :: fs) (he : EraEnd (keep (nameB (nxS (some fs))) (nxO (some fs))) x oF) :
  lineO st l = if ended oF l.inner false = true then some ⟨⟨st.src.rules, st.src.zones ++ [⟨nxS (some fs), [x]⟩], st.src.links⟩, !x.opn⟩ else none := by
 rw [line_word hm, hf, word_zone]
 unfold ended
 unfold EraEnd at he
 cases hi : l.inner
 ·cases fs with
  | nil => simp [nxO, keep_none] at he; subst he; simp [whole, zoneO]
  | cons n fs =>
    cases hn : nameB n with
    | false =>
      simp [nxS, nxO, keep, hn] at he; subst he; simp [whole, zoneO, nameO, hn]
    | true =>
      simp only [nxS, nxO, keep, hn, if_true, Option.bind_some] at he
      cases h : eraO fs with
      | none => rw [h] at he; simp only at he; subst he; simp [whole, zoneO, nameO, hn, h]
      | some p =>
        rw [h] at he; simp only at he
        obtain ⟨rfl, rfl⟩ := he
        obtain ⟨a, r⟩ := p
        cases r <;> simp [whole, zoneO, nameO, hn, h, nxS]
 ·simp
def lk1 (fs : List Tx.Bs) : O := keep (nameB (nxS (some fs))) (nxO (some fs))
def lk2 (fs : List Tx.Bs) : O := keep (nameB (nxS (lk1 fs))) (nxO (lk1 fs))
theorem line_link {st : St} {l : Tx.Ln} {fs : List Tx.Bs} (hm : st.must = false) (hf : l.fields = linkW :: fs) :
  lineO st l = if ended (lk2 fs) l.inner false = true then some ⟨⟨st.src.rules, st.src.zones, st.src.links ++ [⟨nxS (some fs), nxS (lk1 fs)⟩]⟩, false⟩ else none := by
 rw [line_word hm, hf, word_link]
 unfold ended
 cases hi : l.inner
 ·match fs with
  | [] => simp [lk2, lk1, nxO, keep_none, whole, linkO]
  | [a] => cases ha : nameB a <;> simp [lk2, lk1, nxO, nxS, keep, keep_none, whole, linkO, ha]
  | a :: b :: r => cases ha : nameB a <;> cases hb : nameB b <;> cases r <;> simp [lk2, lk1, nxO, nxS, keep, keep_none, whole, linkO, nameO, ha, hb]
 ·simp
theorem line_other {st : St} {l : Tx.Ln} (hm : st.must = false) (h1 : nxS (some l.fields) ≠ ruleW) (h2 : nxS (some l.fields) ≠ zoneW) (h3 : nxS (some l.fields) ≠ linkW) : lineO st l = none := by
 rw [line_word hm]
 split
 ·rfl
 ·cases hf : l.fields with
  | nil => rfl
  | cons a r =>
    rw [hf] at h1 h2 h3
    simp only [nxS] at h1 h2 h3
    simp only [wordO]
    rw [if_neg h1, if_neg h2, if_neg h3]
end Sx
end
end Go.Proofs.YtkhlkohlccndgaaGreat
