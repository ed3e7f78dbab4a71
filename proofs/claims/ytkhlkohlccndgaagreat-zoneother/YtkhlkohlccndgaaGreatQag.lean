/- Part of the proof: TkV TkW. -/
import Derived.Test.YtkhlkohlccndgaaGreatQz
import Derived.Test.YtkhlkohlccndgaaGreatQaf
import Derived.Deep.Cut
import Derived.Deep.CutRange
import Derived.Deep.CutBlock
set_option linter.unusedVariables false
set_option linter.unusedSimpArgs false
set_option maxRecDepth 100000
set_option maxHeartbeats 16000000
namespace Go.Proofs.YtkhlkohlccndgaaGreat
section
open Go.RowKit

def gu : List Value := [.string ⟨#[]⟩, .int .i64 0, .int .i64 0, .int .i64 0, .int .i64 0, .int .i64 0, .int .i64 0, .int .i64 0, .int .i64 0, .int .i64 0, .string ⟨#[]⟩]
theorem DV {lim : Nat} (b : Nat) (o : Sx.O) (w : World) (h : TkO w b lim o) :
  Calls Tryz.prog 148 #[.pointer (some ⟨b, 0, none⟩)] w fun e w' =>
   e = .returned (nG (Sx.tF o)) ∧ w.grownBy w' (some b) ∧ TkO w' b lim (Sx.r8 o) := by
 obtain ⟨lt, le⟩ := nL h
 have T0 := hid (bH (bH h (.cells gu.toArray 40)) (.cells gu.toArray 40))
 have R0 := hid (aM (aD w gu 40) (.cells gu.toArray 40))
 have X0 : Hid (ak ((w.alloc (.cells gu.toArray 40)).alloc (.cells gu.toArray 40)) (w.heap.size + 1) gu) := by
  have := aD (w.alloc (.cells gu.toArray 40)) gu 40
  rw [show (w.alloc (.cells gu.toArray 40)).heap.size = w.heap.size + 1 by simp] at this
  exact this
 have hne : ¬ w.heap.size = b := by omega
 have hne1 : ¬ w.heap.size + 1 = b := by omega
 have le1 : lim ≤ w.heap.size + 1 := by omega
 have hX : ¬ w.heap.size = w.heap.size + 1 := by omega
 clear h
 go_enter Tryz.func148, Tryz.ntmps148
 go_wp2_with fail
 -- name
 refine (qD b o _ T0.out).mono ?_
 rintro e w1 ⟨rfl, g1, t1⟩
 have GA := hid (dG (dG g1))
 have T1 : Hid (TkO w1 b lim (Sx.r1 o)) := t1
 have R1 := hid (aL R0.out g1 hne)
 have X1 := hid (aL X0.out g1 hne1)
 clear T0 R0 X0 g1 t1
 obtain ⟨k0, z0⟩ := aa X1.out 0 rfl
 have sz := X1.out.1
 go_wp2_with fail
 clear k0 z0 sz
 have X2 := hid (cK (X1.out) 0 (ag (Sx.nxS o)) (by simp [gu]))
 have R2 := hid (bR (o := 0) (u := ag (Sx.nxS o)) (R1.out) hX)
 have T2 := hid (aU (o := 0) (u := ag (Sx.nxS o)) (T1.out) le1)
 have GB := hid (bv (o := 0) (u := ag (Sx.nxS o)) (GA.out) (Nat.le_succ _))
 clear X1 R1 T1 GA
 have n2 := iq T2.out
 refine (ed b _ _ T2.out).mono ?_
 rintro e w2 ⟨rfl, g1, t1⟩
 have GA := hid (aN GB.out g1)
 have T1 : Hid (TkO w2 b lim (Sx.nxO (Sx.r1 o))) := t1
 have R1 := hid (aL R2.out g1 hne)
 have X1 := hid (aL X2.out g1 hne1)
 clear X2 R2 T2 GB g1 t1
 go_wp2_with fail
 have X2 := X1
 have R2 := R1
 have T2 := T1
 have GB := GA
 clear X1 R1 T1 GA
 refine (gD b _ _ 4 4 _ T2.out (by omega) n2).mono ?_
 rintro e w3 ⟨rfl, g1, t1⟩
 have GA := hid (aN GB.out g1)
 have T1 : Hid (TkO w3 b lim (Sx.r2 o)) := t1
 have R1 := hid (aL R2.out g1 hne)
 have X1 := hid (aL X2.out g1 hne1)
 clear X2 R2 T2 GB g1 t1
 clear n2
 obtain ⟨k1, z1⟩ := aa X1.out 1 rfl
 have sz := X1.out.1
 go_wp2_with fail
 clear sz k1 z1
 have X2 := hid (cK (X1.out) 1 (.int .i64 ((Sx.num 4 4 (Sx.nxS (Sx.r1 o))).getD 0)) (by simp [gu]))
 have R2 := hid (bR (o := 1) (u := .int .i64 ((Sx.num 4 4 (Sx.nxS (Sx.r1 o))).getD 0)) (R1.out) hX)
 have T2 := hid (aU (o := 1) (u := .int .i64 ((Sx.num 4 4 (Sx.nxS (Sx.r1 o))).getD 0)) (T1.out) le1)
 have GB := hid (bv (o := 1) (u := .int .i64 ((Sx.num 4 4 (Sx.nxS (Sx.r1 o))).getD 0)) (GA.out) (Nat.le_succ _))
 clear X1 R1 T1 GA
 have n2 := iq T2.out
 refine (ed b _ _ T2.out).mono ?_
 rintro e w4 ⟨rfl, g1, t1⟩
 have GA := hid (aN GB.out g1)
 have T1 : Hid (TkO w4 b lim (Sx.nxO (Sx.r2 o))) := t1
 have R1 := hid (aL R2.out g1 hne)
 have X1 := hid (aL X2.out g1 hne1)
 clear X2 R2 T2 GB g1 t1
 obtain ⟨F, hF⟩ : ∃ F, ((Sx.num 4 4 (Sx.nxS (Sx.r1 o))).getD 0) = F := ⟨_, rfl⟩
 obtain ⟨l3, hl3⟩ : ∃ l3, Sx.nxS (Sx.r2 o) = l3 := ⟨_, rfl⟩
 have R3 : Hid (Sx.r3 o = Sx.keep (Sx.gTo l3) (Sx.nxO (Sx.r2 o))) := by show _ = _; rw [← hl3]; rfl
 rw [hl3] at n2 ⊢
 have TV : Hid (Sx.toV F l3 = if l3 = Sx.only then F else if l3 = Sx.Ba then 2100 else (Sx.num 4 4 l3).getD 0) := rfl
 have HF := hid hF
 have HL3 := hid hl3
 rw [hF] at X1 ⊢
 clear hF hl3
 go_upto_block 0 with fail
 go_cut [] from 16 to 27 (fun wc => Hid (w.grownBy wc (some b)) ∧ Hid (TkO wc b lim (Sx.r3 o)) ∧ Hid (ak wc w.heap.size gu) ∧ Hid (ak wc (w.heap.size + 1) (((gu.set 0 (ag (Sx.nxS o))).set 1 (.int .i64 F)).set 2 (.int .i64 (Sx.toV F l3)))))
 case first =>
  by_cases c1 : l3 = Sx.only
  ·have q1 : (l3 == [111, 110, 108, 121]) = true := by simp [c1, Sx.only]
   have TV' : Hid (Sx.toV F l3 = F) := by show _ = _; rw [TV.out, if_pos c1]
   have R3' : Hid (Sx.r3 o = Sx.nxO (Sx.r2 o)) := by show _ = _; rw [R3.out, c1]; rfl
   clear c1
   obtain ⟨k1, z1⟩ := aa X1.out 1 rfl
   obtain ⟨k2, z2⟩ := aa X1.out 2 rfl
   have sz := X1.out.1
   go_wp2_with fail
   clear sz k1 z1 k2 z2
   have X2 := hid (cK (X1.out) 2 (.int .i64 F) (by simp [gu]))
   have R2 := hid (bR (o := 2) (u := .int .i64 F) (R1.out) hX)
   have T2 := hid (aU (o := 2) (u := .int .i64 F) (T1.out) le1)
   have GB := hid (bv (o := 2) (u := .int .i64 F) (GA.out) (Nat.le_succ _))
   clear X1 R1 T1 GA
   rw [← R3'.out] at T2
   go_meet
   exact ⟨GB, T2, R2, by show ak _ _ _; rw [TV'.out]; exact X2.out⟩
  have q1 : (l3 == [111, 110, 108, 121]) = false := by simpa [Sx.only] using c1
  by_cases c2 : l3 = Sx.Ba
  ·have q2 : (l3 == [109, 97, 120]) = true := by simp [c2, Sx.Ba]
   have TV' : Hid (Sx.toV F l3 = 2100) := by show _ = _; rw [TV.out, if_neg c1, if_pos c2]
   have R3' : Hid (Sx.r3 o = Sx.nxO (Sx.r2 o)) := by show _ = _; rw [R3.out, c2]; rfl
   clear c1 c2
   obtain ⟨k2, z2⟩ := aa X1.out 2 rfl
   have sz := X1.out.1
   go_wp2_with fail
   clear sz k2 z2
   have X2 := hid (cK (X1.out) 2 (.int .i64 2100) (by simp [gu]))
   have R2 := hid (bR (o := 2) (u := .int .i64 2100) (R1.out) hX)
   have T2 := hid (aU (o := 2) (u := .int .i64 2100) (T1.out) le1)
   have GB := hid (bv (o := 2) (u := .int .i64 2100) (GA.out) (Nat.le_succ _))
   clear X1 R1 T1 GA
   rw [← R3'.out] at T2
   go_meet
   exact ⟨GB, T2, R2, by show ak _ _ _; rw [TV'.out]; exact X2.out⟩
  ·have q2 : (l3 == [109, 97, 120]) = false := by simpa [Sx.Ba] using c2
   have TV' : Hid (Sx.toV F l3 = (Sx.num 4 4 l3).getD 0) := by show _ = _; rw [TV.out, if_neg c1, if_neg c2]
   have R3' : Hid (Sx.r3 o = Sx.keep (Sx.num 4 4 l3).isSome (Sx.nxO (Sx.r2 o))) := by show _ = _; rw [R3.out]; simp [Sx.gTo, c1, c2]
   clear c1 c2
   go_wp2_with fail
   have X2 := X1
   have R2 := R1
   have T2 := T1
   have GB := GA
   clear X1 R1 T1 GA
   refine (gD b _ _ 4 4 _ T2.out (by omega) n2).mono ?_
   rintro e w5 ⟨rfl, g1, t1⟩
   have GA := hid (aN GB.out g1)
   have T1 : Hid (TkO w5 b lim (Sx.keep (Sx.num 4 4 l3).isSome (Sx.nxO (Sx.r2 o)))) := t1
   have R1 := hid (aL R2.out g1 hne)
   have X1 := hid (aL X2.out g1 hne1)
   clear X2 R2 T2 GB g1 t1
   obtain ⟨k2, z2⟩ := aa X1.out 2 rfl
   have sz := X1.out.1
   go_wp2_with fail
   clear sz k2 z2
   have X2 := hid (cK (X1.out) 2 (.int .i64 ((Sx.num 4 4 l3).getD 0)) (by simp [gu]))
   have R2 := hid (bR (o := 2) (u := .int .i64 ((Sx.num 4 4 l3).getD 0)) (R1.out) hX)
   have T2 := hid (aU (o := 2) (u := .int .i64 ((Sx.num 4 4 l3).getD 0)) (T1.out) le1)
   have GB := hid (bv (o := 2) (u := .int .i64 ((Sx.num 4 4 l3).getD 0)) (GA.out) (Nat.le_succ _))
   clear X1 R1 T1 GA
   rw [← R3'.out] at T2
   go_meet
   exact ⟨GB, T2, R2, by show ak _ _ _; rw [TV'.out]; exact X2.out⟩
 case rest =>
 clear X1 R1 T1 GA n2 R3 TV
 obtain ⟨GB, T2, R2, X2⟩ := hcut
 go_wp2_with fail
 refine (yg b _ _ T2.out).mono ?_
 rintro e w6 ⟨rfl, g1, t1⟩
 have GA := hid (aN GB.out g1)
 have T1 : Hid (TkO w6 b lim (Sx.r4 o)) := t1
 have R1 := hid (aL R2.out g1 hne)
 have X1 := hid (aL X2.out g1 hne1)
 clear X2 R2 T2 GB g1 t1
 obtain ⟨k3, z3⟩ := aa X1.out 3 rfl
 have sz := X1.out.1
 go_wp2_with fail
 clear sz k3 z3
 have X2 := hid (cK (X1.out) 3 (.int .i64 ((Sx.dA (Sx.nxS (Sx.r3 o))).getD 0)) (by simp [gu]))
 have R2 := hid (bR (o := 3) (u := .int .i64 ((Sx.dA (Sx.nxS (Sx.r3 o))).getD 0)) (R1.out) hX)
 have T2 := hid (aU (o := 3) (u := .int .i64 ((Sx.dA (Sx.nxS (Sx.r3 o))).getD 0)) (T1.out) le1)
 have GB := hid (bv (o := 3) (u := .int .i64 ((Sx.dA (Sx.nxS (Sx.r3 o))).getD 0)) (GA.out) (Nat.le_succ _))
 clear X1 R1 T1 GA
 refine (Iy b _ _ T2.out).mono ?_
 rintro e w7 ⟨rfl, g1, t1⟩
 have GA := hid (aN GB.out g1)
 have T1 : Hid (TkO w7 b lim (Sx.r5 o)) := t1
 have R1 := hid (aL R2.out g1 hne)
 have X1 := hid (aL X2.out g1 hne1)
 clear X2 R2 T2 GB g1 t1
 obtain ⟨k4, z4⟩ := aa X1.out 4 rfl
 obtain ⟨k5, z5⟩ := aa X1.out 5 rfl
 obtain ⟨k6, z6⟩ := aa X1.out 6 rfl
 have sz := X1.out.1
 go_wp2_with fail
 clear sz k4 z4 k5 z5 k6 z6
 have X2 := hid (cK (cK (cK (X1.out) 4 (.int .i64 (Sx.di (Sx.nxS (Sx.r4 o))).kind) (by simp [gu])) 5 (.int .i64 (Sx.di (Sx.nxS (Sx.r4 o))).wk) (by simp [gu])) 6 (.int .i64 (Sx.di (Sx.nxS (Sx.r4 o))).n) (by simp [gu]))
 have R2 := hid (bR (o := 6) (u := .int .i64 (Sx.di (Sx.nxS (Sx.r4 o))).n) (bR (o := 5) (u := .int .i64 (Sx.di (Sx.nxS (Sx.r4 o))).wk) (bR (o := 4) (u := .int .i64 (Sx.di (Sx.nxS (Sx.r4 o))).kind) (R1.out) hX) hX) hX)
 have T2 := hid (aU (o := 6) (u := .int .i64 (Sx.di (Sx.nxS (Sx.r4 o))).n) (aU (o := 5) (u := .int .i64 (Sx.di (Sx.nxS (Sx.r4 o))).wk) (aU (o := 4) (u := .int .i64 (Sx.di (Sx.nxS (Sx.r4 o))).kind) (T1.out) le1) le1) le1)
 have GB := hid (bv (o := 6) (u := .int .i64 (Sx.di (Sx.nxS (Sx.r4 o))).n) (bv (o := 5) (u := .int .i64 (Sx.di (Sx.nxS (Sx.r4 o))).wk) (bv (o := 4) (u := .int .i64 (Sx.di (Sx.nxS (Sx.r4 o))).kind) (GA.out) (Nat.le_succ _)) (Nat.le_succ _)) (Nat.le_succ _))
 clear X1 R1 T1 GA
 refine (si b _ 1 _ T2.out (.inl rfl)).mono ?_
 rintro e w8 ⟨rfl, g1, t1⟩
 have GA := hid (aN GB.out g1)
 have T1 : Hid (TkO w8 b lim (Sx.r6 o)) := t1
 have R1 := hid (aL R2.out g1 hne)
 have X1 := hid (aL X2.out g1 hne1)
 clear X2 R2 T2 GB g1 t1
 obtain ⟨k7, z7⟩ := aa X1.out 7 rfl
 obtain ⟨k8, z8⟩ := aa X1.out 8 rfl
 have sz := X1.out.1
 go_wp2_with fail
 clear sz k7 z7 k8 z8
 have X2 := hid (cK (cK (X1.out) 7 (.int .i64 (Sx.bK 1 (Sx.nxS (Sx.r5 o))).1) (by simp [gu])) 8 (.int .i64 (Sx.bK 1 (Sx.nxS (Sx.r5 o))).2) (by simp [gu]))
 have R2 := hid (bR (o := 8) (u := .int .i64 (Sx.bK 1 (Sx.nxS (Sx.r5 o))).2) (bR (o := 7) (u := .int .i64 (Sx.bK 1 (Sx.nxS (Sx.r5 o))).1) (R1.out) hX) hX)
 have T2 := hid (aU (o := 8) (u := .int .i64 (Sx.bK 1 (Sx.nxS (Sx.r5 o))).2) (aU (o := 7) (u := .int .i64 (Sx.bK 1 (Sx.nxS (Sx.r5 o))).1) (T1.out) le1) le1)
 have GB := hid (bv (o := 8) (u := .int .i64 (Sx.bK 1 (Sx.nxS (Sx.r5 o))).2) (bv (o := 7) (u := .int .i64 (Sx.bK 1 (Sx.nxS (Sx.r5 o))).1) (GA.out) (Nat.le_succ _)) (Nat.le_succ _))
 clear X1 R1 T1 GA
 have n2 := iq T2.out
 refine (ed b _ _ T2.out).mono ?_
 rintro e w9 ⟨rfl, g1, t1⟩
 have GA := hid (aN GB.out g1)
 have T1 : Hid (TkO w9 b lim (Sx.nxO (Sx.r6 o))) := t1
 have R1 := hid (aL R2.out g1 hne)
 have X1 := hid (aL X2.out g1 hne1)
 clear X2 R2 T2 GB g1 t1
 go_wp2_with fail
 have X2 := X1
 have R2 := R1
 have T2 := T1
 have GB := GA
 clear X1 R1 T1 GA
 refine (nI b _ _ _ T2.out n2).mono ?_
 rintro e w10 ⟨rfl, g1, t1⟩
 have GA := hid (aN GB.out g1)
 have T1 : Hid (TkO w10 b lim (Sx.r7 o)) := t1
 have R1 := hid (aL R2.out g1 hne)
 have X1 := hid (aL X2.out g1 hne1)
 clear X2 R2 T2 GB g1 t1
 clear n2
 obtain ⟨k9, z9⟩ := aa X1.out 9 rfl
 have sz := X1.out.1
 go_wp2_with fail
 clear sz k9 z9
 have X2 := hid (cK (X1.out) 9 (.int .i64 (Sx.bL (Sx.nxS (Sx.r6 o)))) (by simp [gu]))
 have R2 := hid (bR (o := 9) (u := .int .i64 (Sx.bL (Sx.nxS (Sx.r6 o)))) (R1.out) hX)
 have T2 := hid (aU (o := 9) (u := .int .i64 (Sx.bL (Sx.nxS (Sx.r6 o)))) (T1.out) le1)
 have GB := hid (bv (o := 9) (u := .int .i64 (Sx.bL (Sx.nxS (Sx.r6 o)))) (GA.out) (Nat.le_succ _))
 clear X1 R1 T1 GA
 have n2 := iq T2.out
 refine (ed b _ _ T2.out).mono ?_
 rintro e w11 ⟨rfl, g1, t1⟩
 have GA := hid (aN GB.out g1)
 have T1 : Hid (TkO w11 b lim (Sx.nxO (Sx.r7 o))) := t1
 have R1 := hid (aL R2.out g1 hne)
 have X1 := hid (aL X2.out g1 hne1)
 clear X2 R2 T2 GB g1 t1
 obtain ⟨l8, hl8⟩ : ∃ l8, Sx.nxS (Sx.r7 o) = l8 := ⟨_, rfl⟩
 have R8 : Hid (Sx.r8 o = Sx.keep (Sx.kK l8) (Sx.nxO (Sx.r7 o))) := by show _ = _; rw [← hl8]; rfl
 have RT : Hid (Sx.tF o = ⟨Sx.nxS o, F, Sx.toV F l3, (Sx.dA (Sx.nxS (Sx.r3 o))).getD 0, (Sx.di (Sx.nxS (Sx.r4 o))).kind, (Sx.di (Sx.nxS (Sx.r4 o))).wk, (Sx.di (Sx.nxS (Sx.r4 o))).n, (Sx.bK 1 (Sx.nxS (Sx.r5 o))).1, (Sx.bK 1 (Sx.nxS (Sx.r5 o))).2, Sx.bL (Sx.nxS (Sx.r6 o)), Sx.il l8⟩) := by show _ = _; rw [← hl8, ← HF.out, ← HL3.out]; rfl
 rw [hl8] at n2 ⊢
 clear hl8 HF HL3
 obtain ⟨tx, bad, b0, b1, y0, y1, blt⟩ := eB T1.out
 have sz := X1.out.1
 have sr := R1.out.1
 obtain ⟨k0, z0⟩ := aa X1.out 0 rfl
 obtain ⟨k1, z1⟩ := aa X1.out 1 rfl
 obtain ⟨k2, z2⟩ := aa X1.out 2 rfl
 obtain ⟨k3, z3⟩ := aa X1.out 3 rfl
 obtain ⟨k4, z4⟩ := aa X1.out 4 rfl
 obtain ⟨k5, z5⟩ := aa X1.out 5 rfl
 obtain ⟨k6, z6⟩ := aa X1.out 6 rfl
 obtain ⟨k7, z7⟩ := aa X1.out 7 rfl
 obtain ⟨k8, z8⟩ := aa X1.out 8 rfl
 obtain ⟨k9, z9⟩ := aa X1.out 9 rfl
 obtain ⟨k10, z10⟩ := aa X1.out 10 rfl
 obtain ⟨p0, v0⟩ := aa R1.out 0 rfl
 obtain ⟨p1, v1⟩ := aa R1.out 1 rfl
 obtain ⟨p2, v2⟩ := aa R1.out 2 rfl
 obtain ⟨p3, v3⟩ := aa R1.out 3 rfl
 obtain ⟨p4, v4⟩ := aa R1.out 4 rfl
 obtain ⟨p5, v5⟩ := aa R1.out 5 rfl
 obtain ⟨p6, v6⟩ := aa R1.out 6 rfl
 obtain ⟨p7, v7⟩ := aa R1.out 7 rfl
 obtain ⟨p8, v8⟩ := aa R1.out 8 rfl
 obtain ⟨p9, v9⟩ := aa R1.out 9 rfl
 obtain ⟨p10, v10⟩ := aa R1.out 10 rfl
 have hX' : ¬ w.heap.size + 1 = w.heap.size := by omega
 have hbX : ¬ b = w.heap.size + 1 := by omega
 have hbR : ¬ b = w.heap.size := by omega
 by_cases c0 : l8 = []
 ·have q0 : l8.isEmpty = true := by rw [c0]; rfl
  have q1 : (l8 == [45]) = false := by rw [c0]; rfl
  have LV : Sx.il l8 = l8 := by rw [c0]; rfl
  have R8' : Hid (Sx.r8 o = none) := by show _ = _; rw [R8.out, c0]; rfl
  clear c0
  go_wp2
  rw [RT.out]
  refine bodyPost_ret (v := nG ⟨Sx.nxS o, F, Sx.toV F l3, (Sx.dA (Sx.nxS (Sx.r3 o))).getD 0, (Sx.di (Sx.nxS (Sx.r4 o))).kind, (Sx.di (Sx.nxS (Sx.r4 o))).wk, (Sx.di (Sx.nxS (Sx.r4 o))).n, (Sx.bK 1 (Sx.nxS (Sx.r5 o))).1, (Sx.bK 1 (Sx.nxS (Sx.r5 o))).2, Sx.bL (Sx.nxS (Sx.r6 o)), Sx.il l8⟩) (by simp [results, Tryz.results148, go_sem, LV, *]) rfl ⟨rfl, ?_, ?_⟩
  ·repeat (refine bv ?_ (by omega))
   exact bV GA.out (.inl rfl) _
  ·rw [R8'.out]
   repeat (refine aU ?_ (by omega))
   exact fo T1.out
 have q0 : l8.isEmpty = false := by cases l8 with | nil => exact absurd rfl c0 | cons _ _ => rfl
 by_cases c1 : l8 = [45]
 ·have q1 : (l8 == [45]) = true := by simp [c1]
  have LV : Sx.il l8 = [] := by rw [c1]; rfl
  have R8' : Hid (Sx.r8 o = Sx.nxO (Sx.r7 o)) := by show _ = _; rw [R8.out, c1]; rfl
  clear c0 c1
  go_wp2
  rw [RT.out]
  refine bodyPost_ret (v := nG ⟨Sx.nxS o, F, Sx.toV F l3, (Sx.dA (Sx.nxS (Sx.r3 o))).getD 0, (Sx.di (Sx.nxS (Sx.r4 o))).kind, (Sx.di (Sx.nxS (Sx.r4 o))).wk, (Sx.di (Sx.nxS (Sx.r4 o))).n, (Sx.bK 1 (Sx.nxS (Sx.r5 o))).1, (Sx.bK 1 (Sx.nxS (Sx.r5 o))).2, Sx.bL (Sx.nxS (Sx.r6 o)), Sx.il l8⟩) (by simp [results, Tryz.results148, go_sem, LV, *]) rfl ⟨rfl, ?_, ?_⟩
  ·repeat (refine bv ?_ (by omega))
   exact GA.out
  ·rw [R8'.out]
   repeat (refine aU ?_ (by omega))
   exact T1.out
 have q1 : (l8 == [45]) = false := by simpa using c1
 have LV : Sx.il l8 = l8 := by rw [Sx.il, if_neg c1]
 cases hL : Sx.dS l8
 ·have R8' : Hid (Sx.r8 o = none) := by show _ = _; rw [R8.out, Sx.kK, Sx.jL, if_neg c1, if_neg (by simp [hL])]; rfl
  have HL := hid hL
  clear c0 c1 hL
  go_wp2_with (go_at_call 164; refine (qI _ _ n2 HL.out).mono ?_; rintro e w12 ⟨rfl, rfl⟩)
  rw [RT.out]
  refine bodyPost_ret (v := nG ⟨Sx.nxS o, F, Sx.toV F l3, (Sx.dA (Sx.nxS (Sx.r3 o))).getD 0, (Sx.di (Sx.nxS (Sx.r4 o))).kind, (Sx.di (Sx.nxS (Sx.r4 o))).wk, (Sx.di (Sx.nxS (Sx.r4 o))).n, (Sx.bK 1 (Sx.nxS (Sx.r5 o))).1, (Sx.bK 1 (Sx.nxS (Sx.r5 o))).2, Sx.bL (Sx.nxS (Sx.r6 o)), Sx.il l8⟩) (by simp [results, Tryz.results148, go_sem, LV, *]) rfl ⟨rfl, ?_, ?_⟩
  ·repeat (refine bv ?_ (by omega))
   exact bV GA.out (.inl rfl) _
  ·rw [R8'.out]
   repeat (refine aU ?_ (by omega))
   exact fo T1.out
 ·have R8' : Hid (Sx.r8 o = Sx.nxO (Sx.r7 o)) := by show _ = _; rw [R8.out, Sx.kK, Sx.jL, if_neg c1, if_pos ⟨c0, hL⟩]; rfl
  have HL := hid hL
  clear c0 c1 hL
  go_wp2_with (go_at_call 164; refine (qI _ _ n2 HL.out).mono ?_; rintro e w12 ⟨rfl, rfl⟩)
  rw [RT.out]
  refine bodyPost_ret (v := nG ⟨Sx.nxS o, F, Sx.toV F l3, (Sx.dA (Sx.nxS (Sx.r3 o))).getD 0, (Sx.di (Sx.nxS (Sx.r4 o))).kind, (Sx.di (Sx.nxS (Sx.r4 o))).wk, (Sx.di (Sx.nxS (Sx.r4 o))).n, (Sx.bK 1 (Sx.nxS (Sx.r5 o))).1, (Sx.bK 1 (Sx.nxS (Sx.r5 o))).2, Sx.bL (Sx.nxS (Sx.r6 o)), Sx.il l8⟩) (by simp [results, Tryz.results148, go_sem, LV, *]) rfl ⟨rfl, ?_, ?_⟩
  ·repeat (refine bv ?_ (by omega))
   exact GA.out
  ·rw [R8'.out]
   repeat (refine aU ?_ (by omega))
   exact T1.out
end
section
open Go.RowKit

namespace Sx
def iD (s : Tx.Bs) : Bool := (mf s).isSome
def j5 (s : Tx.Bs) : Bool := (l7 s).isSome
def digH : Tx.Bs → Bool
 | [] => false
 | c :: _ => fZ c
def gU (s : Tx.Bs) : Int := if s.head? = some 45 then -bL s.tail else bL s
def dM (s : Tx.Bs) : Tx.Bs × Int := if s = [45] then ([], 0) else if digH s = true then ([], bL s) else (s, 0)
theorem ma (s : Tx.Bs) : l7 s = if s = [45] then some ([], 0) else if digH s = true then (if s = [48] then none else (dJ s).map fun n => ([], n)) else if bF s = true then some (s, 0) else none := by
 unfold l7; cases s <;> rfl
theorem yw {s : Tx.Bs} {n : Int} (h : mf s = some n) : gU s = n := by
 unfold mf at h; unfold gU
 split
 ·rename_i q
  rw [if_pos q] at h
  simp [Option.map_eq_some_iff] at h
  obtain ⟨a, h1, h2⟩ := h
  rw [lu h1]; exact h2
 ·rename_i q
  rw [if_neg q] at h
  exact lu h
theorem yu {s : Tx.Bs} {p : Tx.Bs × Int} (h : l7 s = some p) : dM s = p := by
 rw [ma] at h; unfold dM
 split
 ·rename_i q; rw [if_pos q] at h; simpa using h
 ·rename_i q
  rw [if_neg q] at h
  split
  ·rename_i q2
   rw [if_pos q2] at h
   split at h
   ·cases h
   ·simp [Option.map_eq_some_iff] at h
    obtain ⟨a, h1, h2⟩ := h
    rw [lu h1]; exact h2
  ·rename_i q2
   rw [if_neg q2] at h
   split at h
   ·simpa using h
   ·cases h
def e1 (o : O) : O := stp iD o
def e2 (o : O) : O := stp j5 (e1 o)
def e3 (o : O) : O := stp dw (e2 o)
def e4 (o : O) : O := stp (j4 4 4) (e3 o)
def e5 (o : O) : O := stp gz (e4 o)
def e6 (o : O) : O := stp (j4 1 2) (e5 o)
def e7 (o : O) : O := stp (j3 2) (e6 o)
def e8 (o : O) : O := keep (decide ((bK 2 (nxS (e6 o))).2 ≠ 1)) (e7 o)
def Av (o : O) : Er := ⟨gU (nxS o), (dM (nxS (e1 o))).1, (dM (nxS (e1 o))).2, nxS (e2 o), true, 0, 0, 0, 0, 0⟩
def xO (o : O) : Er := ⟨gU (nxS o), (dM (nxS (e1 o))).1, (dM (nxS (e1 o))).2, nxS (e2 o), false, (num 4 4 (nxS (e3 o))).getD 0, (dA (nxS (e4 o))).getD 0, (num 1 2 (nxS (e5 o))).getD 0, (bK 2 (nxS (e6 o))).1, (bK 2 (nxS (e6 o))).2⟩
theorem Ig : e3 none = none := by simp [e3, e2, e1, bB]
theorem Ex {o : O} (h : e3 o = none) : e8 o = none := by simp [e8, e7, e6, e5, e4, h, bB, dC]
/- what the fields of an era come to -/
theorem Ez {fs : List Tx.Bs} (h : e3 (some fs) = none) : pu fs = none := by
 match fs, h with
 | [], _ => rfl
 | [_], _ => rfl
 | [_, _], _ => rfl
 | a :: b :: c :: rest, h =>
   simp only [pu]
   cases h1 : mf a with
   | none => rfl
   | some sh =>
     cases h2 : l7 b with
     | none => rfl
     | some rs =>
       cases h3 : lQ c with
       | none => rfl
       | some f =>
         have hf : dw c = true := by
          unfold lQ at h3; split at h3
          ·assumption
          ·cases h3
         exfalso
         simp [e3, e2, e1, bE, iD, j5, h1, h2, hf] at h
theorem Aw {fs rest : List Tx.Bs} (h : e3 (some fs) = some rest) : ∃ a b c, fs = a :: b :: c :: rest ∧ ∃ sh rs, mf a = some sh ∧ l7 b = some rs ∧ dw c = true ∧ nxS (some fs) = a ∧ nxS (e1 (some fs)) = b ∧ nxS (e2 (some fs)) = c := by
 match fs, h with
 | [], h => simp [e3, e2, e1, mi, bB] at h
 | [a], h =>
   exfalso
   by_cases q : iD a = true <;> simp [e3, e2, e1, mi, bB, bE, q] at h
 | [a, b], h =>
   exfalso
   by_cases q : iD a = true <;> by_cases q2 : j5 b = true <;> simp [e3, e2, e1, mi, bB, bE, q, q2] at h
 | a :: b :: c :: r, h =>
   cases h1 : mf a with
   | none => simp [e3, e2, e1, bB, bE, iD, h1] at h
   | some sh =>
     cases h2 : l7 b with
     | none => simp [e3, e2, e1, bB, bE, iD, j5, h1, h2] at h
     | some rs =>
       cases h3 : dw c with
       | false => simp [e3, e2, e1, bB, bE, iD, j5, h1, h2, h3] at h
       | true =>
         simp [e3, e2, e1, bB, bE, iD, j5, h1, h2, h3] at h
         subst h
         exact ⟨a, b, c, rfl, sh, rs, h1, h2, h3, rfl, by simp [e1, bE, iD, h1, nxS], by simp [e2, e1, bE, iD, j5, h1, h2, nxS]⟩
theorem Ik {fs : List Tx.Bs} (h : e3 (some fs) = some []) : pu fs = some (Av (some fs), []) := by
 obtain ⟨a, b, c, rfl, sh, rs, h1, h2, h3, n1, n2, n3⟩ := Aw h
 have v1 := yw h1
 have v2 := yu h2
 simp only [pu, h1, h2, lQ, h3, if_true, Option.bind_some, Av, n1, n2, n3, v1, v2]
theorem Il {fs : List Tx.Bs} {f : Tx.Bs} {r : List Tx.Bs} (h : e3 (some fs) = some (f :: r)) : pu fs = (e8 (some fs)).map fun rest => (xO (some fs), rest) := by
 obtain ⟨a, b, c, rfl, sh, rs, h1, h2, h3, n1, n2, n3⟩ := Aw h
 have v1 := yw h1
 have v2 := yu h2
 simp only [pu, h1, h2, lQ, h3, if_true, Option.bind_some, e8, e7, e6, e5, e4, xO, h, n1, n2, n3, v1, v2]
 match f, r with
 | y, [] => by_cases q : j4 4 4 y = true <;> simp [bE, mi, bB, dC, q]
 | y, [m] => by_cases q : j4 4 4 y = true <;> by_cases q2 : gz m = true <;> simp [bE, mi, bB, dC, q, q2]
 | y, [m, d] => by_cases q : j4 4 4 y = true <;> by_cases q2 : gz m = true <;> by_cases q3 : j4 1 2 d = true <;> simp [bE, mi, bB, dC, q, q2, q3]
 | y, m :: d :: t :: more =>
   simp only
   cases k1 : num 4 4 y with
   | none => simp [bE, bB, dC, j4, k1]
   | some uy =>
     cases k2 : dA m with
     | none => simp [bE, bB, dC, j4, gz, k1, k2]
     | some um =>
       cases k3 : num 1 2 d with
       | none => simp [bE, bB, dC, j4, gz, k1, k2, k3]
       | some ud =>
         cases k4 : iC 2 t with
         | none => simp [bE, bB, dC, j4, gz, j3, k1, k2, k3, k4]
         | some ac =>
           have v4 := xK k4
           by_cases k5 : ac.2 = 1
           ·simp [bE, bB, keep, nxS, j4, gz, j3, k1, k2, k3, k4, v4, k5]
           ·simp [bE, bB, keep, nxS, j4, gz, j3, k1, k2, k3, k4, v4, k5]
end Sx
theorem LD {w : World} {b lim : Nat} {o : Sx.O} (h : TkO w b lim o) : ∃ a n cap, w.cell? ⟨b, 0, none⟩ = some (.slice a n cap) ∧ ∀ fs, o = some fs → n = fs.length := by
 cases o with
 | none => obtain ⟨fs, lt', le, ⟨a, cap, c0, _⟩, _⟩ := h.out; exact ⟨_, _, _, c0, fun _ q => by cases q⟩
 | some fs => obtain ⟨lt', le, ⟨a, cap, c0, _⟩, _⟩ := (show TkS _ _ _ _ _ from h.out); exact ⟨_, _, _, c0, fun _ q => by cases q; rfl⟩
end
end Go.Proofs.YtkhlkohlccndgaaGreat
