/- Part of the proof: TkX SrO PrP RfL TxF BaA PaM Sd Se. -/
import Derived.Test.YtkhlkohlccndgaaGreatQz
import Derived.Test.YtkhlkohlccndgaaGreatQag
import Derived.Deep.Cut
import Derived.Deep.CutRange
import Derived.Deep.CutBlock
import Derived.Test.YtkhlkohlccndgaaGreatQaa
import Derived.Maps.AppendAt
import Derived.Laws.OwnMore
import Derived.OneCell
import Derived.Test.YtkhlkohlccndgaaGreatQae
import Derived.Laws.AppendOwn
import Derived.Deep.RegionLaw
import Derived.Deep.RegionLawGrows
set_option linter.unusedVariables false
set_option linter.unusedSimpArgs false
set_option maxRecDepth 100000
set_option maxHeartbeats 16000000
namespace Go.Proofs.YtkhlkohlccndgaaGreat
section
open Go.RowKit

def jy : List Value := [.int .i64 0, .string ⟨#[]⟩, .int .i64 0, .string ⟨#[]⟩, .bool false, .int .i64 0, .int .i64 0, .int .i64 0, .int .i64 0, .int .i64 0]
/- how it ends -/
def nH (o : Sx.O) (x : Sx.Er) (oF : Sx.O) : Prop := match o.bind Sx.rY with | some p => x = p.1 ∧ oF = some p.2 | none => oF = none
theorem Fh {o : Sx.O} {n : Nat} (h : ∀ fs, Sx.e3 o = some fs → n = fs.length) (hn : n = 0) : nH o (Sx.Fp o) (Sx.e3 o) := by
 unfold nH
 cases o with
 | none => exact Sx.OP
 | some fs =>
   show match Sx.rY fs with | some p => _ | none => _
   cases he : Sx.e3 (some fs) with
   | none => rw [Sx.KW he]
   | some r =>
     have : r = [] := List.length_eq_zero_iff.1 (by have := h r he; omega)
     subst this
     rw [Sx.OZ he]
     exact ⟨rfl, rfl⟩
theorem Fj {o : Sx.O} {n : Nat} (h : ∀ fs, Sx.e3 o = some fs → n = fs.length) (hn : ¬ n = 0) : nH o (Sx.Bw o) (Sx.e8 o) := by
 unfold nH
 cases o with
 | none => exact Sx.KU Sx.OP
 | some fs =>
   show match Sx.rY fs with | some p => _ | none => _
   cases he : Sx.e3 (some fs) with
   | none => rw [Sx.KW he]; exact Sx.KU he
   | some r =>
     match r, he with
     | [], he => exact absurd (h [] he) hn
     | f :: r, he =>
       rw [Sx.O5 he]
       cases h8 : Sx.e8 (some fs) with
       | none => rfl
       | some q => exact ⟨rfl, rfl⟩
theorem Kr {w : World} {b lim : Nat} {o o' : Sx.O} (h : TkO w b lim o') (e : o = o') : TkO w b lim o := by rw [e]; exact h
theorem Bv {lim : Nat} (b : Nat) (o : Sx.O) (w : World) (h : TkO w b lim o) :
  Calls Tryz.prog 147 #[.pointer (some ⟨b, 0, none⟩)] w fun e w' => ∃ x oF, e = .returned (iF x) ∧ w.grownBy w' (some b) ∧ TkO w' b lim oF ∧ nH o x oF := by
 obtain ⟨lt, le⟩ := qp h
 have T2 := hid (bJ (bJ h (.cells jy.toArray 67)) (.cells jy.toArray 67))
 have R2 := hid (aH (aC w jy 67) (.cells jy.toArray 67))
 have X2 : Hid (ag ((w.alloc (.cells jy.toArray 67)).alloc (.cells jy.toArray 67)) (w.heap.size + 1) jy) := by
  have := aC (w.alloc (.cells jy.toArray 67)) jy 67
  rw [show (w.alloc (.cells jy.toArray 67)).heap.size = w.heap.size + 1 by simp] at this
  exact this
 have GB := hid (pK (pK (jc w b) (.cells jy.toArray 67)) (.cells jy.toArray 67))
 have hne : ¬ w.heap.size = b := by omega
 have hne1 : ¬ w.heap.size + 1 = b := by omega
 have le1 : lim ≤ w.heap.size + 1 := by omega
 have hX : ¬ w.heap.size = w.heap.size + 1 := by omega
 have hX' : ¬ w.heap.size + 1 = w.heap.size := by omega
 have hbX : ¬ b = w.heap.size + 1 := by omega
 have hbR : ¬ b = w.heap.size := by omega
 have n2 := je h
 clear h
 obtain ⟨l1, hl1⟩ : ∃ l1, Sx.nxS o = l1 := ⟨_, rfl⟩
 obtain ⟨l2, hl2⟩ : ∃ l2, Sx.nxS (Sx.e1 o) = l2 := ⟨_, rfl⟩
 have E1 : Hid (Sx.e1 o = Sx.keep (Sx.ji l1) (Sx.nxO o)) := by show _ = _; rw [← hl1]; rfl
 have E2 : Hid (Sx.e2 o = Sx.keep (Sx.lS l2) (Sx.nxO (Sx.e1 o))) := by show _ = _; rw [← hl2]; rfl
 have ET0 : Hid (Sx.Fp o = ⟨Sx.iT l1, (Sx.dW l2).1, (Sx.dW l2).2, Sx.nxS (Sx.e2 o), true, 0, 0, 0, 0, 0⟩) := by show _ = _; rw [← hl1, ← hl2]; rfl
 have ET1 : Hid (Sx.Bw o = ⟨Sx.iT l1, (Sx.dW l2).1, (Sx.dW l2).2, Sx.nxS (Sx.e2 o), false, (Sx.num 4 4 (Sx.nxS (Sx.e3 o))).getD 0, (Sx.dE (Sx.nxS (Sx.e4 o))).getD 0, (Sx.num 1 2 (Sx.nxS (Sx.e5 o))).getD 0, (Sx.bP 2 (Sx.nxS (Sx.e6 o))).1, (Sx.bP 2 (Sx.nxS (Sx.e6 o))).2⟩) := by show _ = _; rw [← hl1, ← hl2]; rfl
 have HL1 := hid hl1
 have HL2 := hid hl2
 rw [hl1] at n2
 have sb1 := Sx.QI l1.tail
 clear hl1 hl2
 go_enter Tryz.func147, Tryz.ntmps147
 go_wp2_with fail
 refine (fe b _ _ T2.out).mono ?_
 rintro e w1 ⟨rfl, g1, t1⟩
 have GA := hid (aP GB.out g1)
 have T1 : Hid (TkO w1 b lim (Sx.nxO o)) := t1
 have R1 := hid (aK R2.out g1 hne)
 have X1 := hid (aK X2.out g1 hne1)
 clear X2 R2 T2 GB g1 t1
 rw [HL1.out]
 obtain ⟨H, hH⟩ : ∃ H, decide (l1.head? = some 45) = H := ⟨_, rfl⟩
 have HH := hid hH
 clear hH
 go_upto_region 3 with fail
 go_cut [16] from 10 to 16 (fun s16 wc => s16 = .bool H ∧ wc = w1)
 case first =>
  match l1, HH with
  | [], HH =>
    have hf : H = false := HH.out.symm
    subst hf
    go_wp2_with fail
    go_meet
    exact ⟨rfl, rfl⟩
  | c :: r, HH =>
    have hq : ((c.toNat : Int) == 45) = H := by rw [← HH.out]; have := iy c 45; simp at this; rw [Bool.eq_iff_iff]; simp [this]
    have h0 : (⟨(c :: r).toArray⟩ : ByteArray)[0]'(by rw [cK]; simp) = c := rfl
    have hs0 : 0 < (⟨(c :: r).toArray⟩ : ByteArray).size := by rw [cK]; simp
    clear HH
    go_wp2_with fail
    go_meet
    exact ⟨rfl, rfl⟩
 case rest =>
 obtain ⟨rfl, rfl⟩ := hcut
 go_upto_if 16 with fail
 go_cut [] from 17 to 26 (fun wc => Hid (w.grownBy wc (some b)) ∧ Hid (TkO wc b lim (Sx.e1 o)) ∧ Hid (ag wc w.heap.size jy) ∧ Hid (ag wc (w.heap.size + 1) (jy.set 0 (.int .i64 (Sx.iT l1)))))
 case first =>
  cases hb : H
  ·have SV : Hid (Sx.iT l1 = Sx.bR l1) := by show _ = _; rw [Sx.iT, if_neg (by have := HH.out; rw [hb] at this; simpa using this)]
   have SO : Hid (Sx.ji l1 = (Sx.dR l1).isSome) := by show _ = _; rw [Sx.ji, Sx.oq, if_neg (by have := HH.out; rw [hb] at this; simpa using this)]
   subst hb
   have X2 := X1
   have R2 := R1
   have T2 := T1
   have GB := GA
   clear X1 R1 T1 GA
   go_wp2_with fail
   refine (qg b _ _ _ T2.out n2).mono ?_
   rintro e w2 ⟨rfl, g1, t1⟩
   have GA := hid (aP GB.out g1)
   have T1 : Hid (TkO w2 b lim (Sx.keep (Sx.dR l1).isSome (Sx.nxO o))) := t1
   have R1 := hid (aK R2.out g1 hne)
   have X1 := hid (aK X2.out g1 hne1)
   clear X2 R2 T2 GB g1 t1
   obtain ⟨k0, z0⟩ := aa X1.out 0 rfl
   have sz := X1.out.1
   go_wp2_with fail
   go_meet
   clear sz k0 z0
   have X2 := hid (aS (X1.out) 0 (.int .i64 (Sx.bR l1)) (by simp [jy]))
   have R2 := hid (bz (o := 0) (u := .int .i64 (Sx.bR l1)) (R1.out) hX)
   have T2 := hid (aV (o := 0) (u := .int .i64 (Sx.bR l1)) (T1.out) le1)
   have GB := hid (bD (o := 0) (u := .int .i64 (Sx.bR l1)) (GA.out) (Nat.le_succ _))
   clear X1 R1 T1 GA
   rw [E1.out, SV.out, SO.out]
   exact ⟨GB, T2, R2, X2⟩
  ·have hq : l1.head? = some 45 := by have := HH.out; rw [hb] at this; simpa using this
   have SV : Hid (Sx.iT l1 = -Sx.bR l1.tail) := by show _ = _; rw [Sx.iT, if_pos hq]
   have SO : Hid (Sx.ji l1 = (Sx.dR l1.tail).isSome) := by show _ = _; rw [Sx.ji, Sx.oq, if_pos hq]; cases Sx.dR l1.tail <;> rfl
   have hs0 : (1 : Int) ≤ ((⟨l1.toArray⟩ : ByteArray).size : Int) := by rw [cK]; cases l1 with | nil => cases hq | cons c r => simp; omega
   have TD := hid (show ((⟨l1.toArray⟩ : ByteArray).extract 1 (⟨l1.toArray⟩ : ByteArray).size).data.toList = l1.tail by rw [Eo, fD]; simp)
   have nt : l1.tail.length ≤ 24 := by simp; omega
   obtain ⟨sb1, sb2⟩ := sb1
   subst hb
   clear hq
   have X2 := X1
   have R2 := R1
   have T2 := T1
   have GB := GA
   clear X1 R1 T1 GA
   go_wp2_with fail
   refine (uK b _ _ _ TD.out _ T2.out nt).mono ?_
   rintro e w2 ⟨rfl, g1, t1⟩
   have GA := hid (aP GB.out g1)
   have T1 : Hid (TkO w2 b lim (Sx.keep (Sx.dR l1.tail).isSome (Sx.nxO o))) := t1
   have R1 := hid (aK R2.out g1 hne)
   have X1 := hid (aK X2.out g1 hne1)
   clear X2 R2 T2 GB g1 t1
   obtain ⟨k0, z0⟩ := aa X1.out 0 rfl
   have sz := X1.out.1
   go_wp2_with fail
   go_meet
   clear sz k0 z0
   have X2 := hid (aS (X1.out) 0 (.int .i64 (-Sx.bR l1.tail)) (by simp [jy]))
   have R2 := hid (bz (o := 0) (u := .int .i64 (-Sx.bR l1.tail)) (R1.out) hX)
   have T2 := hid (aV (o := 0) (u := .int .i64 (-Sx.bR l1.tail)) (T1.out) le1)
   have GB := hid (bD (o := 0) (u := .int .i64 (-Sx.bR l1.tail)) (GA.out) (Nat.le_succ _))
   clear X1 R1 T1 GA
   rw [E1.out, SV.out, SO.out]
   exact ⟨GB, T2, R2, X2⟩
 case rest =>
 clear X1 R1 T1 GA n2 sb1 HH
 obtain ⟨GB, T2, R2, X2⟩ := hcut
 have n2 := je T2.out
 rw [HL2.out] at n2
 go_wp2_with fail
 refine (fe b _ _ T2.out).mono ?_
 rintro e w3 ⟨rfl, g1, t1⟩
 have GA := hid (aP GB.out g1)
 have T1 : Hid (TkO w3 b lim (Sx.nxO (Sx.e1 o))) := t1
 have R1 := hid (aK R2.out g1 hne)
 have X1 := hid (aK X2.out g1 hne1)
 clear X2 R2 T2 GB g1 t1
 rw [HL2.out]
 go_upto_block 0 with fail
 go_cut [] from 29 to 56 (fun wc => Hid (w.grownBy wc (some b)) ∧ Hid (TkO wc b lim (Sx.e2 o)) ∧ Hid (ag wc w.heap.size jy) ∧ Hid (ag wc (w.heap.size + 1) (((jy.set 0 (.int .i64 (Sx.iT l1))).set 1 (af (Sx.dW l2).1)).set 2 (.int .i64 (Sx.dW l2).2))))
 case first =>
  by_cases c1 : l2 = [45]
  ·have q1 : (l2 == [45]) = true := by simp [c1]
   have RV : Hid (Sx.dW l2 = ([], 0)) := by show _ = _; rw [Sx.dW, if_pos c1]
   have E2' : Hid (Sx.e2 o = Sx.nxO (Sx.e1 o)) := by show _ = _; rw [E2.out, c1]; rfl
   rw [← E2'.out] at T1
   clear c1 E2 E2'
   have X2 := X1
   have R2 := R1
   have T2 := T1
   have GB := GA
   clear X1 R1 T1 GA
   go_wp2_with fail
   go_meet
   exact ⟨GB, T2, R2, by show ag _ _ _; rw [RV.out]; exact X2.out⟩
  have q1 : (l2 == [45]) = false := by simpa using c1
  cases hd : Sx.digH l2
  ·have RV : Hid (Sx.dW l2 = (l2, 0)) := by show _ = _; rw [Sx.dW, if_neg c1, if_neg (by simp [hd])]
   have GR : Hid (Sx.lS l2 = Sx.aW l2) := by show _ = _; rw [Sx.lS, Sx.oo, if_neg c1, if_neg (by simp [hd])]; cases Sx.aW l2 <;> rfl
   obtain ⟨NB, hNB⟩ : ∃ NB, Sx.aW l2 = NB := ⟨_, rfl⟩
   have HN := hid hNB
   clear hNB c1
   rw [HN.out] at GR
   obtain ⟨tx, bad, b0, b1, y0, y1, blt⟩ := fq T1.out
   obtain ⟨k1, z1⟩ := aa X1.out 1 rfl
   have sz := X1.out.1
   match l2, hd with
   | [], hd =>
     have hnb : NB = false := HN.out.symm
     subst hnb
     go_wp2_with (go_at_call 120; refine (gq _ _ HN.out).mono ?_; rintro e w5 ⟨rfl, rfl⟩)
     clear sz k1 z1
     clear b0 b1 y0 y1 blt
     have X2 := hid (aS (bz (o := 1) (u := .bool true) X1.out hne1) 1 (af []) (by simp [jy]))
     have R2 := hid (bz (o := 1) (u := af []) (bz (o := 1) (u := .bool true) R1.out hne) hX)
     have T2 := hid (Kr (o := Sx.e2 o) (aV (o := 1) (u := af []) (fK T1.out) le1) (by rw [E2.out, GR.out]; rfl))
     have GB := hid (bD (o := 1) (u := af []) (cO GA.out (p := ⟨b, 1, none⟩) (.inl rfl) (.bool true)) (Nat.le_succ _))
     clear X1 R1 T1 GA E2 GR HN
     go_meet
     exact ⟨GB, T2, R2, by show ag _ _ _; rw [RV.out]; exact X2.out⟩
   | c :: r, hd =>
     have HD : Hid (Sx.fZ c = false) := hd
     have h0 : (⟨(c :: r).toArray⟩ : ByteArray)[0]'(by rw [cK]; simp) = c := rfl
     have hs0 : 0 < (⟨(c :: r).toArray⟩ : ByteArray).size := by rw [cK]; simp
     clear hd
     cases hnb : NB
     ·subst hnb
      go_wp2_with (first | (go_at_call 166; refine (bH _ _ HD.out).mono ?_; rintro e w4 ⟨rfl, rfl⟩) | (go_at_call 120; refine (gq _ _ HN.out).mono ?_; rintro e w5 ⟨rfl, rfl⟩))
      clear sz k1 z1
      clear b0 b1 y0 y1 blt
      have X2 := hid (aS (bz (o := 1) (u := .bool true) X1.out hne1) 1 (af (c :: r)) (by simp [jy]))
      have R2 := hid (bz (o := 1) (u := af (c :: r)) (bz (o := 1) (u := .bool true) R1.out hne) hX)
      have T2 := hid (Kr (o := Sx.e2 o) (aV (o := 1) (u := af (c :: r)) (fK T1.out) le1) (by rw [E2.out, GR.out]; rfl))
      have GB := hid (bD (o := 1) (u := af (c :: r)) (cO GA.out (p := ⟨b, 1, none⟩) (.inl rfl) (.bool true)) (Nat.le_succ _))
      clear X1 R1 T1 GA E2 GR HN
      go_meet
      exact ⟨GB, T2, R2, by show ag _ _ _; rw [RV.out]; exact X2.out⟩
     ·subst hnb
      go_wp2_with (first | (go_at_call 166; refine (bH _ _ HD.out).mono ?_; rintro e w4 ⟨rfl, rfl⟩) | (go_at_call 120; refine (gq _ _ HN.out).mono ?_; rintro e w5 ⟨rfl, rfl⟩))
      clear sz k1 z1
      clear b0 b1 y0 y1 blt
      have X2 := hid (aS X1.out 1 (af (c :: r)) (by simp [jy]))
      have R2 := hid (bz (o := 1) (u := af (c :: r)) R1.out hX)
      have T2 := hid (Kr (o := Sx.e2 o) (aV (o := 1) (u := af (c :: r)) T1.out le1) (by rw [E2.out, GR.out]; rfl))
      have GB := hid (bD (o := 1) (u := af (c :: r)) GA.out (Nat.le_succ _))
      clear X1 R1 T1 GA E2 GR HN
      go_meet
      exact ⟨GB, T2, R2, by show ag _ _ _; rw [RV.out]; exact X2.out⟩
  ·have RV : Hid (Sx.dW l2 = ([], Sx.bR l2)) := by show _ = _; rw [Sx.dW, if_neg c1, if_pos hd]
   have HD : Hid (∃ c r, l2 = c :: r ∧ Sx.fZ c = true) := by cases l2 with | nil => cases hd | cons c r => exact ⟨c, r, rfl, hd⟩
   obtain ⟨c, r, hcr, hcd⟩ := HD.out
   have hs0 : 0 < (⟨l2.toArray⟩ : ByteArray).size := by rw [cK, hcr]; simp
   have h0 : (⟨l2.toArray⟩ : ByteArray)[0]'hs0 = c := by subst hcr; rfl
   have hE : l2.isEmpty = false := by rw [hcr]; rfl
   have HDc := hid hcd
   have HCR := hid hcr
   clear hcr hcd HD
   by_cases c2 : l2 = [48]
   ·have q2 : (l2 == [48]) = true := by simp [c2]
    have E2' : Hid (Sx.e2 o = none) := by show _ = _; rw [E2.out, c2]; rfl
    obtain ⟨tx, bad, b0, b1, y0, y1, blt⟩ := fq T1.out
    clear c1 c2 hd E2
    go_wp2_with (go_at_call 166; refine (bH _ _ HDc.out).mono ?_; rintro e w4 ⟨rfl, rfl⟩)
    clear b0 b1 y0 y1 blt
    have X2 := hid (bz (o := 1) (u := .bool true) X1.out hne1)
    have R2 := hid (bz (o := 1) (u := .bool true) R1.out hne)
    have T2 := hid (fK T1.out)
    have GB := hid (cO GA.out (p := ⟨b, 1, none⟩) (.inl rfl) (.bool true))
    clear X1 R1 T1 GA
    refine (qg b _ _ _ T2.out n2).mono ?_
    rintro e w6 ⟨rfl, g1, t1⟩
    have GA := hid (aP GB.out g1)
    have T1 : Hid (TkO w6 b lim (Sx.keep (Sx.dR l2).isSome none)) := t1
    have R1 := hid (aK R2.out g1 hne)
    have X1 := hid (aK X2.out g1 hne1)
    clear X2 R2 T2 GB g1 t1
    rw [Sx.dG, ← E2'.out] at T1
    obtain ⟨k2, z2⟩ := aa X1.out 2 rfl
    have sz := X1.out.1
    go_wp2_with fail
    clear sz k2 z2
    have X2 := hid (aS (X1.out) 2 (.int .i64 (Sx.bR l2)) (by simp [jy]))
    have R2 := hid (bz (o := 2) (u := .int .i64 (Sx.bR l2)) (R1.out) hX)
    have T2 := hid (aV (o := 2) (u := .int .i64 (Sx.bR l2)) (T1.out) le1)
    have GB := hid (bD (o := 2) (u := .int .i64 (Sx.bR l2)) (GA.out) (Nat.le_succ _))
    clear X1 R1 T1 GA
    go_meet
    exact ⟨GB, T2, R2, by show ag _ _ _; rw [RV.out]; exact X2.out⟩
   ·have q2 : (l2 == [48]) = false := by simpa using c2
    have E2' : Hid (Sx.e2 o = Sx.keep (Sx.dR l2).isSome (Sx.nxO (Sx.e1 o))) := by show _ = _; rw [E2.out, Sx.lS, Sx.oo, if_neg c1, if_pos hd, if_neg c2]; cases Sx.dR l2 <;> rfl
    clear c1 c2 hd E2
    go_wp2_with (go_at_call 166; refine (bH _ _ HDc.out).mono ?_; rintro e w4 ⟨rfl, rfl⟩)
    have X2 := X1
    have R2 := R1
    have T2 := T1
    have GB := GA
    clear X1 R1 T1 GA
    refine (qg b _ _ _ T2.out n2).mono ?_
    rintro e w6 ⟨rfl, g1, t1⟩
    have GA := hid (aP GB.out g1)
    have T1 : Hid (TkO w6 b lim (Sx.keep (Sx.dR l2).isSome (Sx.nxO (Sx.e1 o)))) := t1
    have R1 := hid (aK R2.out g1 hne)
    have X1 := hid (aK X2.out g1 hne1)
    clear X2 R2 T2 GB g1 t1
    rw [← E2'.out] at T1
    obtain ⟨k2, z2⟩ := aa X1.out 2 rfl
    have sz := X1.out.1
    go_wp2_with fail
    clear sz k2 z2
    have X2 := hid (aS (X1.out) 2 (.int .i64 (Sx.bR l2)) (by simp [jy]))
    have R2 := hid (bz (o := 2) (u := .int .i64 (Sx.bR l2)) (R1.out) hX)
    have T2 := hid (aV (o := 2) (u := .int .i64 (Sx.bR l2)) (T1.out) le1)
    have GB := hid (bD (o := 2) (u := .int .i64 (Sx.bR l2)) (GA.out) (Nat.le_succ _))
    clear X1 R1 T1 GA
    go_meet
    exact ⟨GB, T2, R2, by show ag _ _ _; rw [RV.out]; exact X2.out⟩
 case rest =>
 clear X1 R1 T1 GA E2 n2
 obtain ⟨GB, T2, R2, X2⟩ := hcut
 go_wp2_with fail
 have nf := je T2.out
 obtain ⟨l3, hl3⟩ : ∃ l3, Sx.nxS (Sx.e2 o) = l3 := ⟨_, rfl⟩
 rw [hl3] at nf ET0 ET1
 have E3 : Hid (Sx.e3 o = Sx.keep (Sx.cZ l3) (Sx.nxO (Sx.e2 o))) := by show _ = _; rw [← hl3]; rfl
 have HL3 := hid hl3
 clear hl3
 refine (fe b _ _ T2.out).mono ?_
 rintro e w7 ⟨rfl, g1, t1⟩
 have GA := hid (aP GB.out g1)
 have T1 : Hid (TkO w7 b lim (Sx.nxO (Sx.e2 o))) := t1
 have R1 := hid (aK R2.out g1 hne)
 have X1 := hid (aK X2.out g1 hne1)
 clear X2 R2 T2 GB g1 t1
 rw [HL3.out]
 obtain ⟨k3, z3⟩ := aa X1.out 3 rfl
 have sz := X1.out.1
 obtain ⟨B, hB⟩ : ∃ B, Sx.cZ l3 = B := ⟨_, rfl⟩
 have HB := hid hB
 clear hB
 go_upto_if 63 with (go_at_call 167; refine (DF _ _ nf HB.out).mono ?_; rintro e w8 ⟨rfl, rfl⟩)
 clear sz k3 z3
 have X2 := hid (aS (X1.out) 3 (af l3) (by simp [jy]))
 have R2 := hid (bz (o := 3) (u := af l3) (R1.out) hX)
 have T2 := hid (aV (o := 3) (u := af l3) (T1.out) le1)
 have GB := hid (bD (o := 3) (u := af l3) (GA.out) (Nat.le_succ _))
 clear X1 R1 T1 GA
 go_cut [] from 64 to 66 (fun wc => Hid (w.grownBy wc (some b)) ∧ Hid (TkO wc b lim (Sx.e3 o)) ∧ Hid (ag wc w.heap.size jy) ∧ Hid (ag wc (w.heap.size + 1) ((((jy.set 0 (.int .i64 (Sx.iT l1))).set 1 (af (Sx.dW l2).1)).set 2 (.int .i64 (Sx.dW l2).2)).set 3 (af l3))))
 case first =>
  obtain ⟨tx, bad, b0, b1, y0, y1, blt⟩ := fq T2.out
  cases hb : B
  ·subst hb
   go_wp2_with fail
   go_meet
   rw [E3.out, HB.out]
   exact ⟨cO GB.out (.inl rfl) _, fK T2.out, bz R2.out hne, bz X2.out hne1⟩
  ·subst hb
   go_wp2_with fail
   go_meet
   rw [E3.out, HB.out]
   exact ⟨GB, T2, R2, X2⟩
 case rest =>
 clear X2 R2 T2 GB HB HL3 nf E3
 obtain ⟨GA, T1, R1, X1⟩ := hcut
 obtain ⟨la, ln, lcap, lc, hln⟩ := Uj T1.out
 have bl := Ae T1.out
 have HLN := hid hln
 clear hln
 by_cases h0 : ln = 0
 ·have EE := hid (Fh HLN.out h0)
  subst h0
  have sz := X1.out.1
  have sr := R1.out.1
  obtain ⟨⟨k0, z0⟩, ⟨k1, z1⟩, ⟨k2, z2⟩, ⟨k3, z3⟩, ⟨k4, z4⟩, ⟨k5, z5⟩, ⟨k6, z6⟩, ⟨k7, z7⟩, ⟨k8, z8⟩, ⟨k9, z9⟩, -⟩ := cp10 X1.out
  obtain ⟨⟨p0, v0⟩, ⟨p1, v1⟩, ⟨p2, v2⟩, ⟨p3, v3⟩, ⟨p4, v4⟩, ⟨p5, v5⟩, ⟨p6, v6⟩, ⟨p7, v7⟩, ⟨p8, v8⟩, ⟨p9, v9⟩, -⟩ := cp10 R1.out
  go_wp2
  refine bodyPost_ret (v := iF ⟨Sx.iT l1, (Sx.dW l2).1, (Sx.dW l2).2, l3, true, 0, 0, 0, 0, 0⟩) (by simp [results, Tryz.results147, go_sem, *]) rfl ⟨Sx.Fp o, _, by rw [ET0.out], ?_, ?_, EE.out⟩
  ·repeat (refine bD ?_ (by omega))
   exact GA.out
  ·repeat (refine aV ?_ (by omega))
   exact T1.out
 ·have EE := hid (Fj HLN.out h0)
  have h0' : ((ln : Int) == 0) = false := by simp; omega
  clear h0 HLN
  have X2 := X1
  have R2 := R1
  have T2 := T1
  have GB := GA
  clear X1 R1 T1 GA
  have n4 := je T2.out
  go_wp2_with fail
  clear lc
  refine (fe b _ _ T2.out).mono ?_
  rintro e w9 ⟨rfl, g1, t1⟩
  have GA := hid (aP GB.out g1)
  have T1 : Hid (TkO w9 b lim (Sx.nxO (Sx.e3 o))) := t1
  have R1 := hid (aK R2.out g1 hne)
  have X1 := hid (aK X2.out g1 hne1)
  clear X2 R2 T2 GB g1 t1
  go_wp2_with fail
  have X2 := X1
  have R2 := R1
  have T2 := T1
  have GB := GA
  clear X1 R1 T1 GA
  refine (il b _ _ 4 4 _ T2.out (by omega) n4).mono ?_
  rintro e w10 ⟨rfl, g1, t1⟩
  have GA := hid (aP GB.out g1)
  have T1 : Hid (TkO w10 b lim (Sx.e4 o)) := t1
  have R1 := hid (aK R2.out g1 hne)
  have X1 := hid (aK X2.out g1 hne1)
  clear X2 R2 T2 GB g1 t1
  go_wp2_with fail
  have X2 := X1
  have R2 := R1
  have T2 := T1
  have GB := GA
  clear X1 R1 T1 GA
  refine (Cf b _ _ T2.out).mono ?_
  rintro e w11 ⟨rfl, g1, t1⟩
  have GA := hid (aP GB.out g1)
  have T1 : Hid (TkO w11 b lim (Sx.e5 o)) := t1
  have R1 := hid (aK R2.out g1 hne)
  have X1 := hid (aK X2.out g1 hne1)
  clear X2 R2 T2 GB g1 t1
  go_wp2_with fail
  have X2 := X1
  have R2 := R1
  have T2 := T1
  have GB := GA
  clear X1 R1 T1 GA
  have n5 := je T2.out
  refine (fe b _ _ T2.out).mono ?_
  rintro e w12 ⟨rfl, g1, t1⟩
  have GA := hid (aP GB.out g1)
  have T1 : Hid (TkO w12 b lim (Sx.nxO (Sx.e5 o))) := t1
  have R1 := hid (aK R2.out g1 hne)
  have X1 := hid (aK X2.out g1 hne1)
  clear X2 R2 T2 GB g1 t1
  go_wp2_with fail
  have X2 := X1
  have R2 := R1
  have T2 := T1
  have GB := GA
  clear X1 R1 T1 GA
  refine (il b _ _ 1 2 _ T2.out (by omega) n5).mono ?_
  rintro e w13 ⟨rfl, g1, t1⟩
  have GA := hid (aP GB.out g1)
  have T1 : Hid (TkO w13 b lim (Sx.e6 o)) := t1
  have R1 := hid (aK R2.out g1 hne)
  have X1 := hid (aK X2.out g1 hne1)
  clear X2 R2 T2 GB g1 t1
  obtain ⟨k5, z5⟩ := aa X1.out 5 rfl
  obtain ⟨k6, z6⟩ := aa X1.out 6 rfl
  obtain ⟨k7, z7⟩ := aa X1.out 7 rfl
  have sz := X1.out.1
  go_wp2_with fail
  clear sz k5 z5 k6 z6 k7 z7
  have X2 := hid (aS (aS (aS (X1.out) 5 (.int .i64 ((Sx.num 4 4 (Sx.nxS (Sx.e3 o))).getD 0)) (by simp [jy])) 6 (.int .i64 ((Sx.dE (Sx.nxS (Sx.e4 o))).getD 0)) (by simp [jy])) 7 (.int .i64 ((Sx.num 1 2 (Sx.nxS (Sx.e5 o))).getD 0)) (by simp [jy]))
  have R2 := hid (bz (o := 7) (u := .int .i64 ((Sx.num 1 2 (Sx.nxS (Sx.e5 o))).getD 0)) (bz (o := 6) (u := .int .i64 ((Sx.dE (Sx.nxS (Sx.e4 o))).getD 0)) (bz (o := 5) (u := .int .i64 ((Sx.num 4 4 (Sx.nxS (Sx.e3 o))).getD 0)) (R1.out) hX) hX) hX)
  have T2 := hid (aV (o := 7) (u := .int .i64 ((Sx.num 1 2 (Sx.nxS (Sx.e5 o))).getD 0)) (aV (o := 6) (u := .int .i64 ((Sx.dE (Sx.nxS (Sx.e4 o))).getD 0)) (aV (o := 5) (u := .int .i64 ((Sx.num 4 4 (Sx.nxS (Sx.e3 o))).getD 0)) (T1.out) le1) le1) le1)
  have GB := hid (bD (o := 7) (u := .int .i64 ((Sx.num 1 2 (Sx.nxS (Sx.e5 o))).getD 0)) (bD (o := 6) (u := .int .i64 ((Sx.dE (Sx.nxS (Sx.e4 o))).getD 0)) (bD (o := 5) (u := .int .i64 ((Sx.num 4 4 (Sx.nxS (Sx.e3 o))).getD 0)) (GA.out) (Nat.le_succ _)) (Nat.le_succ _)) (Nat.le_succ _))
  clear X1 R1 T1 GA
  refine (wC b _ 2 _ T2.out (.inr rfl)).mono ?_
  rintro e w14 ⟨rfl, g1, t1⟩
  have GA := hid (aP GB.out g1)
  have T1 : Hid (TkO w14 b lim (Sx.e7 o)) := t1
  have R1 := hid (aK R2.out g1 hne)
  have X1 := hid (aK X2.out g1 hne1)
  clear X2 R2 T2 GB g1 t1
  have E8 : Hid (Sx.e8 o = Sx.keep (decide ((Sx.bP 2 (Sx.nxS (Sx.e6 o))).2 ≠ 1)) (Sx.e7 o)) := rfl
  obtain ⟨⟨A, K⟩, hAK⟩ : ∃ p, Sx.bP 2 (Sx.nxS (Sx.e6 o)) = p := ⟨_, rfl⟩
  rw [hAK] at E8 ET1 ⊢
  clear hAK
  have sz := X1.out.1
  have sr := R1.out.1
  obtain ⟨⟨k0, z0⟩, ⟨k1, z1⟩, ⟨k2, z2⟩, ⟨k3, z3⟩, ⟨k4, z4⟩, ⟨k5, z5⟩, ⟨k6, z6⟩, ⟨k7, z7⟩, ⟨k8, z8⟩, ⟨k9, z9⟩, -⟩ := cp10 X1.out
  obtain ⟨⟨p0, v0⟩, ⟨p1, v1⟩, ⟨p2, v2⟩, ⟨p3, v3⟩, ⟨p4, v4⟩, ⟨p5, v5⟩, ⟨p6, v6⟩, ⟨p7, v7⟩, ⟨p8, v8⟩, ⟨p9, v9⟩, -⟩ := cp10 R1.out
  obtain ⟨tx, bad, b0, b1, y0, y1, blt⟩ := fq T1.out
  by_cases hK : K = 1
  ·have E8' : Hid (Sx.e8 o = none) := by show _ = _; rw [E8.out]; simp [hK, Sx.keep]
   subst hK
   go_wp2
   refine bodyPost_ret (v := iF ⟨Sx.iT l1, (Sx.dW l2).1, (Sx.dW l2).2, l3, false, (Sx.num 4 4 (Sx.nxS (Sx.e3 o))).getD 0, (Sx.dE (Sx.nxS (Sx.e4 o))).getD 0, (Sx.num 1 2 (Sx.nxS (Sx.e5 o))).getD 0, A, 1⟩) (by simp [results, Tryz.results147, go_sem, *]) rfl ⟨Sx.Bw o, _, by rw [ET1.out], ?_, ?_, EE.out⟩
   ·repeat (refine bD ?_ (by omega))
    exact cO (bD (bD GA.out (by omega)) (by omega)) (.inl rfl) _
   ·rw [E8'.out]
    repeat (refine aV ?_ (by omega))
    exact fK (aV (aV T1.out (by omega)) (by omega))
  ·have E8' : Hid (Sx.e8 o = Sx.e7 o) := by show _ = _; rw [E8.out]; simp [hK, Sx.keep]
   have hK' : (K == 1) = false := by simp [hK]
   clear hK
   go_wp2
   refine bodyPost_ret (v := iF ⟨Sx.iT l1, (Sx.dW l2).1, (Sx.dW l2).2, l3, false, (Sx.num 4 4 (Sx.nxS (Sx.e3 o))).getD 0, (Sx.dE (Sx.nxS (Sx.e4 o))).getD 0, (Sx.num 1 2 (Sx.nxS (Sx.e5 o))).getD 0, A, K⟩) (by simp [results, Tryz.results147, go_sem, *]) rfl ⟨Sx.Bw o, _, by rw [ET1.out], ?_, ?_, EE.out⟩
   ·repeat (refine bD ?_ (by omega))
    exact GA.out
   ·rw [E8'.out]
    repeat (refine aV ?_ (by omega))
    exact T1.out
end
section
open Go.RowKit

def mU (w : World) (B : Nat) (v : Value) (rs : List Sx.Rl) : Prop := w.ownsRow B 40 11 v rs.length (rs.flatMap aG)
def fI (w : World) (B : Nat) (v : Value) (rs : List Sx.Er) : Prop := w.ownsRow B 67 10 v rs.length (rs.flatMap ay)
def mR (w : World) (B : Nat) (v : Value) (rs : List Sx.Lk) : Prop := w.ownsRow B 35 2 v rs.length (rs.flatMap aZ)
/- zones whose eras lie in rows of their own: (name, eras' row) -/
structure OwnZs (w : World) (B : Nat) (v : Value) (ps : List (Tx.Bs × Value)) (zs : List Sx.Zn) : Prop where
 len : ps.length = zs.length
 row : w.ownsRow B 44 2 v ps.length (ps.flatMap di)
 eras : ∀ (i : Nat) (p : Tx.Bs × Value) (x : Sx.Zn), ps[i]? = some p → zs[i]? = some x → p.1 = x.name ∧ fI w B p.2 x.eras
 apart : ∀ (i j : Nat) (p q : Tx.Bs × Value), ps[i]? = some p → ps[j]? = some q → i ≠ j → p.2.ownBlock = none ∨ p.2.ownBlock ≠ q.2.ownBlock
def EF (w : World) (B : Nat) (v : Value) (zs : List Sx.Zn) : Prop := ∃ ps, OwnZs w B v ps zs
structure gN (w : World) (B : Nat) (r z l : Value) (s : Sx.Sr) : Prop where
 rules : mU w B r s.rules
 zones : EF w B z s.zones
 links : mR w B l s.links
section
variable {w w' W : World} {B : Nat} {v r z l : Value}
theorem Gm {ps zs} (h : OwnZs w B v ps zs) : ∃ a cap, v = .slice a zs.length cap := by rw [← h.len]; exact aF h.row
theorem iq (w : World) (B : Nat) : gN w B (.slice none 0 0) (.slice none 0 0) (.slice none 0 0) ⟨[], [], []⟩ :=
 ⟨World.ownsRow_nil _ _ _ _, ⟨[], rfl, World.ownsRow_nil _ _ _ _, fun i p x h => by simp at h, fun i j p q h => by simp at h⟩, World.ownsRow_nil _ _ _ _⟩
theorem fT {ps zs} (h : OwnZs W B v ps zs) (hb : Below W.heap.size W w') : OwnZs w' B v ps zs :=
 ⟨h.len, aJ h.row hb, fun i p x a b => ⟨(h.eras i p x a b).1, aJ (h.eras i p x a b).2 hb⟩, h.apart⟩
theorem uB {s : Sx.Sr} (h : gN W B r z l s) (hb : Below W.heap.size W w') : gN w' B r z l s := by
 obtain ⟨ps, hz⟩ := h.zones
 exact ⟨aJ h.rules hb, ⟨ps, fT hz hb⟩, aJ h.links hb⟩
/- a row of another kind has turned -/
theorem JD {ps zs} {row : Option Nat} (h : OwnZs W B v ps zs) (hg : W.grownBy w' row) (h1 : v.ownBlock = none ∨ v.ownBlock ≠ row) (h2 : ∀ (i : Nat) (p : Tx.Bs × Value), ps[i]? = some p → p.2.ownBlock = none ∨ p.2.ownBlock ≠ row) : OwnZs w' B v ps zs :=
 ⟨h.len, h.row.kept hg h1, fun i p x a b => ⟨(h.eras i p x a b).1, (h.eras i p x a b).2.kept hg (h2 i p a)⟩, h.apart⟩
theorem wX {ps zs} {e : TypeId} {k n : Nat} {u : Value} {xs : List Value} (h : OwnZs W B v ps zs) (hu : W.ownsRow B e k u n xs) (he : e ≠ 44) (he' : e ≠ 67) (hg : W.grownBy w' u.ownBlock) : OwnZs w' B v ps zs := by
 refine JD h hg (gz h.row hu (Ne.symm he)) fun i p hp => ?_
 obtain ⟨x, hx⟩ : ∃ x, zs[i]? = some x := ⟨_, q4G (by rw [← h.len]; exact (q4L.1 hp).1)⟩
 exact gz (h.eras i p x hp hx).2 hu (Ne.symm he')
/- one more -/
theorem DZ {rs : List Sx.Rl} {x : Sx.Rl} (h : w.ownsRow B 40 11 v (rs.length + 1) (rs.flatMap aG ++ aG x)) : mU w B v (rs ++ [x]) := by
 unfold mU; simpa using h
theorem Gj {rs : List Sx.Er} {x : Sx.Er} (h : w.ownsRow B 67 10 v (rs.length + 1) (rs.flatMap ay ++ ay x)) : fI w B v (rs ++ [x]) := by
 unfold fI; simpa using h
theorem DY {rs : List Sx.Lk} {x : Sx.Lk} (h : w.ownsRow B 35 2 v (rs.length + 1) (rs.flatMap aZ ++ aZ x)) : mR w B v (rs ++ [x]) := by
 unfold mR; simpa using h
theorem Nf {ps zs} {v' ev : Value} {x : Sx.Zn} (h : OwnZs W B v ps zs) (hx : fI W B ev x.eras) (hne : ∀ (i : Nat) (p : Tx.Bs × Value), ps[i]? = some p → p.2.ownBlock = none ∨ p.2.ownBlock ≠ ev.ownBlock) (hev : ev.ownBlock ≠ none)
  (hg : W.grownBy w' v.ownBlock) (h' : w'.ownsRow B 44 2 v' (ps.length + 1) (ps.flatMap di ++ di (x.name, ev))) : OwnZs w' B v' (ps ++ [(x.name, ev)]) (zs ++ [x]) := by
 have keep : ∀ u (y : Sx.Zn), fI W B u y.eras → fI w' B u y.eras := fun u y hu => hu.kept hg (gz hu h.row (by decide))
 refine ⟨by simp [h.len], by simpa using h', ?_, ?_⟩
 ·intro i p y hp hy
  by_cases hi : i < ps.length
  ·rw [List.getElem?_append_left hi] at hp
   rw [List.getElem?_append_left (by rw [← h.len]; exact hi)] at hy
   exact ⟨(h.eras i p y hp hy).1, keep _ _ (h.eras i p y hp hy).2⟩
  ·have : i = ps.length := by have := (q4L.1 hp).1; simp at this; omega
   subst this
   simp at hp
   rw [h.len] at hy
   simp at hy
   subst hp hy
   exact ⟨rfl, keep _ _ hx⟩
 ·intro i j p q hp hq hij
  by_cases hi : i < ps.length
  ·rw [List.getElem?_append_left hi] at hp
   by_cases hj : j < ps.length
   ·rw [List.getElem?_append_left hj] at hq
    exact h.apart i j p q hp hq hij
   ·have : j = ps.length := by have := (q4L.1 hq).1; simp at this; omega
    subst this
    simp at hq
    subst hq
    exact hne i p hp
  ·have : i = ps.length := by have := (q4L.1 hp).1; simp at this; omega
   subst this
   simp at hp
   subst hp
   by_cases hj : j < ps.length
   ·rw [List.getElem?_append_left hj] at hq
    right
    rcases hne j q hq with h0 | h0
    ·rw [h0]; exact hev
    ·exact Ne.symm h0
   ·exact absurd (by have := (q4L.1 hq).1; simp at this; omega) hij
/- the last zone has an era more: its row's cell is written anew -/
theorem JE {ps : List (Tx.Bs × Value)} {zs : List Sx.Zn} {g cap : Nat} {nm : Tx.Bs} {ev ev' : Value} {es es' : List Sx.Er} (h : OwnZs W B (.slice (some ⟨g, 0, none⟩) (ps.length + 1) cap) (ps ++ [(nm, ev)]) (zs ++ [⟨nm, es⟩]))
  (hg : W.grownBy w ev.ownBlock) (hx : fI w B ev' es') (hat : ev'.ownBlock = ev.ownBlock ∨ ∃ k, ev'.ownBlock = some k ∧ W.heap.size ≤ k) (hev : ev'.ownBlock ≠ none) :
  OwnZs (w.setCell ⟨g, ps.length * 2 + 1, none⟩ ev') B (.slice (some ⟨g, 0, none⟩) (ps.length + 1) cap) (ps ++ [(nm, ev')]) (zs ++ [⟨nm, es'⟩]) := by
 have hl : ps.length = zs.length := by have := h.len; simpa using this
 have hlast : (ps ++ [(nm, ev)])[ps.length]? = some (nm, ev) := by simp
 have hlz : (zs ++ [⟨nm, es⟩])[ps.length]? = some ⟨nm, es⟩ := by rw [hl]; simp
 have hown := (h.eras _ _ _ hlast hlz).2
 have hrow : W.ownsRow B 44 2 (.slice (some ⟨g, 0, none⟩) (ps.length + 1) cap) (ps.length + 1) ((ps ++ [(nm, ev)]).flatMap di) := by simpa using h.row
 have hrow' : w.ownsRow B 44 2 (.slice (some ⟨g, 0, none⟩) (ps.length + 1) cap) (ps.length + 1) ((ps ++ [(nm, ev)]).flatMap di) := hrow.kept hg (gz hrow hown (by decide))
 have hst := (hrow'.stored (ps.length * 2 + 1) ev').1
 have fl : ∀ ps : List (Tx.Bs × Value), (ps.flatMap di).length = 2 * ps.length := by
  intro ps
  induction ps with
  | nil => rfl
  | cons a r ih => simp [List.flatMap_cons, di, ih]; omega
 have hne : ∀ {u : Value} {n : Nat} {xs : List Value}, w.ownsRow B 67 10 u n xs → (w.setCell ⟨g, ps.length * 2 + 1, none⟩ ev').ownsRow B 67 10 u n xs := by
  intro u n xs hu
  refine ownsRow_setCell_other hu ?_ _
  rcases gz hu hrow' (by decide) with q | q
  ·rw [q]; simp
  ·simpa [Value.ownBlock] using q
 refine ⟨by simp [hl], ?_, ?_, ?_⟩
 ·have e : ((ps ++ [(nm, ev)]).flatMap di).set (ps.length * 2 + 1) ev' = (ps ++ [(nm, ev')]).flatMap di := by
   simp only [List.flatMap_append, List.flatMap_cons, List.flatMap_nil, List.append_nil, di]
   rw [List.set_append_right _ _ (by rw [fl]; omega), fl, show ps.length * 2 + 1 - 2 * ps.length = 1 by omega]
   rfl
  rw [e] at hst
  simpa using hst
 ·intro i p y hp hy
  by_cases hi : i < ps.length
  ·rw [List.getElem?_append_left hi] at hp
   rw [List.getElem?_append_left (by omega)] at hy
   have hp' : (ps ++ [(nm, ev)])[i]? = some p := by rw [List.getElem?_append_left hi]; exact hp
   have hy' : (zs ++ [⟨nm, es⟩])[i]? = some y := by rw [List.getElem?_append_left (by omega)]; exact hy
   exact ⟨(h.eras i p y hp' hy').1, hne ((h.eras i p y hp' hy').2.kept hg (h.apart i _ p _ hp' hlast (by omega)))⟩
  ·have : i = ps.length := by have := (q4L.1 hp).1; simp at this; omega
   subst this
   simp at hp
   rw [hl] at hy
   simp at hy
   subst hp hy
   exact ⟨rfl, hne hx⟩
 ·have old : ∀ (i : Nat) (p : Tx.Bs × Value), ps[i]? = some p → p.2.ownBlock = none ∨ p.2.ownBlock ≠ ev'.ownBlock := by
   intro i p hp
   have hi := (q4L.1 hp).1
   have hp' : (ps ++ [(nm, ev)])[i]? = some p := by rw [List.getElem?_append_left hi]; exact hp
   rcases hat with q | ⟨k, q, hk⟩
   ·rw [q]; exact h.apart i _ p _ hp' hlast (by omega)
   ·obtain ⟨y, hy⟩ : ∃ y, (zs ++ [⟨nm, es⟩])[i]? = some y := ⟨_, q4G (by simp; omega)⟩
    have hb := (h.eras i p y hp' hy).2
    cases hq : p.2.ownBlock with
    | none => exact .inl rfl
    | some m =>
      right
      have := (hb.lt m hq).2
      rw [q]
      intro q2
      simp at q2
      omega
  intro i j p q hp hq hij
  by_cases hi : i < ps.length
  ·rw [List.getElem?_append_left hi] at hp
   by_cases hj : j < ps.length
   ·rw [List.getElem?_append_left hj] at hq
    exact h.apart i j p q (by rw [List.getElem?_append_left hi]; exact hp) (by rw [List.getElem?_append_left hj]; exact hq) hij
   ·have : j = ps.length := by have := (q4L.1 hq).1; simp at this; omega
    subst this
    simp at hq
    subst hq
    exact old i p hp
  ·have : i = ps.length := by have := (q4L.1 hp).1; simp at this; omega
   subst this
   simp at hp
   subst hp
   by_cases hj : j < ps.length
   ·rw [List.getElem?_append_left hj] at hq
    right
    rcases old j q hq with h0 | h0
    ·rw [h0]; exact hev
    ·exact Ne.symm h0
   ·exact absurd (by have := (q4L.1 hq).1; simp at this; omega) hij
/- what is made can be read -/
theorem Qp {ps zs} (h : OwnZs w B v ps zs) : fU w v zs := by
 refine ⟨ps.map Prod.snd, by simp [h.len], ?_, ?_⟩
 ·have e : ((zs.zip (ps.map Prod.snd)).map fun p => (p.1.name, p.2)) = ps := by
   apply List.ext_getElem?
   intro i
   rcases Nat.lt_or_ge i ps.length with hi | hi
   ·have hp : ps[i]? = some ps[i] := q4G hi
    have hz : zs[i]? = some (zs[i]'(by rw [← h.len]; exact hi)) := q4G _
    have := (h.eras i _ _ hp hz).1
    simp [List.getElem?_map, List.getElem?_zip_eq_some, hp, hz, List.zip_eq_zipWith, List.getElem?_zipWith, ← this]
   ·rw [List.getElem?_eq_none hi, List.getElem?_eq_none]
    have := h.len
    simp; omega
  rw [e]
  exact jD rP h.row
 ·intro i ev x hi hx
  simp [List.getElem?_map] at hi
  obtain ⟨nm, hp⟩ := hi
  exact jD iE (h.eras i _ x hp hx).2
theorem Ci {s : Sx.Sr} (h : gN w B r z l s) : Oq w r z l s := by
 obtain ⟨ps, hz⟩ := h.zones
 exact ⟨jD rH h.rules, Qp hz, jD rE h.links⟩
end
end
section
open Go.RowKit

namespace Sx
theorem o8 (x : Er) : ∀ (zs : List Zn) (z : Zn), uZ x (zs ++ [z]) = zs ++ [⟨z.name, z.eras ++ [x]⟩]
 | [], z => rfl
 | [a], z => rfl
 | a :: b :: r, z => by
   show a :: uZ x (b :: r ++ [z]) = _
   rw [o8 x (b :: r) z]; rfl
/- how a line ends: what is left, and whether it stands in as it should -/
def ended (oF : O) (inner must : Bool) : Bool := decide (oF = some []) && (inner == must)
theorem MC {st : St} {l : Tx.Ln} {x : Er} {oF : O} (hm : st.must = true) (he : nH (some l.fields) x oF) :
  jA st l = if ended oF l.inner true = true then some ⟨⟨st.src.rules, uZ x st.src.zones, st.src.links⟩, !x.opn⟩ else none := by
 unfold nH at he
 unfold jA ended
 rw [hm]
 cases hi : l.inner
 ·simp
 ·simp only [ne_eq, not_true_eq_false, if_false, if_true, Option.bind_some] at he ⊢
  cases h : rY l.fields with
  | none => rw [h] at he; simp only at he; subst he; simp [whole]
  | some p =>
    rw [h] at he; simp only at he
    obtain ⟨rfl, rfl⟩ := he
    obtain ⟨a, r⟩ := p
    cases r <;> simp [whole]
theorem qF {st : St} {l : Tx.Ln} (hm : st.must = false) : jA st l = if l.inner = true then none else rO st.src l.fields := by
 unfold jA
 rw [hm]
 cases l.inner <;> simp
theorem Rf : ¬ uW = uJ := by decide
theorem PY : ¬ ut = uJ := by decide
theorem MG : ¬ ut = uW := by decide
theorem Oi (s : Sr) (fs : List Tx.Bs) : rO s (uJ :: fs) = (whole (uI fs)).map fun r => ⟨⟨s.rules ++ [r], s.zones, s.links⟩, false⟩ := by
 simp [rO]
theorem Oj (s : Sr) (fs : List Tx.Bs) : rO s (uW :: fs) = (whole (Ao fs)).map fun p => ⟨⟨s.rules, s.zones ++ [⟨p.1, [p.2]⟩], s.links⟩, !p.2.opn⟩ := by
 simp [rO, Rf]
theorem Oh (s : Sr) (fs : List Tx.Bs) : rO s (ut :: fs) = (whole (Cc fs)).map fun l => ⟨⟨s.rules, s.zones, s.links ++ [l]⟩, false⟩ := by
 simp [rO, PY, MG]
theorem ME {st : St} {l : Tx.Ln} {fs : List Tx.Bs} (hm : st.must = false) (hf : l.fields = uJ :: fs) :
  jA st l = if ended (r8 (some fs)) l.inner false = true then some ⟨⟨st.src.rules ++ [xc (some fs)], st.src.zones, st.src.links⟩, false⟩ else none := by
 rw [qF hm, hf, Oi]
 unfold ended
 cases hi : l.inner
 ·cases h : uI fs with
  | none => rw [Nz h]; simp [whole]
  | some p =>
    obtain ⟨x, r⟩ := p
    obtain ⟨h1, h2⟩ := NA h
    rw [h1, h2]
    cases r <;> simp [whole]
 ·simp
theorem MF {st : St} {l : Tx.Ln} {fs : List Tx.Bs} {x : Er} {oF : O} (hm : st.must = false) (hf : l.fields = uW :: fs) (he : nH (keep (aW (nxS (some fs))) (nxO (some fs))) x oF) :
  jA st l = if ended oF l.inner false = true then some ⟨⟨st.src.rules, st.src.zones ++ [⟨nxS (some fs), [x]⟩], st.src.links⟩, !x.opn⟩ else none := by
 rw [qF hm, hf, Oj]
 unfold ended
 unfold nH at he
 cases hi : l.inner
 ·cases fs with
  | nil => simp [nxO, dG] at he; subst he; simp [whole, Ao]
  | cons n fs =>
    cases hn : aW n with
    | false =>
      simp [nxS, nxO, keep, hn] at he; subst he; simp [whole, Ao, mr, hn]
    | true =>
      simp only [nxS, nxO, keep, hn, if_true, Option.bind_some] at he
      cases h : rY fs with
      | none => rw [h] at he; simp only at he; subst he; simp [whole, Ao, mr, hn, h]
      | some p =>
        rw [h] at he; simp only at he
        obtain ⟨rfl, rfl⟩ := he
        obtain ⟨a, r⟩ := p
        cases r <;> simp [whole, Ao, mr, hn, h, nxS]
 ·simp
def lk1 (fs : List Tx.Bs) : O := keep (aW (nxS (some fs))) (nxO (some fs))
def lk2 (fs : List Tx.Bs) : O := keep (aW (nxS (lk1 fs))) (nxO (lk1 fs))
theorem MB {st : St} {l : Tx.Ln} {fs : List Tx.Bs} (hm : st.must = false) (hf : l.fields = ut :: fs) :
  jA st l = if ended (lk2 fs) l.inner false = true then some ⟨⟨st.src.rules, st.src.zones, st.src.links ++ [⟨nxS (some fs), nxS (lk1 fs)⟩]⟩, false⟩ else none := by
 rw [qF hm, hf, Oh]
 unfold ended
 cases hi : l.inner
 ·match fs with
  | [] => simp [lk2, lk1, nxO, dG, whole, Cc]
  | [a] => cases ha : aW a <;> simp [lk2, lk1, nxO, nxS, keep, dG, whole, Cc, ha]
  | a :: b :: r => cases ha : aW a <;> cases hb : aW b <;> cases r <;> simp [lk2, lk1, nxO, nxS, keep, dG, whole, Cc, mr, ha, hb]
 ·simp
theorem Jp {st : St} {l : Tx.Ln} (hm : st.must = false) (h1 : nxS (some l.fields) ≠ uJ) (h2 : nxS (some l.fields) ≠ uW) (h3 : nxS (some l.fields) ≠ ut) : jA st l = none := by
 rw [qF hm]
 split
 ·rfl
 ·cases hf : l.fields with
  | nil => rfl
  | cons a r =>
    rw [hf] at h1 h2 h3
    simp only [nxS] at h1 h2 h3
    simp only [rO]
    rw [if_neg h1, if_neg h2, if_neg h3]
end Sx
end
section
open Go.RowKit

theorem Tryz.PG : (Tryz.prog.info? 207).map (fun i => (i.zero, i.size, i.bytes)) = some (some (.agg #[.int .i64 0, .bool false, .slice none 0 0]), 3, 40) := by kernel_rfl

theorem Hz (w : World) (a b c : Value) {e : TypeId} : ∀ (j : Nat) (x : Value), [a, b, c][j]? = some x → (w.alloc (.cells #[a, b, c] e)).cell? ((⟨w.heap.size, 0, none⟩ : Addr).add j) = some x := by
 intro j x hj
 match j, hj with
 | 0, hj => simp at hj; subst hj; simp [Addr.add]
 | 1, hj => simp at hj; subst hj; simp [Addr.add]
 | 2, hj => simp at hj; subst hj; simp [Addr.add]
theorem NZ (n : Int) (b : Bool) (a : Option Addr) (k c : Nat) : ∀ u ∈ [Value.int .i64 n, .bool b, .slice a k c], u.oneCell' = true := by
 intro u hu; simp at hu; rcases hu with rfl | rfl | rfl <;> rfl
def cellsOf : List Value → List Tx.Ln → List Value
 | v :: vs, l :: ls => .int .i64 l.number :: .bool l.inner :: v :: cellsOf vs ls
 | _, _ => []
theorem tK : ∀ (vs : List Value) (ls : List Tx.Ln) (v : Value) (l : Tx.Ln), vs.length = ls.length → cellsOf (vs ++ [v]) (ls ++ [l]) = cellsOf vs ls ++ [.int .i64 l.number, .bool l.inner, v]
 | [], [], v, l, _ => rfl
 | a :: vs, b :: ls, v, l, h => by simp [cellsOf, tK vs ls v l (by simpa using h)]
 | [], b :: ls, _, _, h => by simp at h
 | a :: vs, [], _, _, h => by simp at h
theorem wy : ∀ (vs : List Value) (ls : List Tx.Ln) (i : Nat) (v : Value) (l : Tx.Ln), vs[i]? = some v → ls[i]? = some l → (cellsOf vs ls)[3 * i]? = some (.int .i64 l.number) ∧ (cellsOf vs ls)[3 * i + 1]? = some (.bool l.inner) ∧ (cellsOf vs ls)[3 * i + 2]? = some v
 | a :: vs, b :: ls, 0, v, l, h1, h2 => by simp at h1 h2; subst h1 h2; simp [cellsOf]
 | a :: vs, b :: ls, i + 1, v, l, h1, h2 => by
   have := wy vs ls i v l (by simpa using h1) (by simpa using h2)
   simp only [cellsOf]
   refine ⟨?_, ?_, ?_⟩
   ·rw [show 3 * (i + 1) = 3 * i + 1 + 1 + 1 by omega]; simpa using this.1
   ·rw [show 3 * (i + 1) + 1 = (3 * i + 1) + 1 + 1 + 1 by omega]; simpa using this.2.1
   ·rw [show 3 * (i + 1) + 2 = (3 * i + 2) + 1 + 1 + 1 by omega]; simpa using this.2.2
 | [], _, i, v, l, h1, _ => by simp at h1
 | a :: vs, [], i, v, l, _, h2 => by simp at h2

def iV (w : World) (B : Nat) (v : Value) (ls : List Tx.Ln) : Prop :=
 ∃ vs : List Value, vs.length = ls.length ∧ w.ownsRow B 207 3 v ls.length (cellsOf vs ls) ∧
  ∀ (i : Nat) (fv : Value) (l : Tx.Ln), vs[i]? = some fv → ls[i]? = some l → w.ownsRow B 9 1 fv l.fields.length (l.fields.map af)
theorem kZ (w : World) (B : Nat) : iV w B (.slice none 0 0) [] := ⟨[], rfl, World.ownsRow_nil _ _ _ _, fun i fv l h => by simp at h⟩
theorem lV {W w' : World} {B : Nat} {v : Value} {ls : List Tx.Ln} (h : iV W B v ls) (hb : Below W.heap.size W w') : iV w' B v ls := by
 obtain ⟨vs, h1, h2, h3⟩ := h
 exact ⟨vs, h1, aJ h2 hb, fun i fv l a b => aJ (h3 i fv l a b) hb⟩
theorem DX {w1 w3 : World} {B : Nat} {v v' fv : Value} {vs : List Value} {ls : List Tx.Ln} {l : Tx.Ln} {o : Obj} (hl : vs.length = ls.length) (hown : w1.ownsRow B 207 3 v ls.length (cellsOf vs ls))
  (hf : ∀ (i : Nat) (fv : Value) (l : Tx.Ln), vs[i]? = some fv → ls[i]? = some l → w1.ownsRow B 9 1 fv l.fields.length (l.fields.map af)) (hfv : w1.ownsRow B 9 1 fv l.fields.length (l.fields.map af))
  (hown' : w3.ownsRow B 207 3 v' (ls.length + 1) (cellsOf vs ls ++ [.int .i64 l.number, .bool l.inner, fv])) (hg : (w1.alloc o).grownBy w3 v.ownBlock) : iV w3 B v' (ls ++ [l]) := by
 have keep : ∀ fv (l : Tx.Ln), w1.ownsRow B 9 1 fv l.fields.length (l.fields.map af) → w3.ownsRow B 9 1 fv l.fields.length (l.fields.map af) := fun fv l h =>
  (h.alloc o).kept hg (gz h hown (by decide))
 refine ⟨vs ++ [fv], by simp [hl], ?_, ?_⟩
 ·rw [tK vs ls fv l hl]; simpa using hown'
 ·intro i x y hx hy
  by_cases h : i < ls.length
  ·rw [List.getElem?_append_left (by omega)] at hx
   rw [List.getElem?_append_left h] at hy
   exact keep x y (hf i x y hx hy)
  ·have hi : i = ls.length := by
    have := (q4L.1 hy).1
    simp at this; omega
   subst hi
   rw [← hl] at hx
   simp at hx hy
   subst hx hy
   exact keep fv l hfv
theorem pR {w : World} {B : Nat} {v : Value} {ls : List Tx.Ln} (h : iV w B v ls) : ∃ a cap, v = .slice a ls.length cap := by
 obtain ⟨vs, _, h2, _⟩ := h
 exact aF h2

end
namespace Tx

theorem tZ : ∀ (m n : Nat) (l : Bs), n ≤ 12 → (fields m n l).1.length + n ≤ 12
 | 0, n, l, h => by simp [fields]; exact h
 | m + 1, n, l, h => by
   unfold fields
   cases hk : skip l with
   | nil => simpa using h
   | cons c r =>
     simp only
     split
     ·simpa using h
     ·cases hf : field (c :: r) with
      | none => simpa using h
      | some p =>
        simp only
        split
        ·simpa using h
        ·rename_i hm
         split
         ·have := tZ m (n + 1) p.2 (by omega)
          simp at this ⊢; omega
         ·simpa using h
theorem wI : ∀ (m n : Nat) (l : Bs), ∀ f ∈ (fields m n l).1, f.length ≤ 24
 | 0, n, l => by simp [fields]
 | m + 1, n, l => by
   unfold fields
   cases hk : skip l with
   | nil => simp
   | cons c r =>
     simp only
     split
     ·simp
     ·cases hf : field (c :: r) with
      | none => simp
      | some p =>
        simp only
        split
        ·simp
        ·rename_i hm
         split
         ·have := wI m (n + 1) p.2
          intro f hf'
          simp at hf'
          rcases hf' with rfl | hf'
          ·omega
          ·exact this f hf'
         ·simp
theorem yX : ∀ (rs : List Bs) (n : Int), ∀ l ∈ (go n rs).lines, ∃ r ∈ rs, l.fields = (l6 r).1 ∧ l.inner = inner r ∧ (l6 r).2 = 0 ∧ (l6 r).1 ≠ []
 | [], n => by simp [go]
 | r :: rs, n => by
   intro l hl
   unfold go at hl
   split at hl
   ·simp at hl
   ·rename_i h1
    split at hl
    ·simp at hl
    ·simp only at hl
     split at hl
     ·obtain ⟨x, hx, q⟩ := yX rs (n + 1) l hl
      exact ⟨x, by simp [hx], q⟩
     ·rename_i h3
      simp at hl
      rcases hl with rfl | hl
      ·exact ⟨r, by simp, rfl, rfl, by simpa using h1, h3⟩
      ·obtain ⟨x, hx, q⟩ := yX rs (n + 1) l hl
       exact ⟨x, by simp [hx], q⟩
theorem G9 (s : Bs) : (split s).lines.length ≤ 200 ∧ ∀ l ∈ (split s).lines, ∃ r, l.fields = (l6 r).1 ∧ l.inner = inner r ∧ (l6 r).2 = 0 ∧ (l6 r).1 ≠ [] := by
 unfold split
 split
 ·simp
 ·split
  ·simp
  ·split
   ·simp
   ·rename_i h
    refine ⟨by simpa using h, ?_⟩
    intro l hl
    obtain ⟨r, _, q⟩ := yX _ _ l hl
    exact ⟨r, q⟩
theorem El (s : Bs) : ∀ l ∈ (split s).lines, l.fields.length ≤ 12 ∧ ∀ f ∈ l.fields, f.length ≤ 24 := by
 intro l hl
 obtain ⟨r, h, _⟩ := (G9 s).2 l hl
 rw [h]
 exact ⟨tZ (r.length + 1) 0 r (by omega), wI _ _ _⟩
end Tx
section
open Go.RowKit

theorem bC {P : Program} {ops : Array Oper} {o : Oper} {a : Act} {w : World} {K : Act → World → Prop} {Q : Exit → Act → World → Prop} {E : Prop}
  (hg : o.guard = none) (s x : Operand) (t : TypeId) (hop : o.op = Op.call { callee := Callee.builtin Builtin.append, args := #[s, x], argTypes := #[t, t] })
  (base : Nat) (e : TypeId) (i : TypeInfo) (z : Value) (size bytes : Nat) (h1 : P.underlying t = some (.slice e)) (h2 : P.info? e = some i) (h3 : i.zero = some z) (h4 : i.size = size) (h5 : i.bytes = bytes) (h6 : z.cells.size = size) (h7 : 0 < size)
  (v : Value) (n : Nat) (xs : List Value) (hs : a.eval s = v) (hown : w.ownsRow base e size v n xs)
  (ad : Addr) (m c : Nat) (news : List Value) (hx : a.eval x = .slice (some ad) m c) (hn : news.length = m * size) (hc : ∀ j u, news[j]? = some u → w.cell? (ad.add j) = some u) (h1c : ∀ u ∈ news, u.oneCell' = true)
  (b1 : n + m ≤ maxLen) (b2 : (n + m) * bytes ≤ 140737488355328) (hbase : base ≤ w.heap.size)
  (hK : ∀ v' w', w'.ownsRow base e size v' (n + m) (xs ++ news) → w.grownBy w' v.ownBlock → K (a.put o.dst v') w') :
  if Region.wanted o (yielded ops a.tmps) = true then Oper.wp P o a w K Q else E := by
 have hw : Region.wanted o (yielded ops a.tmps) = true := by simp [Region.wanted, hg]
 rw [if_pos hw]
 obtain ⟨v', w', hrun, r1, r2, _⟩ := run_append_own (P := P) w base t o.type e i z size bytes h1 h2 h3 h4 h5 h6 h7 v n xs hown ad m c news hn hc h1c b1 b2 hbase
 unfold Oper.wp
 simp [execOp, hop, resolve, invoke, builtin, hs, hx, hrun, Result.andThen]
 exact hK v' w' r1 r2

/- .. and of any list, an empty one too, whether it lies anywhere or not -/
theorem zS {P : Program} (w : World) (base : Nat) (t ty e : TypeId) (i : TypeInfo) (z : Value) (size bytes : Nat) (h1 : P.underlying t = some (.slice e)) (h2 : P.info? e = some i) (h3 : i.zero = some z) (h4 : i.size = size) (h5 : i.bytes = bytes) (h6 : z.cells.size = size) (h7 : 0 < size)
  (v : Value) (n : Nat) (xs : List Value) (hown : w.ownsRow base e size v n xs)
  (xa : Option Addr) (m c : Nat) (news : List Value) (hn : news.length = m * size) (hc : ∀ ad, xa = some ad → ∀ j u, news[j]? = some u → w.cell? (ad.add j) = some u) (h0 : xa = none → m = 0) (h1c : ∀ u ∈ news, u.oneCell' = true)
  (b1 : n + m ≤ maxLen) (b2 : (n + m) * bytes ≤ 140737488355328) (hbase : base ≤ w.heap.size) :
  ∃ v' w', (Builtin.append_ #[t, t] ty #[v, .slice xa m c]).run P w = .ok v' w' ∧ w'.ownsRow base e size v' (n + m) (xs ++ news) ∧ w.grownBy w' v.ownBlock := by
 cases xa with
 | some ad =>
   obtain ⟨v', w', r0, r1, r2, _⟩ := run_append_own (P := P) w base t ty e i z size bytes h1 h2 h3 h4 h5 h6 h7 v n xs hown ad m c news hn (hc ad rfl) h1c b1 b2 hbase
   exact ⟨v', w', r0, r1, r2⟩
 | none =>
   obtain rfl := h0 rfl
   have hnil : news = [] := List.eq_nil_of_length_eq_zero (by simpa using hn)
   subst hnil
   subst h4
   refine ⟨v, w, ?_, by simpa using hown, ⟨rfl, rfl, rfl, Nat.le_refl _, fun _ _ _ => rfl⟩⟩
   rcases hown.2 with ⟨rfl, rfl⟩ | ⟨g, cap, cur, rfl, _, hg, hnc, _⟩
   ·simp [Builtin.append_, run_underlying h1, sizeOf, typeInfo, h2, Builtin.lenOf, Builtin.firstCells]
   ·simp [Builtin.append_, run_underlying h1, sizeOf, typeInfo, h2, Builtin.lenOf, Builtin.firstCells, hnc, storeCells]
theorem jJ {P : Program} {w : World} {ops : Array Oper} {rest : List Oper} {o : Oper} {a : Act} {Q : Exit → Act → World → Prop} (hgd : o.guard = none) (s x : Operand) (t : TypeId)
  (hop : o.op = Op.call { callee := Callee.builtin Builtin.append, args := #[s, x], argTypes := #[t, t] })
  (base : Nat) (e : TypeId) (i : TypeInfo) (z : Value) (size bytes : Nat) (h1 : P.underlying t = some (.slice e)) (h2 : P.info? e = some i) (h3 : i.zero = some z) (h4 : i.size = size) (h5 : i.bytes = bytes) (h6 : z.cells.size = size) (h7 : 0 < size)
  (v : Value) (n : Nat) (xs : List Value) (hs : a.eval s = v) (hown : w.ownsRow base e size v n xs)
  (xa : Option Addr) (m c : Nat) (news : List Value) (hx : a.eval x = .slice xa m c) (hn : news.length = m * size) (hc : ∀ ad, xa = some ad → ∀ j u, news[j]? = some u → w.cell? (ad.add j) = some u) (h0 : xa = none → m = 0) (h1c : ∀ u ∈ news, u.oneCell' = true)
  (b1 : n + m ≤ maxLen) (b2 : (n + m) * bytes ≤ 140737488355328) (hbase : base ≤ w.heap.size)
  (h : ∀ v' w', w'.ownsRow base e size v' (n + m) (xs ++ news) → w.grownBy w' v.ownBlock → wpList P ops Q rest (a.put o.dst v') w') : wpList P ops Q (o :: rest) a w := by
 refine wpList_plain hgd fun K hK => ?_
 obtain ⟨v', w', hrun, r1, r2⟩ := zS (P := P) w base t o.type e i z size bytes h1 h2 h3 h4 h5 h6 h7 v n xs hown xa m c news hn hc h0 h1c b1 b2 hbase
 unfold Oper.wp
 simp [execOp, hop, resolve, invoke, builtin, hs, hx, hrun, Result.andThen]
 exact hK _ _ (h v' w' r1 r2)
end
section
open Go.RowKit

abbrev cu : Value := .slice none 0 0
theorem Tryz.PK : (Tryz.prog.info? 40).map (fun i => (i.zero, i.size, i.bytes)) = some (some (.agg #[.string ⟨#[]⟩, .int .i64 0, .int .i64 0, .int .i64 0, .int .i64 0, .int .i64 0, .int .i64 0, .int .i64 0, .int .i64 0, .int .i64 0, .string ⟨#[]⟩]), 11, 104) := by kernel_rfl
theorem Tryz.Le : (Tryz.prog.info? 67).map (fun i => (i.zero, i.size, i.bytes)) = some (some (.agg #[.int .i64 0, .string ⟨#[]⟩, .int .i64 0, .string ⟨#[]⟩, .bool false, .int .i64 0, .int .i64 0, .int .i64 0, .int .i64 0, .int .i64 0]), 10, 96) := by kernel_rfl
theorem Tryz.PO : (Tryz.prog.info? 44).map (fun i => (i.zero, i.size, i.bytes)) = some (some (.agg #[.string ⟨#[]⟩, .slice none 0 0]), 2, 40) := by kernel_rfl
theorem Tryz.PH : (Tryz.prog.info? 35).map (fun i => (i.zero, i.size, i.bytes)) = some (some (.agg #[.string ⟨#[]⟩, .string ⟨#[]⟩]), 2, 32) := by kernel_rfl

/- a line of a list of lines that a call has made -/
theorem sH {w : World} {B : Nat} {a : Option Addr} {n cap : Nat} {ls : List Tx.Ln} {i : Nat} {l : Tx.Ln} (h : iV w B (.slice a n cap) ls) (hl : ls[i]? = some l) :
  ∃ g fa fcap, a = some ⟨g, 0, none⟩ ∧ (B ≤ g ∧ g < w.heap.size) ∧ w.cell? ⟨g, i * 3, none⟩ = some (.int .i64 l.number) ∧ w.cell? ⟨g, i * 3 + 1, none⟩ = some (.bool l.inner) ∧ w.cell? ⟨g, i * 3 + 2, none⟩ = some (.slice fa l.fields.length fcap) ∧ w.ownsRow B 9 1 (.slice fa l.fields.length fcap) l.fields.length (l.fields.map af) := by
 obtain ⟨vs, hlen, h2, h3⟩ := h
 have hlt := (q4L.1 hl).1
 rcases h2.2 with ⟨_, h0⟩ | ⟨g, c, cur, e, hrest⟩
 ·omega
 simp at e
 obtain ⟨rfl, rfl, rfl⟩ := e
 obtain ⟨_, _, q3, q4, q5⟩ := j3 (g := 0) h2
 have hv : vs[i]? = some (vs[i]'(by omega)) := q4G _
 obtain ⟨g0, g1, g2⟩ := wy vs ls i _ l hv hl
 have ho := h3 i _ l hv hl
 obtain ⟨fa, fcap, e⟩ := aF ho
 rw [Nat.mul_comm 3 i] at g0 g1 g2
 refine ⟨g, fa, fcap, rfl, ⟨q3, q4⟩, q5 _ _ g0, q5 _ _ g1, ?_, ?_⟩
 ·rw [← e]; exact q5 _ _ g2
 ·rw [← e]; exact ho
/- a Taker of its fields -/
theorem Sy {w : World} {B : Nat} {fa : Option Addr} {fcap : Nat} {fs : List Tx.Bs} {t : TypeId} (h : w.ownsRow B 9 1 (.slice fa fs.length fcap) fs.length (fs.map af)) (h12 : fs.length ≤ 12) (h24 : ∀ f ∈ fs, f.length ≤ 24) :
  TkO (w.alloc (.cells #[.slice fa fs.length fcap, .bool false] t)) w.heap.size (w.heap.size + 1) (some fs) := by
 have hc := aC w [.slice fa fs.length fcap, .bool false] t
 obtain ⟨⟨c0, z0⟩, ⟨c1, z1⟩, -⟩ := cp2 hc
 have hcap : fs.length ≤ fcap := by
  rcases h.2 with ⟨e, h0⟩ | ⟨g, c, cur, e, hb, hg, hn, _⟩
  ·omega
  ·simp at e; rw [e.2]; exact hn
 refine ⟨show TkS _ _ _ _ _ from ⟨by omega, by simp, ⟨fa, fcap, c0, hcap, fun hn => ?_⟩, c1, z0, z1, h12, h24⟩⟩
 rcases h.2 with ⟨e, h0⟩ | ⟨g, c, cur, e, hb, hg, hm, hrest⟩
 ·exact absurd (List.length_eq_zero_iff.1 h0) hn
 simp at e
 obtain ⟨rfl, rfl⟩ := e
 obtain ⟨_, _, q3, q4, q5⟩ := j3 (g := 0) h
 simp only at q4 q5
 refine ⟨g, 0, rfl, by omega, by omega, fun i f hf => ?_⟩
 rw [World.cell?_of_block (w := w) (Below.heap_alloc _ _ _ q4)]
 rw [show 0 + i = i by omega]
 exact q5 i _ (by simp [hf])
/- how it ends -/
structure TkE (w : World) (b : Nat) (o : Sx.O) : Prop where
 lt : b < w.heap.size
 out : ∃ a n cap bad, w.cell? ⟨b, 0, none⟩ = some (.slice a n cap) ∧ w.cell? ⟨b, 1, none⟩ = some (.bool bad) ∧ (bad = false → ∃ fs, o = some fs ∧ fs.length = n) ∧ (bad = true → o = none)
theorem uQ {w : World} {b lim : Nat} {o : Sx.O} (h : TkO w b lim o) : TkE w b o := by
 refine ⟨Ae h, ?_⟩
 match o, h with
 | none, h =>
   obtain ⟨fs, h⟩ := h.out
   obtain ⟨a, cap, c0, _⟩ := h.c0
   exact ⟨a, _, cap, true, c0, h.c1, fun q => (by cases q), fun _ => rfl⟩
 | some fs, h =>
   have h : TkS w b lim false fs := h.out
   obtain ⟨a, cap, c0, _⟩ := h.c0
   exact ⟨a, _, cap, false, c0, h.c1, fun _ => ⟨fs, rfl, rfl⟩, fun q => (by cases q)⟩
theorem qP {w w1 : World} {b : Nat} {o : Sx.O} (h : TkE w b o) (hs : w.heap.size ≤ w1.heap.size) (hk : w1.heap[b]? = w.heap[b]?) : TkE w1 b o := by
 obtain ⟨lt, a, n, cap, bad, c0, c1, e1, e2⟩ := h
 exact ⟨by omega, a, n, cap, bad, by rw [World.cell?_of_block (w := w) hk]; exact c0, by rw [World.cell?_of_block (w := w) hk]; exact c1, e1, e2⟩

/- what was parsed so far: X: the variable; B: rows of its own lie from there on; below W's end nothing turns -/
structure PS (W w : World) (X B : Nat) (r z l : Value) (s : Sx.Sr) : Prop where
 bel : Below W.heap.size W w
 hX : W.heap.size ≤ X
 hXB : X < B
 hB : B ≤ w.heap.size
 box : ag w X [r, z, l]
 own : gN w B r z l s
section
variable {W w w1 w2 : World} {X B : Nat} {r z l : Value} {s : Sx.Sr}
theorem kJ (h : PS W w X B r z l s) (hb : Below w.heap.size w w1) : PS W w1 X B r z l s :=
 ⟨h.bel.trans (hb.mono h.bel.size), h.hX, h.hXB, Nat.le_trans h.hB hb.size, ah h.box hb, uB h.own hb⟩
theorem gT {e : TypeId} {k n : Nat} {v : Value} {xs : List Value} (h : w.ownsRow B e k v n xs) : ∀ q, v.ownBlock = some q → B ≤ q ∧ q < w.heap.size := by
 intro q hq
 exact h.lt q hq
/- a rule more -/
theorem R6 {x : Sx.Rl} {o : Obj} {v' : Value} (h : PS W w X B r z l s) (hg : (w.alloc o).grownBy w1 r.ownBlock) (hown : w1.ownsRow B 40 11 v' (s.rules.length + 1) (s.rules.flatMap aG ++ aG x)) :
  PS W (w1.setCell ⟨X, 0, none⟩ v') X B v' z l ⟨s.rules ++ [x], s.zones, s.links⟩ := by
 obtain ⟨hbel, hX, hXB, hB, box, ⟨o1, ⟨ps, o2⟩, o3⟩⟩ := h
 have hr := gT o1
 have hsz := hg.size
 simp at hsz
 have ha : Below w.heap.size w (w.alloc o) := (q4B _ _).alloc (Nat.le_refl _) _
 have p2 := wX (fT o2 ha) (aJ o1 ha) (by decide) (by decide) hg
 have p3 : mR w1 B l s.links := (aJ o3 ha).kept hg (gz (aJ o3 ha) (aJ o1 ha) (by decide))
 have hX1 : ∀ k, r.ownBlock = some k → k ≠ X := fun k hk => by have := (hr k hk).1; omega
 have hxb : ag w1 X [r, z, l] := ca_grownO (aH box o) hg hX1
 have hne : ∀ {e : TypeId} {k n : Nat} {u : Value} {xs : List Value}, w1.ownsRow B e k u n xs → (w1.setCell ⟨X, 0, none⟩ v').ownsRow B e k u n xs := by
  intro e k n u xs hu
  refine ownsRow_setCell_other hu ?_ _
  intro q
  have := (gT hu X q).1
  omega
 refine ⟨?_, hX, hXB, by simp; omega, aS hxb 0 v' (by simp), ⟨DZ (hne hown), ⟨ps, ⟨p2.len, hne p2.row, fun i p y a b => ⟨(p2.eras i p y a b).1, hne (p2.eras i p y a b).2⟩, p2.apart⟩⟩, hne p3⟩⟩
 refine aB ((hbel.trans (ha.mono hbel.size)).grown hg ?_ ?_) hX _
 ·have := hbel.size; simp; omega
 ·intro k hk; have := (hr k hk).1; omega
/- a link more -/
theorem R4 {x : Sx.Lk} {o : Obj} {v' : Value} (h : PS W w X B r z l s) (hg : (w.alloc o).grownBy w1 l.ownBlock) (hown : w1.ownsRow B 35 2 v' (s.links.length + 1) (s.links.flatMap aZ ++ aZ x)) :
  PS W (w1.setCell ⟨X, 2, none⟩ v') X B r z v' ⟨s.rules, s.zones, s.links ++ [x]⟩ := by
 obtain ⟨hbel, hX, hXB, hB, box, ⟨o1, ⟨ps, o2⟩, o3⟩⟩ := h
 have hr := gT o3
 have hsz := hg.size
 simp at hsz
 have ha : Below w.heap.size w (w.alloc o) := (q4B _ _).alloc (Nat.le_refl _) _
 have p2 := wX (fT o2 ha) (aJ o3 ha) (by decide) (by decide) hg
 have p1 : mU w1 B r s.rules := (aJ o1 ha).kept hg (gz (aJ o1 ha) (aJ o3 ha) (by decide))
 have hX1 : ∀ k, l.ownBlock = some k → k ≠ X := fun k hk => by have := (hr k hk).1; omega
 have hxb : ag w1 X [r, z, l] := ca_grownO (aH box o) hg hX1
 have hne : ∀ {e : TypeId} {k n : Nat} {u : Value} {xs : List Value}, w1.ownsRow B e k u n xs → (w1.setCell ⟨X, 2, none⟩ v').ownsRow B e k u n xs := by
  intro e k n u xs hu
  refine ownsRow_setCell_other hu ?_ _
  intro q
  have := (gT hu X q).1
  omega
 refine ⟨?_, hX, hXB, by simp; omega, aS hxb 2 v' (by simp), ⟨hne p1, ⟨ps, ⟨p2.len, hne p2.row, fun i p y a b => ⟨(p2.eras i p y a b).1, hne (p2.eras i p y a b).2⟩, p2.apart⟩⟩, DY (hne hown)⟩⟩
 refine aB ((hbel.trans (ha.mono hbel.size)).grown hg ?_ ?_) hX _
 ·have := hbel.size; simp; omega
 ·intro k hk; have := (hr k hk).1; omega
/- a zone more, its first era in a row of its own -/
theorem R7 {w0 : World} {x : Sx.Er} {nm : Tx.Bs} {ev : Value} {o : Obj} {v' : Value} {ps : List (Tx.Bs × Value)} (h : PS W w X B r z l s) (hz0 : OwnZs w0 B z ps s.zones) (hw : Below w0.heap.size w0 w) (hB0 : B ≤ w0.heap.size)
  (hev : w.ownsRow w0.heap.size 67 10 ev 1 (ay x)) (hg : (w.alloc o).grownBy w1 z.ownBlock) (hown : w1.ownsRow B 44 2 v' (ps.length + 1) (ps.flatMap di ++ di (nm, ev))) :
  PS W (w1.setCell ⟨X, 1, none⟩ v') X B r v' l ⟨s.rules, s.zones ++ [⟨nm, [x]⟩], s.links⟩ := by
 obtain ⟨hbel, hX, hXB, hB, box, ⟨o1, _, o3⟩⟩ := h
 have o2 := fT hz0 hw
 have hr := gT o2.row
 have hsz := hg.size
 simp at hsz
 have ha : Below w.heap.size w (w.alloc o) := (q4B _ _).alloc (Nat.le_refl _) _
 have a2 := fT o2 ha
 have p1 : mU w1 B r s.rules := (aJ o1 ha).kept hg (gz (aJ o1 ha) a2.row (by decide))
 have p3 : mR w1 B l s.links := (aJ o3 ha).kept hg (gz (aJ o3 ha) a2.row (by decide))
 have hX1 : ∀ k, z.ownBlock = some k → k ≠ X := fun k hk => by have := (hr k hk).1; omega
 have hxb : ag w1 X [r, z, l] := ca_grownO (aH box o) hg hX1
 have he : fI (w.alloc o) B ev (⟨nm, [x]⟩ : Sx.Zn).eras := by
  have := aJ (dC hev hB0) ha
  unfold fI
  simpa using this
 obtain ⟨ge, ecap, rfl⟩ := bn hev
 have hge := (gT hev ge rfl).1
 have p2 := Nf (x := ⟨nm, [x]⟩) a2 he (fun i p hp => by
  obtain ⟨y, hy⟩ : ∃ y, s.zones[i]? = some y := ⟨_, q4G (by rw [← hz0.len]; exact (q4L.1 hp).1)⟩
  cases hq : p.2.ownBlock with
  | none => exact .inl rfl
  | some m =>
    right
    have := (gT (hz0.eras i p y hp hy).2 m hq).2
    simp [Value.ownBlock]
    omega) (by simp [Value.ownBlock]) hg hown
 have hne : ∀ {e : TypeId} {k n : Nat} {u : Value} {xs : List Value}, w1.ownsRow B e k u n xs → (w1.setCell ⟨X, 1, none⟩ v').ownsRow B e k u n xs := by
  intro e k n u xs hu
  refine ownsRow_setCell_other hu ?_ _
  intro q
  have := (gT hu X q).1
  omega
 refine ⟨?_, hX, hXB, by simp; omega, aS hxb 1 v' (by simp), ⟨hne p1, ⟨_, ⟨p2.len, hne p2.row, fun i p y a b => ⟨(p2.eras i p y a b).1, hne (p2.eras i p y a b).2⟩, p2.apart⟩⟩, hne p3⟩⟩
 refine aB ((hbel.trans (ha.mono hbel.size)).grown hg ?_ ?_) hX _
 ·have := hbel.size; simp; omega
 ·intro k hk; have := (hr k hk).1; omega
/- an era more of the last zone -/
theorem Uf {x : Sx.Er} {g cap : Nat} {nm : Tx.Bs} {ev ev' : Value} {es : List Sx.Er} {o : Obj} {ps : List (Tx.Bs × Value)} {zs : List Sx.Zn} (h : PS W w X B r (.slice (some ⟨g, 0, none⟩) (ps.length + 1) cap) l s)
  (hz : OwnZs w B (.slice (some ⟨g, 0, none⟩) (ps.length + 1) cap) (ps ++ [(nm, ev)]) (zs ++ [⟨nm, es⟩]))
  (hg : (w.alloc o).grownBy w1 ev.ownBlock) (hown : w1.ownsRow B 67 10 ev' (es.length + 1) (es.flatMap ay ++ ay x)) (hat : ev'.ownBlock = ev.ownBlock ∨ ev'.ownBlock = some (w.alloc o).heap.size) :
  PS W (w1.setCell ⟨g, ps.length * 2 + 1, none⟩ ev') X B r (.slice (some ⟨g, 0, none⟩) (ps.length + 1) cap) l ⟨s.rules, zs ++ [⟨nm, es ++ [x]⟩], s.links⟩ := by
 obtain ⟨hbel, hX, hXB, hB, box, ⟨o1, _, o3⟩⟩ := h
 have hl : ps.length = zs.length := by have := hz.len; simpa using this
 have hown0 := (hz.eras ps.length (nm, ev) ⟨nm, es⟩ (by simp) (by rw [hl]; simp)).2
 have hr := gT hown0
 have hgr := gT hz.row g rfl
 have hsz := hg.size
 simp at hsz
 have ha : Below w.heap.size w (w.alloc o) := (q4B _ _).alloc (Nat.le_refl _) _
 have a2 := fT hz ha
 have ae := aJ hown0 ha
 have p1 : mU w1 B r s.rules := (aJ o1 ha).kept hg (gz (aJ o1 ha) ae (by decide))
 have p3 : mR w1 B l s.links := (aJ o3 ha).kept hg (gz (aJ o3 ha) ae (by decide))
 have hX1 : ∀ k, ev.ownBlock = some k → k ≠ X := fun k hk => by have := (hr k hk).1; omega
 have hxb : ag w1 X [r, .slice (some ⟨g, 0, none⟩) (ps.length + 1) cap, l] := ca_grownO (aH box o) hg hX1
 have p2 := JE a2 hg (Gj hown) (by
  rcases hat with q | q
  ·exact .inl q
  ·exact .inr ⟨_, q, Nat.le_refl _⟩) (by
  obtain ⟨g', cap', rfl⟩ := bn hown
  simp [Value.ownBlock])
 have hne : ∀ {e : TypeId} {k n : Nat} {u : Value} {xs : List Value}, e ≠ 44 → w1.ownsRow B e k u n xs → (w1.setCell ⟨g, ps.length * 2 + 1, none⟩ ev').ownsRow B e k u n xs := by
  intro e k n u xs hne hu
  refine ownsRow_setCell_other hu ?_ _
  have hrow' : w1.ownsRow B 44 2 (.slice (some ⟨g, 0, none⟩) (ps.length + 1) cap) (ps ++ [(nm, ev)]).length ((ps ++ [(nm, ev)]).flatMap di) := a2.row.kept hg (gz a2.row ae (by decide))
  rcases gz hu hrow' hne with q | q
  ·rw [q]; simp
  ·simpa [Value.ownBlock] using q
 refine ⟨?_, hX, hXB, by simp; omega, bz hxb (by omega), ⟨hne (by decide) p1, ⟨_, p2⟩, hne (by decide) p3⟩⟩
 refine aB ((hbel.trans (ha.mono hbel.size)).grown hg ?_ ?_) (by have := hbel.size; omega) _
 ·have := hbel.size; simp; omega
 ·intro k hk; have := (hr k hk).1; omega
end
section
variable {W w w1 w2 : World} {X B : Nat} {r z l : Value} {s : Sx.Sr}
theorem D7 {o : Obj} {v : Value} (h : PS W w X B r z l s) (hg : (w.alloc o).grownBy w1 v.ownBlock) (hv : ∀ k, v.ownBlock = some k → B ≤ k) : ag w1 X [r, z, l] :=
 ca_grownO (aH h.box o) hg fun k hk => by have := hv k hk; have := h.hXB; omega
theorem xR {ob : Obj} {b j : Nat} {row : Option Nat} {o : Sx.O} {v' : Value} {q : Nat} (h : TkE w b o) (hg : (w.alloc ob).grownBy w1 row) (hr : ∀ k, row = some k → k ≠ b) (hq : q ≠ b) : TkE (w1.setCell ⟨q, j, none⟩ v') b o := by
 have hs := hg.size
 have lt := h.lt
 simp at hs
 refine qP h (by simp; omega) ?_
 rw [Below.heap_setCell _ _ _ _ (Ne.symm hq), hg.block b (by simp; omega) (fun e => hr b e.symm rfl), Below.heap_alloc _ _ _ lt]
end
theorem qV {w : World} {B g n cap : Nat} {ps : List (Tx.Bs × Value)} {nm : Tx.Bs} {ev : Value} (h : w.ownsRow B 44 2 (.slice (some ⟨g, 0, none⟩) n cap) (ps ++ [(nm, ev)]).length ((ps ++ [(nm, ev)]).flatMap di)) :
  w.cell? ⟨g, ps.length * 2 + 1, none⟩ = some ev ∧ w.frozen? ⟨g, ps.length * 2 + 1, none⟩ = false ∧ g < w.heap.size ∧ B ≤ g := by
 have hn : n = (ps ++ [(nm, ev)]).length := by
  obtain ⟨a, c, e⟩ := aF h
  simp only [Value.slice.injEq] at e
  exact e.2.1
 subst hn
 obtain ⟨_, _, q3, q4, q5⟩ := j3 (g := 0) h
 exact ⟨q5 _ _ (flat_get di rP _ ps.length (nm, ev) (by simp) 1 ev rfl), h.frozenAt _, q4, q3⟩
theorem KL {w w1 : World} {B g cap : Nat} {ps : List (Tx.Bs × Value)} {zs : List Sx.Zn} {nm : Tx.Bs} {ev : Value} {es : List Sx.Er} {o : Obj} (h : OwnZs w B (.slice (some ⟨g, 0, none⟩) (ps.length + 1) cap) (ps ++ [(nm, ev)]) (zs ++ [⟨nm, es⟩])) (hg : (w.alloc o).grownBy w1 ev.ownBlock) :
  w1.cell? ⟨g, ps.length * 2 + 1, none⟩ = some ev ∧ w1.frozen? ⟨g, ps.length * 2 + 1, none⟩ = false ∧ g < w1.heap.size := by
 have hl : ps.length = zs.length := by have := h.len; simpa using this
 have hown := (h.eras ps.length (nm, ev) ⟨nm, es⟩ (by simp) (by rw [hl]; simp)).2
 have ha : Below w.heap.size w (w.alloc o) := (q4B _ _).alloc (Nat.le_refl _) _
 have := qV ((aJ h.row ha).kept hg (gz (aJ h.row ha) (aJ hown ha) (by decide)))
 exact ⟨this.1, this.2.1, this.2.2.1⟩
section
variable {w w1 : World} {b : Nat} {o : Sx.O}
theorem vX (h : TkE w b o) (ob : Obj) : TkE (w.alloc ob) b o := qP h (by simp) (Below.heap_alloc _ _ _ h.lt)
theorem Ls {q j : Nat} {u : Value} (h : TkE w b o) (hq : q ≠ b) : TkE (w.setCell ⟨q, j, none⟩ u) b o := qP h (by simp) (Below.heap_setCell _ _ _ _ (Ne.symm hq))
theorem Oa {row : Option Nat} (h : TkE w b o) (hg : w.grownBy w1 row) (hr : ∀ k, row = some k → k ≠ b) : TkE w1 b o := qP h hg.size (hg.block b h.lt (fun e => hr b e.symm rfl))
end
theorem Aq (w : World) (a b : Value) {e : TypeId} : ∀ (j : Nat) (x : Value), [a, b][j]? = some x → (w.alloc (.cells #[a, b] e)).cell? ((⟨w.heap.size, 0, none⟩ : Addr).add j) = some x := by
 intro j x hj
 have := (aa (aC w [a, b] e) j hj).1
 cases j with
 | zero => simpa [Addr.add] using this
 | succ j => simpa [Addr.add] using this
theorem dO (w : World) (vs : List Value) {e : TypeId} : ∀ (j : Nat) (x : Value), vs[j]? = some x → (w.alloc (.cells vs.toArray e)).cell? ((⟨w.heap.size, 0, none⟩ : Addr).add j) = some x := by
 intro j x hj
 have := (aa (aC w vs e) j hj).1
 cases j with
 | zero => simpa [Addr.add] using this
 | succ j => simpa [Addr.add] using this
theorem J6 (w : World) (r : Sx.Rl) {e : TypeId} : ∀ (j : Nat) (x : Value), (aG r)[j]? = some x → (w.alloc (.cells #[af r.name, .int .i64 r.frm, .int .i64 r.to, .int .i64 r.month, .int .i64 r.kind, .int .i64 r.wk, .int .i64 r.n, .int .i64 r.at_, .int .i64 r.clock, .int .i64 r.save, af r.letter] e)).cell? ((⟨w.heap.size, 0, none⟩ : Addr).add j) = some x := dO w (aG r)
theorem Bz (w : World) (x : Sx.Er) {e : TypeId} : ∀ (j : Nat) (u : Value), (ay x)[j]? = some u → (w.alloc (.cells #[.int .i64 x.shift, af x.rules, .int .i64 x.save, af x.format, .bool x.opn, .int .i64 x.uy, .int .i64 x.um, .int .i64 x.ud, .int .i64 x.uat, .int .i64 x.uclock] e)).cell? ((⟨w.heap.size, 0, none⟩ : Addr).add j) = some u := dO w (ay x)
theorem QE (r : Sx.Rl) : ∀ u ∈ aG r, u.oneCell' = true := by
 intro u hu; simp only [aG, List.mem_cons, List.not_mem_nil, or_false] at hu; rcases hu with rfl | rfl | rfl | rfl | rfl | rfl | rfl | rfl | rfl | rfl | rfl <;> rfl
theorem Dr (x : Sx.Er) : ∀ u ∈ ay x, u.oneCell' = true := by
 intro u hu; simp only [ay, List.mem_cons, List.not_mem_nil, or_false] at hu; rcases hu with rfl | rfl | rfl | rfl | rfl | rfl | rfl | rfl | rfl | rfl <;> rfl
/- a call inside a region that draws -/
theorem Hd {ops : Array Oper} {o : Oper} {a : Act} {w : World} {K : Act → World → Prop} {Q : Exit → Act → World → Prop} {E : Prop}
  (hg : o.guard = none) (x : Operand) (t : TypeId) (hop : o.op = Op.call { callee := Callee.value (Operand.func 148), args := #[x], argTypes := #[t] })
  (vx : Value) (hx : a.eval x = vx) {v : Value} {C : World → Prop} (hc : Calls Tryz.prog 148 #[vx] w fun e w' => e = .returned v ∧ C w') (hK : ∀ w', C w' → K (a.put o.dst v) w') :
  if Region.wanted o (yielded ops a.tmps) = true then Oper.wp Tryz.prog o a w K Q else E := by
 have hw : Region.wanted o (yielded ops a.tmps) = true := by simp [Region.wanted, hg]
 rw [if_pos hw]
 unfold Oper.wp
 simp only [execOp, hop, resolve, invoke, Sem.run_bind, List.map_toArray, List.map_cons, List.map_nil, hx]
 have e : Oper.upon Tryz.prog o a K Q (.ok (.enter 148 #[vx]) w) := by
  rw [Oper.upon_enter]
  exact hc.mono (by rintro e w' ⟨rfl, h⟩; exact hK w' h)
 go_simp
/- append onto a row of one's own, inside a region that draws: and where it lies then -/
theorem zY {P : Program} {ops : Array Oper} {o : Oper} {a : Act} {w : World} {K : Act → World → Prop} {Q : Exit → Act → World → Prop} {E : Prop}
  (hg : o.guard = none) (s x : Operand) (t : TypeId) (hop : o.op = Op.call { callee := Callee.builtin Builtin.append, args := #[s, x], argTypes := #[t, t] })
  (base : Nat) (e : TypeId) (i : TypeInfo) (z : Value) (size bytes : Nat) (h1 : P.underlying t = some (.slice e)) (h2 : P.info? e = some i) (h3 : i.zero = some z) (h4 : i.size = size) (h5 : i.bytes = bytes) (h6 : z.cells.size = size) (h7 : 0 < size)
  (v : Value) (n : Nat) (xs : List Value) (hs : a.eval s = v) (hown : w.ownsRow base e size v n xs)
  (ad : Addr) (m c : Nat) (news : List Value) (hx : a.eval x = .slice (some ad) m c) (hn : news.length = m * size) (hc : ∀ j u, news[j]? = some u → w.cell? (ad.add j) = some u) (h1c : ∀ u ∈ news, u.oneCell' = true)
  (b1 : n + m ≤ maxLen) (b2 : (n + m) * bytes ≤ 140737488355328) (hbase : base ≤ w.heap.size)
  (hK : ∀ v' w', w'.ownsRow base e size v' (n + m) (xs ++ news) → w.grownBy w' v.ownBlock → (v'.ownBlock = v.ownBlock ∨ v'.ownBlock = some w.heap.size) → K (a.put o.dst v') w') :
  if Region.wanted o (yielded ops a.tmps) = true then Oper.wp P o a w K Q else E := by
 have hw : Region.wanted o (yielded ops a.tmps) = true := by simp [Region.wanted, hg]
 rw [if_pos hw]
 obtain ⟨v', w', hrun, r1, r2, _, r3⟩ := run_append_own_at (P := P) w base t o.type e i z size bytes h1 h2 h3 h4 h5 h6 h7 v n xs hown ad m c news hn hc h1c b1 b2 hbase
 unfold Oper.wp
 simp [execOp, hop, resolve, invoke, builtin, hs, hx, hrun, Result.andThen]
 exact hK v' w' r1 r2 r3
end
section
open Go.RowKit
attribute [local go_sem ↓] Go.wp_at_zero Go.wp_at_succ

theorem rC (rs : List Sx.Rl) (rv : Value) (w : World) (h : bN w rv rs) (hs : ∀ r ∈ rs, r.name.length ≤ maxLen ∧ r.letter.length ≤ maxLen) (hl : rs.length ≤ 40) :
  Calls Tryz.prog 90 #[rv, .func (.func 91) #[] #[]] w fun e w' => e = .returned (.int .i64 (Sx.aA Sx.dz rs)) ∧ Below w.heap.size w w' := by
 obtain ⟨R, hR⟩ : ∃ R, Sx.aA Sx.dz rs = R := ⟨_, rfl⟩
 rw [hR]
 have HR : Hid (R = Sx.aA Sx.dz (rs.drop 0)) := hR.symm
 obtain ⟨ra, rcap, rfl⟩ := bQ h
 have H := hid h
 have HS := hid hs
 clear hR h hs
 have eg : ∀ args w, (callFunc 91 args).run Tryz.prog w = .ok (.enter 91 args) w := enters_of Tryz.func91 (by kernel_rfl) rfl
 go_enter Tryz.func90, Tryz.ntmps90
 go_wp2_with fail
 go_loopw [10] (fun a wr => ∃ k : Nat, k ≤ rs.length ∧ a = .int .i64 k ∧ Hid (Below w.heap.size w wr) ∧ Hid (R = Sx.aA Sx.dz (rs.drop k))) (fun a _ => rs.length - (intOf a).toNat)
 case atStart => exact ⟨0, by omega, rfl, q4B _ _, HR⟩
 case round =>
  clear HR
  obtain ⟨k, hk, rfl, B0, HR⟩ := hrel
  by_cases hlt : k < rs.length
  case neg =>
   have HR2 : Hid (R = 0) := by show _ = _; rw [HR.out]; exact Sx.fH _ hlt
   go_wp2
   go_ret
   exact ⟨ai (by rw [HR2.out]), B0.out⟩
  obtain ⟨x, hx⟩ : ∃ x, rs[k]? = some x := ⟨_, q4G hlt⟩
  obtain ⟨rb, ro, rfl, hrb, hc⟩ := aN (au H.out B0.out) hx
  obtain ⟨c0, c1, c2, c3, c4, c5, c6, c7, c8, c9, c10⟩ := oh hc
  have HX := hid hx
  have SX := hid (HS.out x (List.mem_of_getElem? hx))
  clear hc hx
  have BV := hid (B0.out.alloc B0.out.size (.cells (aG x).toArray 40))
  go_wp2_with fail
  refine (zG x _ SX.out.1 SX.out.2).mono ?_
  rintro e w1 ⟨rfl, hb⟩
  have B1 : Hid (Below w.heap.size w w1) := BV.out.trans (hb.mono BV.out.size)
  clear hb B0 BV c0 c1 c2 c3 c4 c5 c6 c7 c8 c9 c10 hrb
  obtain ⟨E, hE⟩ : ∃ E, Sx.dz x = E := ⟨_, rfl⟩
  rw [hE]
  by_cases h0 : E = 0
  case neg =>
   have HR2 : Hid (R = E) := by show _ = _; rw [← hE]; exact Sx.jV _ HX.out HR.out (by rw [hE]; exact h0)
   have h0' : (E != 0) = true := by simp [h0]
   clear hE
   go_wp2
   go_ret
   exact ⟨ai (by rw [HR2.out]), B1.out⟩
  have HR2 : Hid (R = Sx.aA Sx.dz (rs.drop (k + 1))) := Sx.jo _ HX.out HR.out (by rw [hE]; exact h0)
  clear hE HR
  subst h0
  go_wp2
  go_roundw
  case rel => exact ⟨k + 1, by omega, by go_num, B1, HR2⟩
  case measure => simp [intOf]; omega
theorem AO (f : Value) (w : World) : Calls Tryz.prog 92 #[.slice none 0 0, f] w fun e w' => e = .returned (.int .i64 0) ∧ w' = w := by
 go_enter Tryz.func92, Tryz.ntmps92
 go_wp2_with fail
 go_loop [10] (fun a => a = .int .i64 0) (fun _ => 0)
 case atStart => rfl
 case round =>
  subst hrel
  go_wp2
  go_ret
  exact ⟨rfl, rfl⟩
theorem AJ (f : Value) (w : World) : Calls Tryz.prog 94 #[.slice none 0 0, f] w fun e w' => e = .returned (.int .i64 0) ∧ w' = w := by
 go_enter Tryz.func94, Tryz.ntmps94
 go_wp2_with fail
 go_loop [10] (fun a => a = .int .i64 0) (fun _ => 0)
 case atStart => rfl
 case round =>
  subst hrel
  go_wp2
  go_ret
  exact ⟨rfl, rfl⟩
theorem yQ (n cap : Nat) (a : Option Addr) (w : World) {b : Bool} (h : decide (n ≤ 40) = b) :
  Calls Tryz.prog 88 #[.agg #[.slice a n cap, .slice none 0 0, .slice none 0 0]] w fun e w' => e = .returned (.bool b) ∧ Below w.heap.size w w' := by
 by_cases h1 : 40 < n
 ·have HB : Hid (false = b) := by show _ = _; rw [← h]; simp; omega
  clear h
  go_enter Tryz.func88, Tryz.ntmps88
  go_wp2
  go_ret
  exact ⟨az HB.out, (q4B _ _).alloc (Nat.le_refl _) _⟩
 ·have HB : Hid (true = b) := by show _ = _; rw [← h]; simp; omega
  clear h
  have BV := hid ((q4B w.heap.size w).alloc (Nat.le_refl _) (.cells #[.slice a n cap, .slice none 0 0, .slice none 0 0] 26))
  go_enter Tryz.func88, Tryz.ntmps88
  go_wp2_with fail
  go_loop [24] (fun a => a = .int .i64 0) (fun _ => 0)
  case atStart => rfl
  case round =>
   subst hrel
   go_wp2
   go_ret
   exact ⟨az HB.out, BV.out⟩
end
section
open Go.RowKit
attribute [local go_sem ↓] Go.wp_at_zero Go.wp_at_succ

theorem sO {rs : List Sx.Rl} (h : rs.length ≤ 40) : Sx.eB ⟨rs, [], []⟩ = Sx.aA Sx.dz rs := by
 rw [Sx.xQ (Sx.DT (by simpa using h) (by simp) (by simp) (by intro j z hj; simp at hj))]
 simp only [Sx.aA]
 by_cases q : Sx.aA Sx.dz rs = 0
 ·rw [Sx.vK q, Sx.vK rfl, q]
 ·rw [Sx.Gg q]
theorem or3 (e : Int) : Sx.aA id [e, 0, 0] = e := by
 by_cases h : e = 0 <;> simp [Sx.aA, h]
theorem jf (rs : List Sx.Rl) (rv : Value) (w : World) (h : bN w rv rs) (hs : ∀ r ∈ rs, r.name.length ≤ maxLen ∧ r.letter.length ≤ maxLen) :
  Calls Tryz.prog 42 #[.agg #[rv, .slice none 0 0, .slice none 0 0]] w fun e w' => e = .returned (.int .i64 (Sx.eB ⟨rs, [], []⟩)) ∧ Below w.heap.size w w' := by
 obtain ⟨ra, rcap, rfl⟩ := bQ h
 have XV := hid (aC w [.slice ra rs.length rcap, .slice none 0 0, .slice none 0 0] 26)
 have BV := hid ((q4B w.heap.size w).alloc (Nat.le_refl _) (.cells [.slice ra rs.length rcap, .slice none 0 0, .slice none 0 0].toArray 26))
 have H := hid h
 have HS := hid hs
 clear h hs
 by_cases h40 : rs.length ≤ 40
 case neg =>
  have HR : Hid (Sx.eB ⟨rs, [], []⟩ = 2) := Sx.kM (by simp [Sx.fw]; omega)
  have HF : Hid (decide (rs.length ≤ 40) = false) := by show _ = _; simp; omega
  clear h40
  go_enter Tryz.func42, Tryz.ntmps42
  go_wp2_with fail
  refine (yQ _ _ _ _ HF.out).mono ?_
  rintro e w1 ⟨rfl, hb⟩
  have B1 : Hid (Below w.heap.size w w1) := BV.out.trans (hb.mono BV.out.size)
  go_wp2
  go_ret
  exact ⟨ai HR.out.symm, B1.out⟩
 have HR : Hid (Sx.eB ⟨rs, [], []⟩ = Sx.aA Sx.dz rs) := sO h40
 have HF : Hid (decide (rs.length ≤ 40) = true) := by show _ = _; simp; omega
 have H40 := hid h40
 clear h40
 go_enter Tryz.func42, Tryz.ntmps42
 go_wp2_with fail
 refine (yQ _ _ _ _ HF.out).mono ?_
 rintro e w1 ⟨rfl, hb⟩
 have B1 : Hid (Below w.heap.size w w1) := BV.out.trans (hb.mono BV.out.size)
 have X1 := hid (ah XV.out hb)
 clear hb BV XV
 obtain ⟨B, hB⟩ : ∃ B, w.heap.size = B := ⟨_, rfl⟩
 go_upto_region 3 with fail
 rw [hB] at X1
 obtain ⟨⟨x0, _⟩, ⟨x1, _⟩, ⟨x2, _⟩, sx⟩ := cp3 X1.out
 have R1 : Hid (bN w1.drew (.slice ra rs.length rcap) rs) := au H.out (show Below w.heap.size w w1.drew from ⟨B1.out.os, B1.out.tape, B1.out.output, B1.out.size, B1.out.block⟩)
 have HB := hid hB
 clear hB
 refine wp_region_held_drew (S := fun w' => w'.cell? ⟨B, 0, none⟩ = some (.slice ra rs.length rcap) ∧ w'.cell? ⟨B, 1, none⟩ = some (.slice none 0 0) ∧ w'.cell? ⟨B, 2, none⟩ = some (.slice none 0 0)) (by kernel_rfl) ?_ (fun hHeld => ?_)
 ·go_keep
 refine tkA 0 rfl ?_
 refine tkA 1 rfl ?_
 refine tkA 3 rfl ?_
 refine tkA 4 rfl ?_
 refine tkA 6 rfl ?_
 refine tkA 7 rfl ?_
 refine rdH 2 rfl fun K hK => ?_
 go_simp
 refine (rC rs _ _ R1.out HS.out H40.out).mono ?_
 rintro e w2 ⟨rfl, hb2⟩
 have C2 := ah (show ag w1.drew B [.slice ra rs.length rcap, .slice none 0 0, .slice none 0 0] from X1.out) hb2
 have B2 : Hid (Below w.heap.size w w2) := B1.out.trans ((show Below w1.heap.size w1 w2 from ⟨hb2.os, hb2.tape, hb2.output, hb2.size, hb2.block⟩).mono B1.out.size)
 refine hK.out _ _ ⟨(aa C2 0 rfl).1, (aa C2 1 rfl).1, (aa C2 2 rfl).1⟩ (fun hHeld2 => ?_)
 clear hK K hHeld hb2
 try simp only [Act.put, j]
 refine rdH 5 rfl fun K hK => ?_
 go_simp
 refine (AO _ _).mono ?_
 rintro e w3 ⟨rfl, rfl⟩
 refine hK.out _ _ hHeld2 (fun hHeld3 => ?_)
 clear hK K hHeld2
 try simp only [Act.put, j]
 refine rdH 8 rfl fun K hK => ?_
 go_simp
 refine (AJ _ _).mono ?_
 rintro e w4 ⟨rfl, rfl⟩
 refine hK.out _ _ hHeld3 (fun hHeld4 => ?_)
 clear hK K hHeld3
 try simp only [Act.put, j]
 refine rdH 9 rfl fun K hK => ?_
 go_simp
 have CN := aC w4 ([Sx.aA Sx.dz rs, 0, 0].map (Value.int .i64)) 28
 have BN := hid (B2.out.alloc B2.out.size (.cells ([Sx.aA Sx.dz rs, 0, 0].map (Value.int .i64)).toArray 28))
 have C5 := aH C2 (.cells ([Sx.aA Sx.dz rs, 0, 0].map (Value.int .i64)).toArray 28)
 refine hK.out _ _ ⟨(aa C5 0 rfl).1, (aa C5 1 rfl).1, (aa C5 2 rfl).1⟩ (fun hHeld5 => ?_)
 clear hK K hHeld4
 try simp only [Act.put, j]
 refine rdH 10 rfl fun K hK => ?_
 go_simp
 refine (jX [Sx.aA Sx.dz rs, 0, 0] w4.heap.size 3 _ CN (by simp)).mono ?_
 rintro e w6 ⟨rfl, rfl⟩
 refine hK.out _ _ hHeld5 (fun hHeld6 => ?_)
 clear hK K hHeld5
 try simp only [Act.put, j]
 refine rdH 11 rfl fun K hK => ?_
 go_simp
 refine hK.out _ _ hHeld6 (fun hHeld7 => ?_)
 clear hK K hHeld6
 try simp only [Act.put, j]
 refine wpAnyH_done (by kernel_rfl) ?_ _
 go_wp2
 go_ret
 rw [show Sx.eB ⟨rs, [], []⟩ = Sx.aA id [Sx.aA Sx.dz rs, 0, 0] by rw [HR.out, or3]]
 exact ⟨rfl, BN.out⟩
end
end Go.Proofs.YtkhlkohlccndgaaGreat
