/- Part of the proof: TkX SrO PrP RfL TxF BaA PaM Sd Se Rt. -/
import Derived.Test.YtkhlkohlccndgaaGreatQz
import Derived.Test.YtkhlkohlccndgaaGreatQag
import Derived.Deep.Cut
import Derived.Deep.CutRange
import Derived.Deep.CutBlock
import Derived.Test.YtkhlkohlccndgaaGreatQaa
import Derived.Maps.AppendAt
import Derived.Laws.OwnMore
import Derived.OneCell
import Derived.Test.YtkhlkohlccndgaaGreatQae
import Derived.Laws.AppendOwn
import Derived.Deep.RegionLaw
import Derived.Deep.RegionLawGrows
import Derived.Test.YtkhlkohlccndgaaGreatQac
set_option linter.unusedVariables false
set_option linter.unusedSimpArgs false
set_option maxRecDepth 100000
set_option maxHeartbeats 16000000
namespace Go.Proofs.YtkhlkohlccndgaaGreat
section
open Go.RowKit

def iH : List Value := [.int .i64 0, .string ⟨#[]⟩, .int .i64 0, .string ⟨#[]⟩, .bool false, .int .i64 0, .int .i64 0, .int .i64 0, .int .i64 0, .int .i64 0]
/- how it ends -/
def lH (o : Sx.O) (x : Sx.Er) (oF : Sx.O) : Prop := match o.bind Sx.pu with | some p => x = p.1 ∧ oF = some p.2 | none => oF = none
theorem Ar {o : Sx.O} {n : Nat} (h : ∀ fs, Sx.e3 o = some fs → n = fs.length) (hn : n = 0) : lH o (Sx.Av o) (Sx.e3 o) := by
 unfold lH
 cases o with
 | none => exact Sx.Ig
 | some fs =>
   show match Sx.pu fs with | some p => _ | none => _
   cases he : Sx.e3 (some fs) with
   | none => rw [Sx.Ez he]
   | some r =>
     have : r = [] := List.length_eq_zero_iff.1 (by have := h r he; omega)
     subst this
     rw [Sx.Ik he]
     exact ⟨rfl, rfl⟩
theorem Au {o : Sx.O} {n : Nat} (h : ∀ fs, Sx.e3 o = some fs → n = fs.length) (hn : ¬ n = 0) : lH o (Sx.xO o) (Sx.e8 o) := by
 unfold lH
 cases o with
 | none => exact Sx.Ex Sx.Ig
 | some fs =>
   show match Sx.pu fs with | some p => _ | none => _
   cases he : Sx.e3 (some fs) with
   | none => rw [Sx.Ez he]; exact Sx.Ex he
   | some r =>
     match r, he with
     | [], he => exact absurd (h [] he) hn
     | f :: r, he =>
       rw [Sx.Il he]
       cases h8 : Sx.e8 (some fs) with
       | none => rfl
       | some q => exact ⟨rfl, rfl⟩
theorem Eg {w : World} {b lim : Nat} {o o' : Sx.O} (h : TkO w b lim o') (e : o = o') : TkO w b lim o := by rw [e]; exact h
theorem xN {lim : Nat} (b : Nat) (o : Sx.O) (w : World) (h : TkO w b lim o) :
  Calls Tryz.prog 147 #[.pointer (some ⟨b, 0, none⟩)] w fun e w' => ∃ x oF, e = .returned (gZ x) ∧ w.grownBy w' (some b) ∧ TkO w' b lim oF ∧ lH o x oF := by
 obtain ⟨lt, le⟩ := nL h
 have T2 := hid (bH (bH h (.cells iH.toArray 67)) (.cells iH.toArray 67))
 have R2 := hid (aM (aD w iH 67) (.cells iH.toArray 67))
 have X2 : Hid (ak ((w.alloc (.cells iH.toArray 67)).alloc (.cells iH.toArray 67)) (w.heap.size + 1) iH) := by
  have := aD (w.alloc (.cells iH.toArray 67)) iH 67
  rw [show (w.alloc (.cells iH.toArray 67)).heap.size = w.heap.size + 1 by simp] at this
  exact this
 have GB := hid (ng (ng (ik w b) (.cells iH.toArray 67)) (.cells iH.toArray 67))
 have hne : ¬ w.heap.size = b := by omega
 have hne1 : ¬ w.heap.size + 1 = b := by omega
 have le1 : lim ≤ w.heap.size + 1 := by omega
 have hX : ¬ w.heap.size = w.heap.size + 1 := by omega
 have hX' : ¬ w.heap.size + 1 = w.heap.size := by omega
 have hbX : ¬ b = w.heap.size + 1 := by omega
 have hbR : ¬ b = w.heap.size := by omega
 have n2 := iq h
 clear h
 obtain ⟨l1, hl1⟩ : ∃ l1, Sx.nxS o = l1 := ⟨_, rfl⟩
 obtain ⟨l2, hl2⟩ : ∃ l2, Sx.nxS (Sx.e1 o) = l2 := ⟨_, rfl⟩
 have E1 : Hid (Sx.e1 o = Sx.keep (Sx.iD l1) (Sx.nxO o)) := by show _ = _; rw [← hl1]; rfl
 have E2 : Hid (Sx.e2 o = Sx.keep (Sx.j5 l2) (Sx.nxO (Sx.e1 o))) := by show _ = _; rw [← hl2]; rfl
 have ET0 : Hid (Sx.Av o = ⟨Sx.gU l1, (Sx.dM l2).1, (Sx.dM l2).2, Sx.nxS (Sx.e2 o), true, 0, 0, 0, 0, 0⟩) := by show _ = _; rw [← hl1, ← hl2]; rfl
 have ET1 : Hid (Sx.xO o = ⟨Sx.gU l1, (Sx.dM l2).1, (Sx.dM l2).2, Sx.nxS (Sx.e2 o), false, (Sx.num 4 4 (Sx.nxS (Sx.e3 o))).getD 0, (Sx.dA (Sx.nxS (Sx.e4 o))).getD 0, (Sx.num 1 2 (Sx.nxS (Sx.e5 o))).getD 0, (Sx.bK 2 (Sx.nxS (Sx.e6 o))).1, (Sx.bK 2 (Sx.nxS (Sx.e6 o))).2⟩) := by show _ = _; rw [← hl1, ← hl2]; rfl
 have HL1 := hid hl1
 have HL2 := hid hl2
 rw [hl1] at n2
 have sb1 := Sx.Jv l1.tail
 clear hl1 hl2
 go_enter Tryz.func147, Tryz.ntmps147
 go_wp2_with fail
 refine (ed b _ _ T2.out).mono ?_
 rintro e w1 ⟨rfl, g1, t1⟩
 have GA := hid (aN GB.out g1)
 have T1 : Hid (TkO w1 b lim (Sx.nxO o)) := t1
 have R1 := hid (aL R2.out g1 hne)
 have X1 := hid (aL X2.out g1 hne1)
 clear X2 R2 T2 GB g1 t1
 rw [HL1.out]
 obtain ⟨H, hH⟩ : ∃ H, decide (l1.head? = some 45) = H := ⟨_, rfl⟩
 have HH := hid hH
 clear hH
 go_upto_region 3 with fail
 go_cut [16] from 10 to 16 (fun s16 wc => s16 = .bool H ∧ wc = w1)
 case first =>
  match l1, HH with
  | [], HH =>
    have hf : H = false := HH.out.symm
    subst hf
    go_wp2_with fail
    go_meet
    exact ⟨rfl, rfl⟩
  | c :: r, HH =>
    have hq : ((c.toNat : Int) == 45) = H := by rw [← HH.out]; have := gH c 45; simp at this; rw [Bool.eq_iff_iff]; simp [this]
    have h0 : (⟨(c :: r).toArray⟩ : ByteArray)[0]'(by rw [bT]; simp) = c := rfl
    have hs0 : 0 < (⟨(c :: r).toArray⟩ : ByteArray).size := by rw [bT]; simp
    clear HH
    go_wp2_with fail
    go_meet
    exact ⟨rfl, rfl⟩
 case rest =>
 obtain ⟨rfl, rfl⟩ := hcut
 go_upto_if 16 with fail
 go_cut [] from 17 to 26 (fun wc => Hid (w.grownBy wc (some b)) ∧ Hid (TkO wc b lim (Sx.e1 o)) ∧ Hid (ak wc w.heap.size iH) ∧ Hid (ak wc (w.heap.size + 1) (iH.set 0 (.int .i64 (Sx.gU l1)))))
 case first =>
  cases hb : H
  ·have SV : Hid (Sx.gU l1 = Sx.bL l1) := by show _ = _; rw [Sx.gU, if_neg (by have := HH.out; rw [hb] at this; simpa using this)]
   have SO : Hid (Sx.iD l1 = (Sx.dJ l1).isSome) := by show _ = _; rw [Sx.iD, Sx.mf, if_neg (by have := HH.out; rw [hb] at this; simpa using this)]
   subst hb
   have X2 := X1
   have R2 := R1
   have T2 := T1
   have GB := GA
   clear X1 R1 T1 GA
   go_wp2_with fail
   refine (nI b _ _ _ T2.out n2).mono ?_
   rintro e w2 ⟨rfl, g1, t1⟩
   have GA := hid (aN GB.out g1)
   have T1 : Hid (TkO w2 b lim (Sx.keep (Sx.dJ l1).isSome (Sx.nxO o))) := t1
   have R1 := hid (aL R2.out g1 hne)
   have X1 := hid (aL X2.out g1 hne1)
   clear X2 R2 T2 GB g1 t1
   obtain ⟨k0, z0⟩ := aa X1.out 0 rfl
   have sz := X1.out.1
   go_wp2_with fail
   go_meet
   clear sz k0 z0
   have X2 := hid (cK (X1.out) 0 (.int .i64 (Sx.bL l1)) (by simp [iH]))
   have R2 := hid (bR (o := 0) (u := .int .i64 (Sx.bL l1)) (R1.out) hX)
   have T2 := hid (aU (o := 0) (u := .int .i64 (Sx.bL l1)) (T1.out) le1)
   have GB := hid (bv (o := 0) (u := .int .i64 (Sx.bL l1)) (GA.out) (Nat.le_succ _))
   clear X1 R1 T1 GA
   rw [E1.out, SV.out, SO.out]
   exact ⟨GB, T2, R2, X2⟩
  ·have hq : l1.head? = some 45 := by have := HH.out; rw [hb] at this; simpa using this
   have SV : Hid (Sx.gU l1 = -Sx.bL l1.tail) := by show _ = _; rw [Sx.gU, if_pos hq]
   have SO : Hid (Sx.iD l1 = (Sx.dJ l1.tail).isSome) := by show _ = _; rw [Sx.iD, Sx.mf, if_pos hq]; cases Sx.dJ l1.tail <;> rfl
   have hs0 : (1 : Int) ≤ ((⟨l1.toArray⟩ : ByteArray).size : Int) := by rw [bT]; cases l1 with | nil => cases hq | cons c r => simp; omega
   have TD := hid (show ((⟨l1.toArray⟩ : ByteArray).extract 1 (⟨l1.toArray⟩ : ByteArray).size).data.toList = l1.tail by rw [zX, eF]; simp)
   have nt : l1.tail.length ≤ 24 := by simp; omega
   obtain ⟨sb1, sb2⟩ := sb1
   subst hb
   clear hq
   have X2 := X1
   have R2 := R1
   have T2 := T1
   have GB := GA
   clear X1 R1 T1 GA
   go_wp2_with fail
   refine (qM b _ _ _ TD.out _ T2.out nt).mono ?_
   rintro e w2 ⟨rfl, g1, t1⟩
   have GA := hid (aN GB.out g1)
   have T1 : Hid (TkO w2 b lim (Sx.keep (Sx.dJ l1.tail).isSome (Sx.nxO o))) := t1
   have R1 := hid (aL R2.out g1 hne)
   have X1 := hid (aL X2.out g1 hne1)
   clear X2 R2 T2 GB g1 t1
   obtain ⟨k0, z0⟩ := aa X1.out 0 rfl
   have sz := X1.out.1
   go_wp2_with fail
   go_meet
   clear sz k0 z0
   have X2 := hid (cK (X1.out) 0 (.int .i64 (-Sx.bL l1.tail)) (by simp [iH]))
   have R2 := hid (bR (o := 0) (u := .int .i64 (-Sx.bL l1.tail)) (R1.out) hX)
   have T2 := hid (aU (o := 0) (u := .int .i64 (-Sx.bL l1.tail)) (T1.out) le1)
   have GB := hid (bv (o := 0) (u := .int .i64 (-Sx.bL l1.tail)) (GA.out) (Nat.le_succ _))
   clear X1 R1 T1 GA
   rw [E1.out, SV.out, SO.out]
   exact ⟨GB, T2, R2, X2⟩
 case rest =>
 clear X1 R1 T1 GA n2 sb1 HH
 obtain ⟨GB, T2, R2, X2⟩ := hcut
 have n2 := iq T2.out
 rw [HL2.out] at n2
 go_wp2_with fail
 refine (ed b _ _ T2.out).mono ?_
 rintro e w3 ⟨rfl, g1, t1⟩
 have GA := hid (aN GB.out g1)
 have T1 : Hid (TkO w3 b lim (Sx.nxO (Sx.e1 o))) := t1
 have R1 := hid (aL R2.out g1 hne)
 have X1 := hid (aL X2.out g1 hne1)
 clear X2 R2 T2 GB g1 t1
 rw [HL2.out]
 go_upto_block 0 with fail
 go_cut [] from 29 to 56 (fun wc => Hid (w.grownBy wc (some b)) ∧ Hid (TkO wc b lim (Sx.e2 o)) ∧ Hid (ak wc w.heap.size iH) ∧ Hid (ak wc (w.heap.size + 1) (((iH.set 0 (.int .i64 (Sx.gU l1))).set 1 (ag (Sx.dM l2).1)).set 2 (.int .i64 (Sx.dM l2).2))))
 case first =>
  by_cases c1 : l2 = [45]
  ·have q1 : (l2 == [45]) = true := by simp [c1]
   have RV : Hid (Sx.dM l2 = ([], 0)) := by show _ = _; rw [Sx.dM, if_pos c1]
   have E2' : Hid (Sx.e2 o = Sx.nxO (Sx.e1 o)) := by show _ = _; rw [E2.out, c1]; rfl
   rw [← E2'.out] at T1
   clear c1 E2 E2'
   have X2 := X1
   have R2 := R1
   have T2 := T1
   have GB := GA
   clear X1 R1 T1 GA
   go_wp2_with fail
   go_meet
   exact ⟨GB, T2, R2, by show ak _ _ _; rw [RV.out]; exact X2.out⟩
  have q1 : (l2 == [45]) = false := by simpa using c1
  cases hd : Sx.digH l2
  ·have RV : Hid (Sx.dM l2 = (l2, 0)) := by show _ = _; rw [Sx.dM, if_neg c1, if_neg (by simp [hd])]
   have GR : Hid (Sx.j5 l2 = Sx.bF l2) := by show _ = _; rw [Sx.j5, Sx.ma, if_neg c1, if_neg (by simp [hd])]; cases Sx.bF l2 <;> rfl
   obtain ⟨NB, hNB⟩ : ∃ NB, Sx.bF l2 = NB := ⟨_, rfl⟩
   have HN := hid hNB
   clear hNB c1
   rw [HN.out] at GR
   obtain ⟨tx, bad, b0, b1, y0, y1, blt⟩ := eB T1.out
   obtain ⟨k1, z1⟩ := aa X1.out 1 rfl
   have sz := X1.out.1
   match l2, hd with
   | [], hd =>
     have hnb : NB = false := HN.out.symm
     subst hnb
     go_wp2_with (go_at_call 120; refine (fG _ _ HN.out).mono ?_; rintro e w5 ⟨rfl, rfl⟩)
     clear sz k1 z1
     clear b0 b1 y0 y1 blt
     have X2 := hid (cK (bR (o := 1) (u := .bool true) X1.out hne1) 1 (ag []) (by simp [iH]))
     have R2 := hid (bR (o := 1) (u := ag []) (bR (o := 1) (u := .bool true) R1.out hne) hX)
     have T2 := hid (Eg (o := Sx.e2 o) (aU (o := 1) (u := ag []) (fo T1.out) le1) (by rw [E2.out, GR.out]; rfl))
     have GB := hid (bv (o := 1) (u := ag []) (bV GA.out (p := ⟨b, 1, none⟩) (.inl rfl) (.bool true)) (Nat.le_succ _))
     clear X1 R1 T1 GA E2 GR HN
     go_meet
     exact ⟨GB, T2, R2, by show ak _ _ _; rw [RV.out]; exact X2.out⟩
   | c :: r, hd =>
     have HD : Hid (Sx.fZ c = false) := hd
     have h0 : (⟨(c :: r).toArray⟩ : ByteArray)[0]'(by rw [bT]; simp) = c := rfl
     have hs0 : 0 < (⟨(c :: r).toArray⟩ : ByteArray).size := by rw [bT]; simp
     clear hd
     cases hnb : NB
     ·subst hnb
      go_wp2_with (first | (go_at_call 166; refine (bZ _ _ HD.out).mono ?_; rintro e w4 ⟨rfl, rfl⟩) | (go_at_call 120; refine (fG _ _ HN.out).mono ?_; rintro e w5 ⟨rfl, rfl⟩))
      clear sz k1 z1
      clear b0 b1 y0 y1 blt
      have X2 := hid (cK (bR (o := 1) (u := .bool true) X1.out hne1) 1 (ag (c :: r)) (by simp [iH]))
      have R2 := hid (bR (o := 1) (u := ag (c :: r)) (bR (o := 1) (u := .bool true) R1.out hne) hX)
      have T2 := hid (Eg (o := Sx.e2 o) (aU (o := 1) (u := ag (c :: r)) (fo T1.out) le1) (by rw [E2.out, GR.out]; rfl))
      have GB := hid (bv (o := 1) (u := ag (c :: r)) (bV GA.out (p := ⟨b, 1, none⟩) (.inl rfl) (.bool true)) (Nat.le_succ _))
      clear X1 R1 T1 GA E2 GR HN
      go_meet
      exact ⟨GB, T2, R2, by show ak _ _ _; rw [RV.out]; exact X2.out⟩
     ·subst hnb
      go_wp2_with (first | (go_at_call 166; refine (bZ _ _ HD.out).mono ?_; rintro e w4 ⟨rfl, rfl⟩) | (go_at_call 120; refine (fG _ _ HN.out).mono ?_; rintro e w5 ⟨rfl, rfl⟩))
      clear sz k1 z1
      clear b0 b1 y0 y1 blt
      have X2 := hid (cK X1.out 1 (ag (c :: r)) (by simp [iH]))
      have R2 := hid (bR (o := 1) (u := ag (c :: r)) R1.out hX)
      have T2 := hid (Eg (o := Sx.e2 o) (aU (o := 1) (u := ag (c :: r)) T1.out le1) (by rw [E2.out, GR.out]; rfl))
      have GB := hid (bv (o := 1) (u := ag (c :: r)) GA.out (Nat.le_succ _))
      clear X1 R1 T1 GA E2 GR HN
      go_meet
      exact ⟨GB, T2, R2, by show ak _ _ _; rw [RV.out]; exact X2.out⟩
  ·have RV : Hid (Sx.dM l2 = ([], Sx.bL l2)) := by show _ = _; rw [Sx.dM, if_neg c1, if_pos hd]
   have HD : Hid (∃ c r, l2 = c :: r ∧ Sx.fZ c = true) := by cases l2 with | nil => cases hd | cons c r => exact ⟨c, r, rfl, hd⟩
   obtain ⟨c, r, hcr, hcd⟩ := HD.out
   have hs0 : 0 < (⟨l2.toArray⟩ : ByteArray).size := by rw [bT, hcr]; simp
   have h0 : (⟨l2.toArray⟩ : ByteArray)[0]'hs0 = c := by subst hcr; rfl
   have hE : l2.isEmpty = false := by rw [hcr]; rfl
   have HDc := hid hcd
   have HCR := hid hcr
   clear hcr hcd HD
   by_cases c2 : l2 = [48]
   ·have q2 : (l2 == [48]) = true := by simp [c2]
    have E2' : Hid (Sx.e2 o = none) := by show _ = _; rw [E2.out, c2]; rfl
    obtain ⟨tx, bad, b0, b1, y0, y1, blt⟩ := eB T1.out
    clear c1 c2 hd E2
    go_wp2_with (go_at_call 166; refine (bZ _ _ HDc.out).mono ?_; rintro e w4 ⟨rfl, rfl⟩)
    clear b0 b1 y0 y1 blt
    have X2 := hid (bR (o := 1) (u := .bool true) X1.out hne1)
    have R2 := hid (bR (o := 1) (u := .bool true) R1.out hne)
    have T2 := hid (fo T1.out)
    have GB := hid (bV GA.out (p := ⟨b, 1, none⟩) (.inl rfl) (.bool true))
    clear X1 R1 T1 GA
    refine (nI b _ _ _ T2.out n2).mono ?_
    rintro e w6 ⟨rfl, g1, t1⟩
    have GA := hid (aN GB.out g1)
    have T1 : Hid (TkO w6 b lim (Sx.keep (Sx.dJ l2).isSome none)) := t1
    have R1 := hid (aL R2.out g1 hne)
    have X1 := hid (aL X2.out g1 hne1)
    clear X2 R2 T2 GB g1 t1
    rw [Sx.dC, ← E2'.out] at T1
    obtain ⟨k2, z2⟩ := aa X1.out 2 rfl
    have sz := X1.out.1
    go_wp2_with fail
    clear sz k2 z2
    have X2 := hid (cK (X1.out) 2 (.int .i64 (Sx.bL l2)) (by simp [iH]))
    have R2 := hid (bR (o := 2) (u := .int .i64 (Sx.bL l2)) (R1.out) hX)
    have T2 := hid (aU (o := 2) (u := .int .i64 (Sx.bL l2)) (T1.out) le1)
    have GB := hid (bv (o := 2) (u := .int .i64 (Sx.bL l2)) (GA.out) (Nat.le_succ _))
    clear X1 R1 T1 GA
    go_meet
    exact ⟨GB, T2, R2, by show ak _ _ _; rw [RV.out]; exact X2.out⟩
   ·have q2 : (l2 == [48]) = false := by simpa using c2
    have E2' : Hid (Sx.e2 o = Sx.keep (Sx.dJ l2).isSome (Sx.nxO (Sx.e1 o))) := by show _ = _; rw [E2.out, Sx.j5, Sx.ma, if_neg c1, if_pos hd, if_neg c2]; cases Sx.dJ l2 <;> rfl
    clear c1 c2 hd E2
    go_wp2_with (go_at_call 166; refine (bZ _ _ HDc.out).mono ?_; rintro e w4 ⟨rfl, rfl⟩)
    have X2 := X1
    have R2 := R1
    have T2 := T1
    have GB := GA
    clear X1 R1 T1 GA
    refine (nI b _ _ _ T2.out n2).mono ?_
    rintro e w6 ⟨rfl, g1, t1⟩
    have GA := hid (aN GB.out g1)
    have T1 : Hid (TkO w6 b lim (Sx.keep (Sx.dJ l2).isSome (Sx.nxO (Sx.e1 o)))) := t1
    have R1 := hid (aL R2.out g1 hne)
    have X1 := hid (aL X2.out g1 hne1)
    clear X2 R2 T2 GB g1 t1
    rw [← E2'.out] at T1
    obtain ⟨k2, z2⟩ := aa X1.out 2 rfl
    have sz := X1.out.1
    go_wp2_with fail
    clear sz k2 z2
    have X2 := hid (cK (X1.out) 2 (.int .i64 (Sx.bL l2)) (by simp [iH]))
    have R2 := hid (bR (o := 2) (u := .int .i64 (Sx.bL l2)) (R1.out) hX)
    have T2 := hid (aU (o := 2) (u := .int .i64 (Sx.bL l2)) (T1.out) le1)
    have GB := hid (bv (o := 2) (u := .int .i64 (Sx.bL l2)) (GA.out) (Nat.le_succ _))
    clear X1 R1 T1 GA
    go_meet
    exact ⟨GB, T2, R2, by show ak _ _ _; rw [RV.out]; exact X2.out⟩
 case rest =>
 clear X1 R1 T1 GA E2 n2
 obtain ⟨GB, T2, R2, X2⟩ := hcut
 go_wp2_with fail
 have nf := iq T2.out
 obtain ⟨l3, hl3⟩ : ∃ l3, Sx.nxS (Sx.e2 o) = l3 := ⟨_, rfl⟩
 rw [hl3] at nf ET0 ET1
 have E3 : Hid (Sx.e3 o = Sx.keep (Sx.dw l3) (Sx.nxO (Sx.e2 o))) := by show _ = _; rw [← hl3]; rfl
 have HL3 := hid hl3
 clear hl3
 refine (ed b _ _ T2.out).mono ?_
 rintro e w7 ⟨rfl, g1, t1⟩
 have GA := hid (aN GB.out g1)
 have T1 : Hid (TkO w7 b lim (Sx.nxO (Sx.e2 o))) := t1
 have R1 := hid (aL R2.out g1 hne)
 have X1 := hid (aL X2.out g1 hne1)
 clear X2 R2 T2 GB g1 t1
 rw [HL3.out]
 obtain ⟨k3, z3⟩ := aa X1.out 3 rfl
 have sz := X1.out.1
 obtain ⟨B, hB⟩ : ∃ B, Sx.dw l3 = B := ⟨_, rfl⟩
 have HB := hid hB
 clear hB
 go_upto_if 63 with (go_at_call 167; refine (zh _ _ nf HB.out).mono ?_; rintro e w8 ⟨rfl, rfl⟩)
 clear sz k3 z3
 have X2 := hid (cK (X1.out) 3 (ag l3) (by simp [iH]))
 have R2 := hid (bR (o := 3) (u := ag l3) (R1.out) hX)
 have T2 := hid (aU (o := 3) (u := ag l3) (T1.out) le1)
 have GB := hid (bv (o := 3) (u := ag l3) (GA.out) (Nat.le_succ _))
 clear X1 R1 T1 GA
 go_cut [] from 64 to 66 (fun wc => Hid (w.grownBy wc (some b)) ∧ Hid (TkO wc b lim (Sx.e3 o)) ∧ Hid (ak wc w.heap.size iH) ∧ Hid (ak wc (w.heap.size + 1) ((((iH.set 0 (.int .i64 (Sx.gU l1))).set 1 (ag (Sx.dM l2).1)).set 2 (.int .i64 (Sx.dM l2).2)).set 3 (ag l3))))
 case first =>
  obtain ⟨tx, bad, b0, b1, y0, y1, blt⟩ := eB T2.out
  cases hb : B
  ·subst hb
   go_wp2_with fail
   go_meet
   rw [E3.out, HB.out]
   exact ⟨bV GB.out (.inl rfl) _, fo T2.out, bR R2.out hne, bR X2.out hne1⟩
  ·subst hb
   go_wp2_with fail
   go_meet
   rw [E3.out, HB.out]
   exact ⟨GB, T2, R2, X2⟩
 case rest =>
 clear X2 R2 T2 GB HB HL3 nf E3
 obtain ⟨GA, T1, R1, X1⟩ := hcut
 obtain ⟨la, ln, lcap, lc, hln⟩ := LD T1.out
 have bl := wE T1.out
 have HLN := hid hln
 clear hln
 by_cases h0 : ln = 0
 ·have EE := hid (Ar HLN.out h0)
  subst h0
  have sz := X1.out.1
  have sr := R1.out.1
  obtain ⟨⟨k0, z0⟩, ⟨k1, z1⟩, ⟨k2, z2⟩, ⟨k3, z3⟩, ⟨k4, z4⟩, ⟨k5, z5⟩, ⟨k6, z6⟩, ⟨k7, z7⟩, ⟨k8, z8⟩, ⟨k9, z9⟩, -⟩ := cp10 X1.out
  obtain ⟨⟨p0, v0⟩, ⟨p1, v1⟩, ⟨p2, v2⟩, ⟨p3, v3⟩, ⟨p4, v4⟩, ⟨p5, v5⟩, ⟨p6, v6⟩, ⟨p7, v7⟩, ⟨p8, v8⟩, ⟨p9, v9⟩, -⟩ := cp10 R1.out
  go_wp2
  refine bodyPost_ret (v := gZ ⟨Sx.gU l1, (Sx.dM l2).1, (Sx.dM l2).2, l3, true, 0, 0, 0, 0, 0⟩) (by simp [results, Tryz.results147, go_sem, *]) rfl ⟨Sx.Av o, _, by rw [ET0.out], ?_, ?_, EE.out⟩
  ·repeat (refine bv ?_ (by omega))
   exact GA.out
  ·repeat (refine aU ?_ (by omega))
   exact T1.out
 ·have EE := hid (Au HLN.out h0)
  have h0' : ((ln : Int) == 0) = false := by simp; omega
  clear h0 HLN
  have X2 := X1
  have R2 := R1
  have T2 := T1
  have GB := GA
  clear X1 R1 T1 GA
  have n4 := iq T2.out
  go_wp2_with fail
  clear lc
  refine (ed b _ _ T2.out).mono ?_
  rintro e w9 ⟨rfl, g1, t1⟩
  have GA := hid (aN GB.out g1)
  have T1 : Hid (TkO w9 b lim (Sx.nxO (Sx.e3 o))) := t1
  have R1 := hid (aL R2.out g1 hne)
  have X1 := hid (aL X2.out g1 hne1)
  clear X2 R2 T2 GB g1 t1
  go_wp2_with fail
  have X2 := X1
  have R2 := R1
  have T2 := T1
  have GB := GA
  clear X1 R1 T1 GA
  refine (gD b _ _ 4 4 _ T2.out (by omega) n4).mono ?_
  rintro e w10 ⟨rfl, g1, t1⟩
  have GA := hid (aN GB.out g1)
  have T1 : Hid (TkO w10 b lim (Sx.e4 o)) := t1
  have R1 := hid (aL R2.out g1 hne)
  have X1 := hid (aL X2.out g1 hne1)
  clear X2 R2 T2 GB g1 t1
  go_wp2_with fail
  have X2 := X1
  have R2 := R1
  have T2 := T1
  have GB := GA
  clear X1 R1 T1 GA
  refine (yg b _ _ T2.out).mono ?_
  rintro e w11 ⟨rfl, g1, t1⟩
  have GA := hid (aN GB.out g1)
  have T1 : Hid (TkO w11 b lim (Sx.e5 o)) := t1
  have R1 := hid (aL R2.out g1 hne)
  have X1 := hid (aL X2.out g1 hne1)
  clear X2 R2 T2 GB g1 t1
  go_wp2_with fail
  have X2 := X1
  have R2 := R1
  have T2 := T1
  have GB := GA
  clear X1 R1 T1 GA
  have n5 := iq T2.out
  refine (ed b _ _ T2.out).mono ?_
  rintro e w12 ⟨rfl, g1, t1⟩
  have GA := hid (aN GB.out g1)
  have T1 : Hid (TkO w12 b lim (Sx.nxO (Sx.e5 o))) := t1
  have R1 := hid (aL R2.out g1 hne)
  have X1 := hid (aL X2.out g1 hne1)
  clear X2 R2 T2 GB g1 t1
  go_wp2_with fail
  have X2 := X1
  have R2 := R1
  have T2 := T1
  have GB := GA
  clear X1 R1 T1 GA
  refine (gD b _ _ 1 2 _ T2.out (by omega) n5).mono ?_
  rintro e w13 ⟨rfl, g1, t1⟩
  have GA := hid (aN GB.out g1)
  have T1 : Hid (TkO w13 b lim (Sx.e6 o)) := t1
  have R1 := hid (aL R2.out g1 hne)
  have X1 := hid (aL X2.out g1 hne1)
  clear X2 R2 T2 GB g1 t1
  obtain ⟨k5, z5⟩ := aa X1.out 5 rfl
  obtain ⟨k6, z6⟩ := aa X1.out 6 rfl
  obtain ⟨k7, z7⟩ := aa X1.out 7 rfl
  have sz := X1.out.1
  go_wp2_with fail
  clear sz k5 z5 k6 z6 k7 z7
  have X2 := hid (cK (cK (cK (X1.out) 5 (.int .i64 ((Sx.num 4 4 (Sx.nxS (Sx.e3 o))).getD 0)) (by simp [iH])) 6 (.int .i64 ((Sx.dA (Sx.nxS (Sx.e4 o))).getD 0)) (by simp [iH])) 7 (.int .i64 ((Sx.num 1 2 (Sx.nxS (Sx.e5 o))).getD 0)) (by simp [iH]))
  have R2 := hid (bR (o := 7) (u := .int .i64 ((Sx.num 1 2 (Sx.nxS (Sx.e5 o))).getD 0)) (bR (o := 6) (u := .int .i64 ((Sx.dA (Sx.nxS (Sx.e4 o))).getD 0)) (bR (o := 5) (u := .int .i64 ((Sx.num 4 4 (Sx.nxS (Sx.e3 o))).getD 0)) (R1.out) hX) hX) hX)
  have T2 := hid (aU (o := 7) (u := .int .i64 ((Sx.num 1 2 (Sx.nxS (Sx.e5 o))).getD 0)) (aU (o := 6) (u := .int .i64 ((Sx.dA (Sx.nxS (Sx.e4 o))).getD 0)) (aU (o := 5) (u := .int .i64 ((Sx.num 4 4 (Sx.nxS (Sx.e3 o))).getD 0)) (T1.out) le1) le1) le1)
  have GB := hid (bv (o := 7) (u := .int .i64 ((Sx.num 1 2 (Sx.nxS (Sx.e5 o))).getD 0)) (bv (o := 6) (u := .int .i64 ((Sx.dA (Sx.nxS (Sx.e4 o))).getD 0)) (bv (o := 5) (u := .int .i64 ((Sx.num 4 4 (Sx.nxS (Sx.e3 o))).getD 0)) (GA.out) (Nat.le_succ _)) (Nat.le_succ _)) (Nat.le_succ _))
  clear X1 R1 T1 GA
  refine (si b _ 2 _ T2.out (.inr rfl)).mono ?_
  rintro e w14 ⟨rfl, g1, t1⟩
  have GA := hid (aN GB.out g1)
  have T1 : Hid (TkO w14 b lim (Sx.e7 o)) := t1
  have R1 := hid (aL R2.out g1 hne)
  have X1 := hid (aL X2.out g1 hne1)
  clear X2 R2 T2 GB g1 t1
  have E8 : Hid (Sx.e8 o = Sx.keep (decide ((Sx.bK 2 (Sx.nxS (Sx.e6 o))).2 ≠ 1)) (Sx.e7 o)) := rfl
  obtain ⟨⟨A, K⟩, hAK⟩ : ∃ p, Sx.bK 2 (Sx.nxS (Sx.e6 o)) = p := ⟨_, rfl⟩
  rw [hAK] at E8 ET1 ⊢
  clear hAK
  have sz := X1.out.1
  have sr := R1.out.1
  obtain ⟨⟨k0, z0⟩, ⟨k1, z1⟩, ⟨k2, z2⟩, ⟨k3, z3⟩, ⟨k4, z4⟩, ⟨k5, z5⟩, ⟨k6, z6⟩, ⟨k7, z7⟩, ⟨k8, z8⟩, ⟨k9, z9⟩, -⟩ := cp10 X1.out
  obtain ⟨⟨p0, v0⟩, ⟨p1, v1⟩, ⟨p2, v2⟩, ⟨p3, v3⟩, ⟨p4, v4⟩, ⟨p5, v5⟩, ⟨p6, v6⟩, ⟨p7, v7⟩, ⟨p8, v8⟩, ⟨p9, v9⟩, -⟩ := cp10 R1.out
  obtain ⟨tx, bad, b0, b1, y0, y1, blt⟩ := eB T1.out
  by_cases hK : K = 1
  ·have E8' : Hid (Sx.e8 o = none) := by show _ = _; rw [E8.out]; simp [hK, Sx.keep]
   subst hK
   go_wp2
   refine bodyPost_ret (v := gZ ⟨Sx.gU l1, (Sx.dM l2).1, (Sx.dM l2).2, l3, false, (Sx.num 4 4 (Sx.nxS (Sx.e3 o))).getD 0, (Sx.dA (Sx.nxS (Sx.e4 o))).getD 0, (Sx.num 1 2 (Sx.nxS (Sx.e5 o))).getD 0, A, 1⟩) (by simp [results, Tryz.results147, go_sem, *]) rfl ⟨Sx.xO o, _, by rw [ET1.out], ?_, ?_, EE.out⟩
   ·repeat (refine bv ?_ (by omega))
    exact bV (bv (bv GA.out (by omega)) (by omega)) (.inl rfl) _
   ·rw [E8'.out]
    repeat (refine aU ?_ (by omega))
    exact fo (aU (aU T1.out (by omega)) (by omega))
  ·have E8' : Hid (Sx.e8 o = Sx.e7 o) := by show _ = _; rw [E8.out]; simp [hK, Sx.keep]
   have hK' : (K == 1) = false := by simp [hK]
   clear hK
   go_wp2
   refine bodyPost_ret (v := gZ ⟨Sx.gU l1, (Sx.dM l2).1, (Sx.dM l2).2, l3, false, (Sx.num 4 4 (Sx.nxS (Sx.e3 o))).getD 0, (Sx.dA (Sx.nxS (Sx.e4 o))).getD 0, (Sx.num 1 2 (Sx.nxS (Sx.e5 o))).getD 0, A, K⟩) (by simp [results, Tryz.results147, go_sem, *]) rfl ⟨Sx.xO o, _, by rw [ET1.out], ?_, ?_, EE.out⟩
   ·repeat (refine bv ?_ (by omega))
    exact GA.out
   ·rw [E8'.out]
    repeat (refine aU ?_ (by omega))
    exact T1.out
end
section
open Go.RowKit

def aB (w : World) (B : Nat) (v : Value) (rs : List Sx.Rl) : Prop := w.ownsRow B 40 11 v rs.length (rs.flatMap ah)
def eG (w : World) (B : Nat) (v : Value) (rs : List Sx.Er) : Prop := w.ownsRow B 67 10 v rs.length (rs.flatMap ax)
def aA (w : World) (B : Nat) (v : Value) (rs : List Sx.Lk) : Prop := w.ownsRow B 35 2 v rs.length (rs.flatMap aH)
/- zones whose eras lie in rows of their own: (name, eras' row) -/
structure OwnZs (w : World) (B : Nat) (v : Value) (ps : List (Tx.Bs × Value)) (zs : List Sx.Zn) : Prop where
 len : ps.length = zs.length
 row : w.ownsRow B 44 2 v ps.length (ps.flatMap cB)
 eras : ∀ (i : Nat) (p : Tx.Bs × Value) (x : Sx.Zn), ps[i]? = some p → zs[i]? = some x → p.1 = x.name ∧ eG w B p.2 x.eras
 apart : ∀ (i j : Nat) (p q : Tx.Bs × Value), ps[i]? = some p → ps[j]? = some q → i ≠ j → p.2.ownBlock = none ∨ p.2.ownBlock ≠ q.2.ownBlock
def Af (w : World) (B : Nat) (v : Value) (zs : List Sx.Zn) : Prop := ∃ ps, OwnZs w B v ps zs
structure fV (w : World) (B : Nat) (r z l : Value) (s : Sx.Sr) : Prop where
 rules : aB w B r s.rules
 zones : Af w B z s.zones
 links : aA w B l s.links
section
variable {w w' W : World} {B : Nat} {v r z l : Value}
theorem Bq {ps zs} (h : OwnZs w B v ps zs) : ∃ a cap, v = .slice a zs.length cap := by rw [← h.len]; exact aQ h.row
theorem gF (w : World) (B : Nat) : fV w B (.slice none 0 0) (.slice none 0 0) (.slice none 0 0) ⟨[], [], []⟩ :=
 ⟨World.ownsRow_nil _ _ _ _, ⟨[], rfl, World.ownsRow_nil _ _ _ _, fun i p x h => by simp at h, fun i j p q h => by simp at h⟩, World.ownsRow_nil _ _ _ _⟩
theorem fD {ps zs} (h : OwnZs W B v ps zs) (hb : Below W.heap.size W w') : OwnZs w' B v ps zs :=
 ⟨h.len, aP h.row hb, fun i p x a b => ⟨(h.eras i p x a b).1, aP (h.eras i p x a b).2 hb⟩, h.apart⟩
theorem qF {s : Sx.Sr} (h : fV W B r z l s) (hb : Below W.heap.size W w') : fV w' B r z l s := by
 obtain ⟨ps, hz⟩ := h.zones
 exact ⟨aP h.rules hb, ⟨ps, fD hz hb⟩, aP h.links hb⟩
/- a row of another kind has turned -/
theorem Dy {ps zs} {row : Option Nat} (h : OwnZs W B v ps zs) (hg : W.grownBy w' row) (h1 : v.ownBlock = none ∨ v.ownBlock ≠ row) (h2 : ∀ (i : Nat) (p : Tx.Bs × Value), ps[i]? = some p → p.2.ownBlock = none ∨ p.2.ownBlock ≠ row) : OwnZs w' B v ps zs :=
 ⟨h.len, h.row.kept hg h1, fun i p x a b => ⟨(h.eras i p x a b).1, (h.eras i p x a b).2.kept hg (h2 i p a)⟩, h.apart⟩
theorem sS {ps zs} {e : TypeId} {k n : Nat} {u : Value} {xs : List Value} (h : OwnZs W B v ps zs) (hu : W.ownsRow B e k u n xs) (he : e ≠ 44) (he' : e ≠ 67) (hg : W.grownBy w' u.ownBlock) : OwnZs w' B v ps zs := by
 refine Dy h hg (fH h.row hu (Ne.symm he)) fun i p hp => ?_
 obtain ⟨x, hx⟩ : ∃ x, zs[i]? = some x := ⟨_, q4G (by rw [← h.len]; exact (q4L.1 hp).1)⟩
 exact fH (h.eras i p x hp hx).2 hu (Ne.symm he')
/- one more -/
theorem zF {rs : List Sx.Rl} {x : Sx.Rl} (h : w.ownsRow B 40 11 v (rs.length + 1) (rs.flatMap ah ++ ah x)) : aB w B v (rs ++ [x]) := by
 unfold aB; simpa using h
theorem Bj {rs : List Sx.Er} {x : Sx.Er} (h : w.ownsRow B 67 10 v (rs.length + 1) (rs.flatMap ax ++ ax x)) : eG w B v (rs ++ [x]) := by
 unfold eG; simpa using h
theorem zD {rs : List Sx.Lk} {x : Sx.Lk} (h : w.ownsRow B 35 2 v (rs.length + 1) (rs.flatMap aH ++ aH x)) : aA w B v (rs ++ [x]) := by
 unfold aA; simpa using h
theorem Gr {ps zs} {v' ev : Value} {x : Sx.Zn} (h : OwnZs W B v ps zs) (hx : eG W B ev x.eras) (hne : ∀ (i : Nat) (p : Tx.Bs × Value), ps[i]? = some p → p.2.ownBlock = none ∨ p.2.ownBlock ≠ ev.ownBlock) (hev : ev.ownBlock ≠ none)
  (hg : W.grownBy w' v.ownBlock) (h' : w'.ownsRow B 44 2 v' (ps.length + 1) (ps.flatMap cB ++ cB (x.name, ev))) : OwnZs w' B v' (ps ++ [(x.name, ev)]) (zs ++ [x]) := by
 have keep : ∀ u (y : Sx.Zn), eG W B u y.eras → eG w' B u y.eras := fun u y hu => hu.kept hg (fH hu h.row (by decide))
 refine ⟨by simp [h.len], by simpa using h', ?_, ?_⟩
 ·intro i p y hp hy
  by_cases hi : i < ps.length
  ·rw [List.getElem?_append_left hi] at hp
   rw [List.getElem?_append_left (by rw [← h.len]; exact hi)] at hy
   exact ⟨(h.eras i p y hp hy).1, keep _ _ (h.eras i p y hp hy).2⟩
  ·have : i = ps.length := by have := (q4L.1 hp).1; simp at this; omega
   subst this
   simp at hp
   rw [h.len] at hy
   simp at hy
   subst hp hy
   exact ⟨rfl, keep _ _ hx⟩
 ·intro i j p q hp hq hij
  by_cases hi : i < ps.length
  ·rw [List.getElem?_append_left hi] at hp
   by_cases hj : j < ps.length
   ·rw [List.getElem?_append_left hj] at hq
    exact h.apart i j p q hp hq hij
   ·have : j = ps.length := by have := (q4L.1 hq).1; simp at this; omega
    subst this
    simp at hq
    subst hq
    exact hne i p hp
  ·have : i = ps.length := by have := (q4L.1 hp).1; simp at this; omega
   subst this
   simp at hp
   subst hp
   by_cases hj : j < ps.length
   ·rw [List.getElem?_append_left hj] at hq
    right
    rcases hne j q hq with h0 | h0
    ·rw [h0]; exact hev
    ·exact Ne.symm h0
   ·exact absurd (by have := (q4L.1 hq).1; simp at this; omega) hij
/- the last zone has an era more: its row's cell is written anew -/
theorem Dz {ps : List (Tx.Bs × Value)} {zs : List Sx.Zn} {g cap : Nat} {nm : Tx.Bs} {ev ev' : Value} {es es' : List Sx.Er} (h : OwnZs W B (.slice (some ⟨g, 0, none⟩) (ps.length + 1) cap) (ps ++ [(nm, ev)]) (zs ++ [⟨nm, es⟩]))
  (hg : W.grownBy w ev.ownBlock) (hx : eG w B ev' es') (hat : ev'.ownBlock = ev.ownBlock ∨ ∃ k, ev'.ownBlock = some k ∧ W.heap.size ≤ k) (hev : ev'.ownBlock ≠ none) :
  OwnZs (w.setCell ⟨g, ps.length * 2 + 1, none⟩ ev') B (.slice (some ⟨g, 0, none⟩) (ps.length + 1) cap) (ps ++ [(nm, ev')]) (zs ++ [⟨nm, es'⟩]) := by
 have hl : ps.length = zs.length := by have := h.len; simpa using this
 have hlast : (ps ++ [(nm, ev)])[ps.length]? = some (nm, ev) := by simp
 have hlz : (zs ++ [⟨nm, es⟩])[ps.length]? = some ⟨nm, es⟩ := by rw [hl]; simp
 have hown := (h.eras _ _ _ hlast hlz).2
 have hrow : W.ownsRow B 44 2 (.slice (some ⟨g, 0, none⟩) (ps.length + 1) cap) (ps.length + 1) ((ps ++ [(nm, ev)]).flatMap cB) := by simpa using h.row
 have hrow' : w.ownsRow B 44 2 (.slice (some ⟨g, 0, none⟩) (ps.length + 1) cap) (ps.length + 1) ((ps ++ [(nm, ev)]).flatMap cB) := hrow.kept hg (fH hrow hown (by decide))
 have hst := (hrow'.stored (ps.length * 2 + 1) ev').1
 have fl : ∀ ps : List (Tx.Bs × Value), (ps.flatMap cB).length = 2 * ps.length := by
  intro ps
  induction ps with
  | nil => rfl
  | cons a r ih => simp [List.flatMap_cons, cB, ih]; omega
 have hne : ∀ {u : Value} {n : Nat} {xs : List Value}, w.ownsRow B 67 10 u n xs → (w.setCell ⟨g, ps.length * 2 + 1, none⟩ ev').ownsRow B 67 10 u n xs := by
  intro u n xs hu
  refine ownsRow_setCell_other hu ?_ _
  rcases fH hu hrow' (by decide) with q | q
  ·rw [q]; simp
  ·simpa [Value.ownBlock] using q
 refine ⟨by simp [hl], ?_, ?_, ?_⟩
 ·have e : ((ps ++ [(nm, ev)]).flatMap cB).set (ps.length * 2 + 1) ev' = (ps ++ [(nm, ev')]).flatMap cB := by
   simp only [List.flatMap_append, List.flatMap_cons, List.flatMap_nil, List.append_nil, cB]
   rw [List.set_append_right _ _ (by rw [fl]; omega), fl, show ps.length * 2 + 1 - 2 * ps.length = 1 by omega]
   rfl
  rw [e] at hst
  simpa using hst
 ·intro i p y hp hy
  by_cases hi : i < ps.length
  ·rw [List.getElem?_append_left hi] at hp
   rw [List.getElem?_append_left (by omega)] at hy
   have hp' : (ps ++ [(nm, ev)])[i]? = some p := by rw [List.getElem?_append_left hi]; exact hp
   have hy' : (zs ++ [⟨nm, es⟩])[i]? = some y := by rw [List.getElem?_append_left (by omega)]; exact hy
   exact ⟨(h.eras i p y hp' hy').1, hne ((h.eras i p y hp' hy').2.kept hg (h.apart i _ p _ hp' hlast (by omega)))⟩
  ·have : i = ps.length := by have := (q4L.1 hp).1; simp at this; omega
   subst this
   simp at hp
   rw [hl] at hy
   simp at hy
   subst hp hy
   exact ⟨rfl, hne hx⟩
 ·have old : ∀ (i : Nat) (p : Tx.Bs × Value), ps[i]? = some p → p.2.ownBlock = none ∨ p.2.ownBlock ≠ ev'.ownBlock := by
   intro i p hp
   have hi := (q4L.1 hp).1
   have hp' : (ps ++ [(nm, ev)])[i]? = some p := by rw [List.getElem?_append_left hi]; exact hp
   rcases hat with q | ⟨k, q, hk⟩
   ·rw [q]; exact h.apart i _ p _ hp' hlast (by omega)
   ·obtain ⟨y, hy⟩ : ∃ y, (zs ++ [⟨nm, es⟩])[i]? = some y := ⟨_, q4G (by simp; omega)⟩
    have hb := (h.eras i p y hp' hy).2
    cases hq : p.2.ownBlock with
    | none => exact .inl rfl
    | some m =>
      right
      have := (hb.lt m hq).2
      rw [q]
      intro q2
      simp at q2
      omega
  intro i j p q hp hq hij
  by_cases hi : i < ps.length
  ·rw [List.getElem?_append_left hi] at hp
   by_cases hj : j < ps.length
   ·rw [List.getElem?_append_left hj] at hq
    exact h.apart i j p q (by rw [List.getElem?_append_left hi]; exact hp) (by rw [List.getElem?_append_left hj]; exact hq) hij
   ·have : j = ps.length := by have := (q4L.1 hq).1; simp at this; omega
    subst this
    simp at hq
    subst hq
    exact old i p hp
  ·have : i = ps.length := by have := (q4L.1 hp).1; simp at this; omega
   subst this
   simp at hp
   subst hp
   by_cases hj : j < ps.length
   ·rw [List.getElem?_append_left hj] at hq
    right
    rcases old j q hq with h0 | h0
    ·rw [h0]; exact hev
    ·exact Ne.symm h0
   ·exact absurd (by have := (q4L.1 hq).1; simp at this; omega) hij
/- what is made can be read -/
theorem Jf {ps zs} (h : OwnZs w B v ps zs) : fE w v zs := by
 refine ⟨ps.map Prod.snd, by simp [h.len], ?_, ?_⟩
 ·have e : ((zs.zip (ps.map Prod.snd)).map fun p => (p.1.name, p.2)) = ps := by
   apply List.ext_getElem?
   intro i
   rcases Nat.lt_or_ge i ps.length with hi | hi
   ·have hp : ps[i]? = some ps[i] := q4G hi
    have hz : zs[i]? = some (zs[i]'(by rw [← h.len]; exact hi)) := q4G _
    have := (h.eras i _ _ hp hz).1
    simp [List.getElem?_map, List.getElem?_zip_eq_some, hp, hz, List.zip_eq_zipWith, List.getElem?_zipWith, ← this]
   ·rw [List.getElem?_eq_none hi, List.getElem?_eq_none]
    have := h.len
    simp; omega
  rw [e]
  exact ku o6 h.row
 ·intro i ev x hi hx
  simp [List.getElem?_map] at hi
  obtain ⟨nm, hp⟩ := hi
  exact ku gJ (h.eras i _ x hp hx).2
theorem yh {s : Sx.Sr} (h : fV w B r z l s) : Hw w r z l s := by
 obtain ⟨ps, hz⟩ := h.zones
 exact ⟨ku oV h.rules, Jf hz, ku oP h.links⟩
end
end
section
open Go.RowKit

namespace Sx
theorem mP (x : Er) : ∀ (zs : List Zn) (z : Zn), qZ x (zs ++ [z]) = zs ++ [⟨z.name, z.eras ++ [x]⟩]
 | [], z => rfl
 | [a], z => rfl
 | a :: b :: r, z => by
   show a :: qZ x (b :: r ++ [z]) = _
   rw [mP x (b :: r) z]; rfl
/- how a line ends: what is left, and whether it stands in as it should -/
def ended (oF : O) (inner must : Bool) : Bool := decide (oF = some []) && (inner == must)
theorem Ga {st : St} {l : Tx.Ln} {x : Er} {oF : O} (hm : st.must = true) (he : lH (some l.fields) x oF) :
  iJ st l = if ended oF l.inner true = true then some ⟨⟨st.src.rules, qZ x st.src.zones, st.src.links⟩, !x.opn⟩ else none := by
 unfold lH at he
 unfold iJ ended
 rw [hm]
 cases hi : l.inner
 ·simp
 ·simp only [ne_eq, not_true_eq_false, if_false, if_true, Option.bind_some] at he ⊢
  cases h : pu l.fields with
  | none => rw [h] at he; simp only at he; subst he; simp [whole]
  | some p =>
    rw [h] at he; simp only at he
    obtain ⟨rfl, rfl⟩ := he
    obtain ⟨a, r⟩ := p
    cases r <;> simp [whole]
theorem nZ {st : St} {l : Tx.Ln} (hm : st.must = false) : iJ st l = if l.inner = true then none else o5 st.src l.fields := by
 unfold iJ
 rw [hm]
 cases l.inner <;> simp
theorem JR : ¬ qY = qK := by decide
theorem I9 : ¬ qz = qK := by decide
theorem Gd : ¬ qz = qY := by decide
theorem Hq (s : Sr) (fs : List Tx.Bs) : o5 s (qK :: fs) = (whole (qJ fs)).map fun r => ⟨⟨s.rules ++ [r], s.zones, s.links⟩, false⟩ := by
 simp [o5]
theorem Hr (s : Sr) (fs : List Tx.Bs) : o5 s (qY :: fs) = (whole (wM fs)).map fun p => ⟨⟨s.rules, s.zones ++ [⟨p.1, [p.2]⟩], s.links⟩, !p.2.opn⟩ := by
 simp [o5, JR]
theorem Ho (s : Sr) (fs : List Tx.Bs) : o5 s (qz :: fs) = (whole (yc fs)).map fun l => ⟨⟨s.rules, s.zones, s.links ++ [l]⟩, false⟩ := by
 simp [o5, I9, Gd]
theorem Gb {st : St} {l : Tx.Ln} {fs : List Tx.Bs} (hm : st.must = false) (hf : l.fields = qK :: fs) :
  iJ st l = if ended (r8 (some fs)) l.inner false = true then some ⟨⟨st.src.rules ++ [tF (some fs)], st.src.zones, st.src.links⟩, false⟩ else none := by
 rw [nZ hm, hf, Hq]
 unfold ended
 cases hi : l.inner
 ·cases h : qJ fs with
  | none => rw [GI h]; simp [whole]
  | some p =>
    obtain ⟨x, r⟩ := p
    obtain ⟨h1, h2⟩ := GJ h
    rw [h1, h2]
    cases r <;> simp [whole]
 ·simp
theorem Gc {st : St} {l : Tx.Ln} {fs : List Tx.Bs} {x : Er} {oF : O} (hm : st.must = false) (hf : l.fields = qY :: fs) (he : lH (keep (bF (nxS (some fs))) (nxO (some fs))) x oF) :
  iJ st l = if ended oF l.inner false = true then some ⟨⟨st.src.rules, st.src.zones ++ [⟨nxS (some fs), [x]⟩], st.src.links⟩, !x.opn⟩ else none := by
 rw [nZ hm, hf, Hr]
 unfold ended
 unfold lH at he
 cases hi : l.inner
 ·cases fs with
  | nil => simp [nxO, dC] at he; subst he; simp [whole, wM]
  | cons n fs =>
    cases hn : bF n with
    | false =>
      simp [nxS, nxO, keep, hn] at he; subst he; simp [whole, wM, kM, hn]
    | true =>
      simp only [nxS, nxO, keep, hn, if_true, Option.bind_some] at he
      cases h : pu fs with
      | none => rw [h] at he; simp only at he; subst he; simp [whole, wM, kM, hn, h]
      | some p =>
        rw [h] at he; simp only at he
        obtain ⟨rfl, rfl⟩ := he
        obtain ⟨a, r⟩ := p
        cases r <;> simp [whole, wM, kM, hn, h, nxS]
 ·simp
def lk1 (fs : List Tx.Bs) : O := keep (bF (nxS (some fs))) (nxO (some fs))
def lk2 (fs : List Tx.Bs) : O := keep (bF (nxS (lk1 fs))) (nxO (lk1 fs))
theorem F9 {st : St} {l : Tx.Ln} {fs : List Tx.Bs} (hm : st.must = false) (hf : l.fields = qz :: fs) :
  iJ st l = if ended (lk2 fs) l.inner false = true then some ⟨⟨st.src.rules, st.src.zones, st.src.links ++ [⟨nxS (some fs), nxS (lk1 fs)⟩]⟩, false⟩ else none := by
 rw [nZ hm, hf, Ho]
 unfold ended
 cases hi : l.inner
 ·match fs with
  | [] => simp [lk2, lk1, nxO, dC, whole, yc]
  | [a] => cases ha : bF a <;> simp [lk2, lk1, nxO, nxS, keep, dC, whole, yc, ha]
  | a :: b :: r => cases ha : bF a <;> cases hb : bF b <;> cases r <;> simp [lk2, lk1, nxO, nxS, keep, dC, whole, yc, kM, ha, hb]
 ·simp
theorem Dm {st : St} {l : Tx.Ln} (hm : st.must = false) (h1 : nxS (some l.fields) ≠ qK) (h2 : nxS (some l.fields) ≠ qY) (h3 : nxS (some l.fields) ≠ qz) : iJ st l = none := by
 rw [nZ hm]
 split
 ·rfl
 ·cases hf : l.fields with
  | nil => rfl
  | cons a r =>
    rw [hf] at h1 h2 h3
    simp only [nxS] at h1 h2 h3
    simp only [o5]
    rw [if_neg h1, if_neg h2, if_neg h3]
end Sx
end
section
open Go.RowKit

theorem Tryz.IX : (Tryz.prog.info? 207).map (fun i => (i.zero, i.size, i.bytes)) = some (some (.agg #[.int .i64 0, .bool false, .slice none 0 0]), 3, 40) := by kernel_rfl

theorem Cf (w : World) (a b c : Value) {e : TypeId} : ∀ (j : Nat) (x : Value), [a, b, c][j]? = some x → (w.alloc (.cells #[a, b, c] e)).cell? ((⟨w.heap.size, 0, none⟩ : Addr).add j) = some x := by
 intro j x hj
 match j, hj with
 | 0, hj => simp at hj; subst hj; simp [Addr.add]
 | 1, hj => simp at hj; subst hj; simp [Addr.add]
 | 2, hj => simp at hj; subst hj; simp [Addr.add]
theorem G7 (n : Int) (b : Bool) (a : Option Addr) (k c : Nat) : ∀ u ∈ [Value.int .i64 n, .bool b, .slice a k c], u.oneCell' = true := by
 intro u hu; simp at hu; rcases hu with rfl | rfl | rfl <;> rfl
def cellsOf : List Value → List Tx.Ln → List Value
 | v :: vs, l :: ls => .int .i64 l.number :: .bool l.inner :: v :: cellsOf vs ls
 | _, _ => []
theorem pY : ∀ (vs : List Value) (ls : List Tx.Ln) (v : Value) (l : Tx.Ln), vs.length = ls.length → cellsOf (vs ++ [v]) (ls ++ [l]) = cellsOf vs ls ++ [.int .i64 l.number, .bool l.inner, v]
 | [], [], v, l, _ => rfl
 | a :: vs, b :: ls, v, l, h => by simp [cellsOf, pY vs ls v l (by simpa using h)]
 | [], b :: ls, _, _, h => by simp at h
 | a :: vs, [], _, _, h => by simp at h
theorem rZ : ∀ (vs : List Value) (ls : List Tx.Ln) (i : Nat) (v : Value) (l : Tx.Ln), vs[i]? = some v → ls[i]? = some l → (cellsOf vs ls)[3 * i]? = some (.int .i64 l.number) ∧ (cellsOf vs ls)[3 * i + 1]? = some (.bool l.inner) ∧ (cellsOf vs ls)[3 * i + 2]? = some v
 | a :: vs, b :: ls, 0, v, l, h1, h2 => by simp at h1 h2; subst h1 h2; simp [cellsOf]
 | a :: vs, b :: ls, i + 1, v, l, h1, h2 => by
   have := rZ vs ls i v l (by simpa using h1) (by simpa using h2)
   simp only [cellsOf]
   refine ⟨?_, ?_, ?_⟩
   ·rw [show 3 * (i + 1) = 3 * i + 1 + 1 + 1 by omega]; simpa using this.1
   ·rw [show 3 * (i + 1) + 1 = (3 * i + 1) + 1 + 1 + 1 by omega]; simpa using this.2.1
   ·rw [show 3 * (i + 1) + 2 = (3 * i + 2) + 1 + 1 + 1 by omega]; simpa using this.2.2
 | [], _, i, v, l, h1, _ => by simp at h1
 | a :: vs, [], i, v, l, _, h2 => by simp at h2

def gY (w : World) (B : Nat) (v : Value) (ls : List Tx.Ln) : Prop :=
 ∃ vs : List Value, vs.length = ls.length ∧ w.ownsRow B 207 3 v ls.length (cellsOf vs ls) ∧
  ∀ (i : Nat) (fv : Value) (l : Tx.Ln), vs[i]? = some fv → ls[i]? = some l → w.ownsRow B 9 1 fv l.fields.length (l.fields.map ag)
theorem jM (w : World) (B : Nat) : gY w B (.slice none 0 0) [] := ⟨[], rfl, World.ownsRow_nil _ _ _ _, fun i fv l h => by simp at h⟩
theorem ko {W w' : World} {B : Nat} {v : Value} {ls : List Tx.Ln} (h : gY W B v ls) (hb : Below W.heap.size W w') : gY w' B v ls := by
 obtain ⟨vs, h1, h2, h3⟩ := h
 exact ⟨vs, h1, aP h2 hb, fun i fv l a b => aP (h3 i fv l a b) hb⟩
theorem zC {w1 w3 : World} {B : Nat} {v v' fv : Value} {vs : List Value} {ls : List Tx.Ln} {l : Tx.Ln} {o : Obj} (hl : vs.length = ls.length) (hown : w1.ownsRow B 207 3 v ls.length (cellsOf vs ls))
  (hf : ∀ (i : Nat) (fv : Value) (l : Tx.Ln), vs[i]? = some fv → ls[i]? = some l → w1.ownsRow B 9 1 fv l.fields.length (l.fields.map ag)) (hfv : w1.ownsRow B 9 1 fv l.fields.length (l.fields.map ag))
  (hown' : w3.ownsRow B 207 3 v' (ls.length + 1) (cellsOf vs ls ++ [.int .i64 l.number, .bool l.inner, fv])) (hg : (w1.alloc o).grownBy w3 v.ownBlock) : gY w3 B v' (ls ++ [l]) := by
 have keep : ∀ fv (l : Tx.Ln), w1.ownsRow B 9 1 fv l.fields.length (l.fields.map ag) → w3.ownsRow B 9 1 fv l.fields.length (l.fields.map ag) := fun fv l h =>
  (h.alloc o).kept hg (fH h hown (by decide))
 refine ⟨vs ++ [fv], by simp [hl], ?_, ?_⟩
 ·rw [pY vs ls fv l hl]; simpa using hown'
 ·intro i x y hx hy
  by_cases h : i < ls.length
  ·rw [List.getElem?_append_left (by omega)] at hx
   rw [List.getElem?_append_left h] at hy
   exact keep x y (hf i x y hx hy)
  ·have hi : i = ls.length := by
    have := (q4L.1 hy).1
    simp at this; omega
   subst hi
   rw [← hl] at hx
   simp at hx hy
   subst hx hy
   exact keep fv l hfv
theorem nD {w : World} {B : Nat} {v : Value} {ls : List Tx.Ln} (h : gY w B v ls) : ∃ a cap, v = .slice a ls.length cap := by
 obtain ⟨vs, _, h2, _⟩ := h
 exact aQ h2

end
namespace Tx

theorem qh : ∀ (m n : Nat) (l : Bs), n ≤ 12 → (fields m n l).1.length + n ≤ 12
 | 0, n, l, h => by simp [fields]; exact h
 | m + 1, n, l, h => by
   unfold fields
   cases hk : skip l with
   | nil => simpa using h
   | cons c r =>
     simp only
     split
     ·simpa using h
     ·cases hf : field (c :: r) with
      | none => simpa using h
      | some p =>
        simp only
        split
        ·simpa using h
        ·rename_i hm
         split
         ·have := qh m (n + 1) p.2 (by omega)
          simp at this ⊢; omega
         ·simpa using h
theorem sD : ∀ (m n : Nat) (l : Bs), ∀ f ∈ (fields m n l).1, f.length ≤ 24
 | 0, n, l => by simp [fields]
 | m + 1, n, l => by
   unfold fields
   cases hk : skip l with
   | nil => simp
   | cons c r =>
     simp only
     split
     ·simp
     ·cases hf : field (c :: r) with
      | none => simp
      | some p =>
        simp only
        split
        ·simp
        ·rename_i hm
         split
         ·have := sD m (n + 1) p.2
          intro f hf'
          simp at hf'
          rcases hf' with rfl | hf'
          ·omega
          ·exact this f hf'
         ·simp
theorem vk : ∀ (rs : List Bs) (n : Int), ∀ l ∈ (go n rs).lines, ∃ r ∈ rs, l.fields = (ky r).1 ∧ l.inner = inner r ∧ (ky r).2 = 0 ∧ (ky r).1 ≠ []
 | [], n => by simp [go]
 | r :: rs, n => by
   intro l hl
   unfold go at hl
   split at hl
   ·simp at hl
   ·rename_i h1
    split at hl
    ·simp at hl
    ·simp only at hl
     split at hl
     ·obtain ⟨x, hx, q⟩ := vk rs (n + 1) l hl
      exact ⟨x, by simp [hx], q⟩
     ·rename_i h3
      simp at hl
      rcases hl with rfl | hl
      ·exact ⟨r, by simp, rfl, rfl, by simpa using h1, h3⟩
      ·obtain ⟨x, hx, q⟩ := vk rs (n + 1) l hl
       exact ⟨x, by simp [hx], q⟩
theorem BP (s : Bs) : (split s).lines.length ≤ 200 ∧ ∀ l ∈ (split s).lines, ∃ r, l.fields = (ky r).1 ∧ l.inner = inner r ∧ (ky r).2 = 0 ∧ (ky r).1 ≠ [] := by
 unfold split
 split
 ·simp
 ·split
  ·simp
  ·split
   ·simp
   ·rename_i h
    refine ⟨by simpa using h, ?_⟩
    intro l hl
    obtain ⟨r, _, q⟩ := vk _ _ l hl
    exact ⟨r, q⟩
theorem zT (s : Bs) : ∀ l ∈ (split s).lines, l.fields.length ≤ 12 ∧ ∀ f ∈ l.fields, f.length ≤ 24 := by
 intro l hl
 obtain ⟨r, h, _⟩ := (BP s).2 l hl
 rw [h]
 exact ⟨qh (r.length + 1) 0 r (by omega), sD _ _ _⟩
end Tx
section
open Go.RowKit

theorem iy {P : Program} {ops : Array Oper} {o : Oper} {a : Act} {w : World} {K : Act → World → Prop} {Q : Exit → Act → World → Prop} {E : Prop}
  (hg : o.guard = none) (s x : Operand) (t : TypeId) (hop : o.op = Op.call { callee := Callee.builtin Builtin.append, args := #[s, x], argTypes := #[t, t] })
  (base : Nat) (e : TypeId) (i : TypeInfo) (z : Value) (size bytes : Nat) (h1 : P.underlying t = some (.slice e)) (h2 : P.info? e = some i) (h3 : i.zero = some z) (h4 : i.size = size) (h5 : i.bytes = bytes) (h6 : z.cells.size = size) (h7 : 0 < size)
  (v : Value) (n : Nat) (xs : List Value) (hs : a.eval s = v) (hown : w.ownsRow base e size v n xs)
  (ad : Addr) (m c : Nat) (news : List Value) (hx : a.eval x = .slice (some ad) m c) (hn : news.length = m * size) (hc : ∀ j u, news[j]? = some u → w.cell? (ad.add j) = some u) (h1c : ∀ u ∈ news, u.oneCell' = true)
  (b1 : n + m ≤ maxLen) (b2 : (n + m) * bytes ≤ 140737488355328) (hbase : base ≤ w.heap.size)
  (hK : ∀ v' w', w'.ownsRow base e size v' (n + m) (xs ++ news) → w.grownBy w' v.ownBlock → K (a.put o.dst v') w') :
  if Region.wanted o (yielded ops a.tmps) = true then Oper.wp P o a w K Q else E := by
 have hw : Region.wanted o (yielded ops a.tmps) = true := by simp [Region.wanted, hg]
 rw [if_pos hw]
 obtain ⟨v', w', hrun, r1, r2, _⟩ := run_append_own (P := P) w base t o.type e i z size bytes h1 h2 h3 h4 h5 h6 h7 v n xs hown ad m c news hn hc h1c b1 b2 hbase
 unfold Oper.wp
 simp [execOp, hop, resolve, invoke, builtin, hs, hx, hrun, Result.andThen]
 exact hK v' w' r1 r2

/- .. and of any list, an empty one too, whether it lies anywhere or not -/
theorem wh {P : Program} (w : World) (base : Nat) (t ty e : TypeId) (i : TypeInfo) (z : Value) (size bytes : Nat) (h1 : P.underlying t = some (.slice e)) (h2 : P.info? e = some i) (h3 : i.zero = some z) (h4 : i.size = size) (h5 : i.bytes = bytes) (h6 : z.cells.size = size) (h7 : 0 < size)
  (v : Value) (n : Nat) (xs : List Value) (hown : w.ownsRow base e size v n xs)
  (xa : Option Addr) (m c : Nat) (news : List Value) (hn : news.length = m * size) (hc : ∀ ad, xa = some ad → ∀ j u, news[j]? = some u → w.cell? (ad.add j) = some u) (h0 : xa = none → m = 0) (h1c : ∀ u ∈ news, u.oneCell' = true)
  (b1 : n + m ≤ maxLen) (b2 : (n + m) * bytes ≤ 140737488355328) (hbase : base ≤ w.heap.size) :
  ∃ v' w', (Builtin.append_ #[t, t] ty #[v, .slice xa m c]).run P w = .ok v' w' ∧ w'.ownsRow base e size v' (n + m) (xs ++ news) ∧ w.grownBy w' v.ownBlock := by
 cases xa with
 | some ad =>
   obtain ⟨v', w', r0, r1, r2, _⟩ := run_append_own (P := P) w base t ty e i z size bytes h1 h2 h3 h4 h5 h6 h7 v n xs hown ad m c news hn (hc ad rfl) h1c b1 b2 hbase
   exact ⟨v', w', r0, r1, r2⟩
 | none =>
   obtain rfl := h0 rfl
   have hnil : news = [] := List.eq_nil_of_length_eq_zero (by simpa using hn)
   subst hnil
   subst h4
   refine ⟨v, w, ?_, by simpa using hown, ⟨rfl, rfl, rfl, Nat.le_refl _, fun _ _ _ => rfl⟩⟩
   rcases hown.2 with ⟨rfl, rfl⟩ | ⟨g, cap, cur, rfl, _, hg, hnc, _⟩
   ·simp [Builtin.append_, run_underlying h1, sizeOf, typeInfo, h2, Builtin.lenOf, Builtin.firstCells]
   ·simp [Builtin.append_, run_underlying h1, sizeOf, typeInfo, h2, Builtin.lenOf, Builtin.firstCells, hnc, storeCells]
theorem qW {P : Program} {w : World} {ops : Array Oper} {rest : List Oper} {o : Oper} {a : Act} {Q : Exit → Act → World → Prop} (hgd : o.guard = none) (s x : Operand) (t : TypeId)
  (hop : o.op = Op.call { callee := Callee.builtin Builtin.append, args := #[s, x], argTypes := #[t, t] })
  (base : Nat) (e : TypeId) (i : TypeInfo) (z : Value) (size bytes : Nat) (h1 : P.underlying t = some (.slice e)) (h2 : P.info? e = some i) (h3 : i.zero = some z) (h4 : i.size = size) (h5 : i.bytes = bytes) (h6 : z.cells.size = size) (h7 : 0 < size)
  (v : Value) (n : Nat) (xs : List Value) (hs : a.eval s = v) (hown : w.ownsRow base e size v n xs)
  (xa : Option Addr) (m c : Nat) (news : List Value) (hx : a.eval x = .slice xa m c) (hn : news.length = m * size) (hc : ∀ ad, xa = some ad → ∀ j u, news[j]? = some u → w.cell? (ad.add j) = some u) (h0 : xa = none → m = 0) (h1c : ∀ u ∈ news, u.oneCell' = true)
  (b1 : n + m ≤ maxLen) (b2 : (n + m) * bytes ≤ 140737488355328) (hbase : base ≤ w.heap.size)
  (h : ∀ v' w', w'.ownsRow base e size v' (n + m) (xs ++ news) → w.grownBy w' v.ownBlock → wpList P ops Q rest (a.put o.dst v') w') : wpList P ops Q (o :: rest) a w := by
 refine wpList_plain hgd fun K hK => ?_
 obtain ⟨v', w', hrun, r1, r2⟩ := wh (P := P) w base t o.type e i z size bytes h1 h2 h3 h4 h5 h6 h7 v n xs hown xa m c news hn hc h0 h1c b1 b2 hbase
 unfold Oper.wp
 simp [execOp, hop, resolve, invoke, builtin, hs, hx, hrun, Result.andThen]
 exact hK _ _ (h v' w' r1 r2)
end
section
open Go.RowKit

abbrev bS : Value := .slice none 0 0
theorem Tryz.AV : (Tryz.prog.info? 40).map (fun i => (i.zero, i.size, i.bytes)) = some (some (.agg #[.string ⟨#[]⟩, .int .i64 0, .int .i64 0, .int .i64 0, .int .i64 0, .int .i64 0, .int .i64 0, .int .i64 0, .int .i64 0, .int .i64 0, .string ⟨#[]⟩]), 11, 104) := by kernel_rfl
theorem Tryz.EH : (Tryz.prog.info? 67).map (fun i => (i.zero, i.size, i.bytes)) = some (some (.agg #[.int .i64 0, .string ⟨#[]⟩, .int .i64 0, .string ⟨#[]⟩, .bool false, .int .i64 0, .int .i64 0, .int .i64 0, .int .i64 0, .int .i64 0]), 10, 96) := by kernel_rfl
theorem Tryz.AX : (Tryz.prog.info? 44).map (fun i => (i.zero, i.size, i.bytes)) = some (some (.agg #[.string ⟨#[]⟩, .slice none 0 0]), 2, 40) := by kernel_rfl
theorem Tryz.AU : (Tryz.prog.info? 35).map (fun i => (i.zero, i.size, i.bytes)) = some (some (.agg #[.string ⟨#[]⟩, .string ⟨#[]⟩]), 2, 32) := by kernel_rfl

/- a line of a list of lines that a call has made -/
theorem pI {w : World} {B : Nat} {a : Option Addr} {n cap : Nat} {ls : List Tx.Ln} {i : Nat} {l : Tx.Ln} (h : gY w B (.slice a n cap) ls) (hl : ls[i]? = some l) :
  ∃ g fa fcap, a = some ⟨g, 0, none⟩ ∧ (B ≤ g ∧ g < w.heap.size) ∧ w.cell? ⟨g, i * 3, none⟩ = some (.int .i64 l.number) ∧ w.cell? ⟨g, i * 3 + 1, none⟩ = some (.bool l.inner) ∧ w.cell? ⟨g, i * 3 + 2, none⟩ = some (.slice fa l.fields.length fcap) ∧ w.ownsRow B 9 1 (.slice fa l.fields.length fcap) l.fields.length (l.fields.map ag) := by
 obtain ⟨vs, hlen, h2, h3⟩ := h
 have hlt := (q4L.1 hl).1
 rcases h2.2 with ⟨_, h0⟩ | ⟨g, c, cur, e, hrest⟩
 ·omega
 simp at e
 obtain ⟨rfl, rfl, rfl⟩ := e
 obtain ⟨_, _, q3, q4, q5⟩ := jU (g := 0) h2
 have hv : vs[i]? = some (vs[i]'(by omega)) := q4G _
 obtain ⟨g0, g1, g2⟩ := rZ vs ls i _ l hv hl
 have ho := h3 i _ l hv hl
 obtain ⟨fa, fcap, e⟩ := aQ ho
 rw [Nat.mul_comm 3 i] at g0 g1 g2
 refine ⟨g, fa, fcap, rfl, ⟨q3, q4⟩, q5 _ _ g0, q5 _ _ g1, ?_, ?_⟩
 ·rw [← e]; exact q5 _ _ g2
 ·rw [← e]; exact ho
/- a Taker of its fields -/
theorem KA {w : World} {B : Nat} {fa : Option Addr} {fcap : Nat} {fs : List Tx.Bs} {t : TypeId} (h : w.ownsRow B 9 1 (.slice fa fs.length fcap) fs.length (fs.map ag)) (h12 : fs.length ≤ 12) (h24 : ∀ f ∈ fs, f.length ≤ 24) :
  TkO (w.alloc (.cells #[.slice fa fs.length fcap, .bool false] t)) w.heap.size (w.heap.size + 1) (some fs) := by
 have hc := aD w [.slice fa fs.length fcap, .bool false] t
 obtain ⟨⟨c0, z0⟩, ⟨c1, z1⟩, -⟩ := cp2 hc
 have hcap : fs.length ≤ fcap := by
  rcases h.2 with ⟨e, h0⟩ | ⟨g, c, cur, e, hb, hg, hn, _⟩
  ·omega
  ·simp at e; rw [e.2]; exact hn
 refine ⟨show TkS _ _ _ _ _ from ⟨by omega, by simp, ⟨fa, fcap, c0, hcap, fun hn => ?_⟩, c1, z0, z1, h12, h24⟩⟩
 rcases h.2 with ⟨e, h0⟩ | ⟨g, c, cur, e, hb, hg, hm, hrest⟩
 ·exact absurd (List.length_eq_zero_iff.1 h0) hn
 simp at e
 obtain ⟨rfl, rfl⟩ := e
 obtain ⟨_, _, q3, q4, q5⟩ := jU (g := 0) h
 simp only at q4 q5
 refine ⟨g, 0, rfl, by omega, by omega, fun i f hf => ?_⟩
 rw [World.cell?_of_block (w := w) (Below.heap_alloc _ _ _ q4)]
 rw [show 0 + i = i by omega]
 exact q5 i _ (by simp [hf])
/- how it ends -/
structure TkE (w : World) (b : Nat) (o : Sx.O) : Prop where
 lt : b < w.heap.size
 out : ∃ a n cap bad, w.cell? ⟨b, 0, none⟩ = some (.slice a n cap) ∧ w.cell? ⟨b, 1, none⟩ = some (.bool bad) ∧ (bad = false → ∃ fs, o = some fs ∧ fs.length = n) ∧ (bad = true → o = none)
theorem qP {w : World} {b lim : Nat} {o : Sx.O} (h : TkO w b lim o) : TkE w b o := by
 refine ⟨wE h, ?_⟩
 match o, h with
 | none, h =>
   obtain ⟨fs, h⟩ := h.out
   obtain ⟨a, cap, c0, _⟩ := h.c0
   exact ⟨a, _, cap, true, c0, h.c1, fun q => (by cases q), fun _ => rfl⟩
 | some fs, h =>
   have h : TkS w b lim false fs := h.out
   obtain ⟨a, cap, c0, _⟩ := h.c0
   exact ⟨a, _, cap, false, c0, h.c1, fun _ => ⟨fs, rfl, rfl⟩, fun q => (by cases q)⟩
theorem oz {w w1 : World} {b : Nat} {o : Sx.O} (h : TkE w b o) (hs : w.heap.size ≤ w1.heap.size) (hk : w1.heap[b]? = w.heap[b]?) : TkE w1 b o := by
 obtain ⟨lt, a, n, cap, bad, c0, c1, e1, e2⟩ := h
 exact ⟨by omega, a, n, cap, bad, by rw [World.cell?_of_block (w := w) hk]; exact c0, by rw [World.cell?_of_block (w := w) hk]; exact c1, e1, e2⟩

/- what was parsed so far: X: the variable; B: rows of its own lie from there on; below W's end nothing turns -/
structure PS (W w : World) (X B : Nat) (r z l : Value) (s : Sx.Sr) : Prop where
 bel : Below W.heap.size W w
 hX : W.heap.size ≤ X
 hXB : X < B
 hB : B ≤ w.heap.size
 box : ak w X [r, z, l]
 own : fV w B r z l s
section
variable {W w w1 w2 : World} {X B : Nat} {r z l : Value} {s : Sx.Sr}
theorem jo (h : PS W w X B r z l s) (hb : Below w.heap.size w w1) : PS W w1 X B r z l s :=
 ⟨h.bel.trans (hb.mono h.bel.size), h.hX, h.hXB, Nat.le_trans h.hB hb.size, ai h.box hb, qF h.own hb⟩
theorem gp {e : TypeId} {k n : Nat} {v : Value} {xs : List Value} (h : w.ownsRow B e k v n xs) : ∀ q, v.ownBlock = some q → B ≤ q ∧ q < w.heap.size := by
 intro q hq
 exact h.lt q hq
/- a rule more -/
theorem Kk {x : Sx.Rl} {o : Obj} {v' : Value} (h : PS W w X B r z l s) (hg : (w.alloc o).grownBy w1 r.ownBlock) (hown : w1.ownsRow B 40 11 v' (s.rules.length + 1) (s.rules.flatMap ah ++ ah x)) :
  PS W (w1.setCell ⟨X, 0, none⟩ v') X B v' z l ⟨s.rules ++ [x], s.zones, s.links⟩ := by
 obtain ⟨hbel, hX, hXB, hB, box, ⟨o1, ⟨ps, o2⟩, o3⟩⟩ := h
 have hr := gp o1
 have hsz := hg.size
 simp at hsz
 have ha : Below w.heap.size w (w.alloc o) := (q4B _ _).alloc (Nat.le_refl _) _
 have p2 := sS (fD o2 ha) (aP o1 ha) (by decide) (by decide) hg
 have p3 : aA w1 B l s.links := (aP o3 ha).kept hg (fH (aP o3 ha) (aP o1 ha) (by decide))
 have hX1 : ∀ k, r.ownBlock = some k → k ≠ X := fun k hk => by have := (hr k hk).1; omega
 have hxb : ak w1 X [r, z, l] := ca_grownO (aM box o) hg hX1
 have hne : ∀ {e : TypeId} {k n : Nat} {u : Value} {xs : List Value}, w1.ownsRow B e k u n xs → (w1.setCell ⟨X, 0, none⟩ v').ownsRow B e k u n xs := by
  intro e k n u xs hu
  refine ownsRow_setCell_other hu ?_ _
  intro q
  have := (gp hu X q).1
  omega
 refine ⟨?_, hX, hXB, by simp; omega, cK hxb 0 v' (by simp), ⟨zF (hne hown), ⟨ps, ⟨p2.len, hne p2.row, fun i p y a b => ⟨(p2.eras i p y a b).1, hne (p2.eras i p y a b).2⟩, p2.apart⟩⟩, hne p3⟩⟩
 refine aO ((hbel.trans (ha.mono hbel.size)).grown hg ?_ ?_) hX _
 ·have := hbel.size; simp; omega
 ·intro k hk; have := (hr k hk).1; omega
/- a link more -/
theorem Kj {x : Sx.Lk} {o : Obj} {v' : Value} (h : PS W w X B r z l s) (hg : (w.alloc o).grownBy w1 l.ownBlock) (hown : w1.ownsRow B 35 2 v' (s.links.length + 1) (s.links.flatMap aH ++ aH x)) :
  PS W (w1.setCell ⟨X, 2, none⟩ v') X B r z v' ⟨s.rules, s.zones, s.links ++ [x]⟩ := by
 obtain ⟨hbel, hX, hXB, hB, box, ⟨o1, ⟨ps, o2⟩, o3⟩⟩ := h
 have hr := gp o3
 have hsz := hg.size
 simp at hsz
 have ha : Below w.heap.size w (w.alloc o) := (q4B _ _).alloc (Nat.le_refl _) _
 have p2 := sS (fD o2 ha) (aP o3 ha) (by decide) (by decide) hg
 have p1 : aB w1 B r s.rules := (aP o1 ha).kept hg (fH (aP o1 ha) (aP o3 ha) (by decide))
 have hX1 : ∀ k, l.ownBlock = some k → k ≠ X := fun k hk => by have := (hr k hk).1; omega
 have hxb : ak w1 X [r, z, l] := ca_grownO (aM box o) hg hX1
 have hne : ∀ {e : TypeId} {k n : Nat} {u : Value} {xs : List Value}, w1.ownsRow B e k u n xs → (w1.setCell ⟨X, 2, none⟩ v').ownsRow B e k u n xs := by
  intro e k n u xs hu
  refine ownsRow_setCell_other hu ?_ _
  intro q
  have := (gp hu X q).1
  omega
 refine ⟨?_, hX, hXB, by simp; omega, cK hxb 2 v' (by simp), ⟨hne p1, ⟨ps, ⟨p2.len, hne p2.row, fun i p y a b => ⟨(p2.eras i p y a b).1, hne (p2.eras i p y a b).2⟩, p2.apart⟩⟩, zD (hne hown)⟩⟩
 refine aO ((hbel.trans (ha.mono hbel.size)).grown hg ?_ ?_) hX _
 ·have := hbel.size; simp; omega
 ·intro k hk; have := (hr k hk).1; omega
/- a zone more, its first era in a row of its own -/
theorem Kl {w0 : World} {x : Sx.Er} {nm : Tx.Bs} {ev : Value} {o : Obj} {v' : Value} {ps : List (Tx.Bs × Value)} (h : PS W w X B r z l s) (hz0 : OwnZs w0 B z ps s.zones) (hw : Below w0.heap.size w0 w) (hB0 : B ≤ w0.heap.size)
  (hev : w.ownsRow w0.heap.size 67 10 ev 1 (ax x)) (hg : (w.alloc o).grownBy w1 z.ownBlock) (hown : w1.ownsRow B 44 2 v' (ps.length + 1) (ps.flatMap cB ++ cB (nm, ev))) :
  PS W (w1.setCell ⟨X, 1, none⟩ v') X B r v' l ⟨s.rules, s.zones ++ [⟨nm, [x]⟩], s.links⟩ := by
 obtain ⟨hbel, hX, hXB, hB, box, ⟨o1, _, o3⟩⟩ := h
 have o2 := fD hz0 hw
 have hr := gp o2.row
 have hsz := hg.size
 simp at hsz
 have ha : Below w.heap.size w (w.alloc o) := (q4B _ _).alloc (Nat.le_refl _) _
 have a2 := fD o2 ha
 have p1 : aB w1 B r s.rules := (aP o1 ha).kept hg (fH (aP o1 ha) a2.row (by decide))
 have p3 : aA w1 B l s.links := (aP o3 ha).kept hg (fH (aP o3 ha) a2.row (by decide))
 have hX1 : ∀ k, z.ownBlock = some k → k ≠ X := fun k hk => by have := (hr k hk).1; omega
 have hxb : ak w1 X [r, z, l] := ca_grownO (aM box o) hg hX1
 have he : eG (w.alloc o) B ev (⟨nm, [x]⟩ : Sx.Zn).eras := by
  have := aP (gK hev hB0) ha
  unfold eG
  simpa using this
 obtain ⟨ge, ecap, rfl⟩ := bu hev
 have hge := (gp hev ge rfl).1
 have p2 := Gr (x := ⟨nm, [x]⟩) a2 he (fun i p hp => by
  obtain ⟨y, hy⟩ : ∃ y, s.zones[i]? = some y := ⟨_, q4G (by rw [← hz0.len]; exact (q4L.1 hp).1)⟩
  cases hq : p.2.ownBlock with
  | none => exact .inl rfl
  | some m =>
    right
    have := (gp (hz0.eras i p y hp hy).2 m hq).2
    simp [Value.ownBlock]
    omega) (by simp [Value.ownBlock]) hg hown
 have hne : ∀ {e : TypeId} {k n : Nat} {u : Value} {xs : List Value}, w1.ownsRow B e k u n xs → (w1.setCell ⟨X, 1, none⟩ v').ownsRow B e k u n xs := by
  intro e k n u xs hu
  refine ownsRow_setCell_other hu ?_ _
  intro q
  have := (gp hu X q).1
  omega
 refine ⟨?_, hX, hXB, by simp; omega, cK hxb 1 v' (by simp), ⟨hne p1, ⟨_, ⟨p2.len, hne p2.row, fun i p y a b => ⟨(p2.eras i p y a b).1, hne (p2.eras i p y a b).2⟩, p2.apart⟩⟩, hne p3⟩⟩
 refine aO ((hbel.trans (ha.mono hbel.size)).grown hg ?_ ?_) hX _
 ·have := hbel.size; simp; omega
 ·intro k hk; have := (hr k hk).1; omega
/- an era more of the last zone -/
theorem Lu {x : Sx.Er} {g cap : Nat} {nm : Tx.Bs} {ev ev' : Value} {es : List Sx.Er} {o : Obj} {ps : List (Tx.Bs × Value)} {zs : List Sx.Zn} (h : PS W w X B r (.slice (some ⟨g, 0, none⟩) (ps.length + 1) cap) l s)
  (hz : OwnZs w B (.slice (some ⟨g, 0, none⟩) (ps.length + 1) cap) (ps ++ [(nm, ev)]) (zs ++ [⟨nm, es⟩]))
  (hg : (w.alloc o).grownBy w1 ev.ownBlock) (hown : w1.ownsRow B 67 10 ev' (es.length + 1) (es.flatMap ax ++ ax x)) (hat : ev'.ownBlock = ev.ownBlock ∨ ev'.ownBlock = some (w.alloc o).heap.size) :
  PS W (w1.setCell ⟨g, ps.length * 2 + 1, none⟩ ev') X B r (.slice (some ⟨g, 0, none⟩) (ps.length + 1) cap) l ⟨s.rules, zs ++ [⟨nm, es ++ [x]⟩], s.links⟩ := by
 obtain ⟨hbel, hX, hXB, hB, box, ⟨o1, _, o3⟩⟩ := h
 have hl : ps.length = zs.length := by have := hz.len; simpa using this
 have hown0 := (hz.eras ps.length (nm, ev) ⟨nm, es⟩ (by simp) (by rw [hl]; simp)).2
 have hr := gp hown0
 have hgr := gp hz.row g rfl
 have hsz := hg.size
 simp at hsz
 have ha : Below w.heap.size w (w.alloc o) := (q4B _ _).alloc (Nat.le_refl _) _
 have a2 := fD hz ha
 have ae := aP hown0 ha
 have p1 : aB w1 B r s.rules := (aP o1 ha).kept hg (fH (aP o1 ha) ae (by decide))
 have p3 : aA w1 B l s.links := (aP o3 ha).kept hg (fH (aP o3 ha) ae (by decide))
 have hX1 : ∀ k, ev.ownBlock = some k → k ≠ X := fun k hk => by have := (hr k hk).1; omega
 have hxb : ak w1 X [r, .slice (some ⟨g, 0, none⟩) (ps.length + 1) cap, l] := ca_grownO (aM box o) hg hX1
 have p2 := Dz a2 hg (Bj hown) (by
  rcases hat with q | q
  ·exact .inl q
  ·exact .inr ⟨_, q, Nat.le_refl _⟩) (by
  obtain ⟨g', cap', rfl⟩ := bu hown
  simp [Value.ownBlock])
 have hne : ∀ {e : TypeId} {k n : Nat} {u : Value} {xs : List Value}, e ≠ 44 → w1.ownsRow B e k u n xs → (w1.setCell ⟨g, ps.length * 2 + 1, none⟩ ev').ownsRow B e k u n xs := by
  intro e k n u xs hne hu
  refine ownsRow_setCell_other hu ?_ _
  have hrow' : w1.ownsRow B 44 2 (.slice (some ⟨g, 0, none⟩) (ps.length + 1) cap) (ps ++ [(nm, ev)]).length ((ps ++ [(nm, ev)]).flatMap cB) := a2.row.kept hg (fH a2.row ae (by decide))
  rcases fH hu hrow' hne with q | q
  ·rw [q]; simp
  ·simpa [Value.ownBlock] using q
 refine ⟨?_, hX, hXB, by simp; omega, bR hxb (by omega), ⟨hne (by decide) p1, ⟨_, p2⟩, hne (by decide) p3⟩⟩
 refine aO ((hbel.trans (ha.mono hbel.size)).grown hg ?_ ?_) (by have := hbel.size; omega) _
 ·have := hbel.size; simp; omega
 ·intro k hk; have := (hr k hk).1; omega
end
section
variable {W w w1 w2 : World} {X B : Nat} {r z l : Value} {s : Sx.Sr}
theorem zH {o : Obj} {v : Value} (h : PS W w X B r z l s) (hg : (w.alloc o).grownBy w1 v.ownBlock) (hv : ∀ k, v.ownBlock = some k → B ≤ k) : ak w1 X [r, z, l] :=
 ca_grownO (aM h.box o) hg fun k hk => by have := hv k hk; have := h.hXB; omega
theorem uq {ob : Obj} {b j : Nat} {row : Option Nat} {o : Sx.O} {v' : Value} {q : Nat} (h : TkE w b o) (hg : (w.alloc ob).grownBy w1 row) (hr : ∀ k, row = some k → k ≠ b) (hq : q ≠ b) : TkE (w1.setCell ⟨q, j, none⟩ v') b o := by
 have hs := hg.size
 have lt := h.lt
 simp at hs
 refine oz h (by simp; omega) ?_
 rw [Below.heap_setCell _ _ _ _ (Ne.symm hq), hg.block b (by simp; omega) (fun e => hr b e.symm rfl), Below.heap_alloc _ _ _ lt]
end
theorem oD {w : World} {B g n cap : Nat} {ps : List (Tx.Bs × Value)} {nm : Tx.Bs} {ev : Value} (h : w.ownsRow B 44 2 (.slice (some ⟨g, 0, none⟩) n cap) (ps ++ [(nm, ev)]).length ((ps ++ [(nm, ev)]).flatMap cB)) :
  w.cell? ⟨g, ps.length * 2 + 1, none⟩ = some ev ∧ w.frozen? ⟨g, ps.length * 2 + 1, none⟩ = false ∧ g < w.heap.size ∧ B ≤ g := by
 have hn : n = (ps ++ [(nm, ev)]).length := by
  obtain ⟨a, c, e⟩ := aQ h
  simp only [Value.slice.injEq] at e
  exact e.2.1
 subst hn
 obtain ⟨_, _, q3, q4, q5⟩ := jU (g := 0) h
 exact ⟨q5 _ _ (flat_get cB o6 _ ps.length (nm, ev) (by simp) 1 ev rfl), h.frozenAt _, q4, q3⟩
theorem Eu {w w1 : World} {B g cap : Nat} {ps : List (Tx.Bs × Value)} {zs : List Sx.Zn} {nm : Tx.Bs} {ev : Value} {es : List Sx.Er} {o : Obj} (h : OwnZs w B (.slice (some ⟨g, 0, none⟩) (ps.length + 1) cap) (ps ++ [(nm, ev)]) (zs ++ [⟨nm, es⟩])) (hg : (w.alloc o).grownBy w1 ev.ownBlock) :
  w1.cell? ⟨g, ps.length * 2 + 1, none⟩ = some ev ∧ w1.frozen? ⟨g, ps.length * 2 + 1, none⟩ = false ∧ g < w1.heap.size := by
 have hl : ps.length = zs.length := by have := h.len; simpa using this
 have hown := (h.eras ps.length (nm, ev) ⟨nm, es⟩ (by simp) (by rw [hl]; simp)).2
 have ha : Below w.heap.size w (w.alloc o) := (q4B _ _).alloc (Nat.le_refl _) _
 have := oD ((aP h.row ha).kept hg (fH (aP h.row ha) (aP hown ha) (by decide)))
 exact ⟨this.1, this.2.1, this.2.2.1⟩
section
variable {w w1 : World} {b : Nat} {o : Sx.O}
theorem rP (h : TkE w b o) (ob : Obj) : TkE (w.alloc ob) b o := oz h (by simp) (Below.heap_alloc _ _ _ h.lt)
theorem EZ {q j : Nat} {u : Value} (h : TkE w b o) (hq : q ≠ b) : TkE (w.setCell ⟨q, j, none⟩ u) b o := oz h (by simp) (Below.heap_setCell _ _ _ _ (Ne.symm hq))
theorem G9 {row : Option Nat} (h : TkE w b o) (hg : w.grownBy w1 row) (hr : ∀ k, row = some k → k ≠ b) : TkE w1 b o := oz h hg.size (hg.block b h.lt (fun e => hr b e.symm rfl))
end
theorem wN (w : World) (a b : Value) {e : TypeId} : ∀ (j : Nat) (x : Value), [a, b][j]? = some x → (w.alloc (.cells #[a, b] e)).cell? ((⟨w.heap.size, 0, none⟩ : Addr).add j) = some x := by
 intro j x hj
 have := (aa (aD w [a, b] e) j hj).1
 cases j with
 | zero => simpa [Addr.add] using this
 | succ j => simpa [Addr.add] using this
theorem ol (w : World) (vs : List Value) {e : TypeId} : ∀ (j : Nat) (x : Value), vs[j]? = some x → (w.alloc (.cells vs.toArray e)).cell? ((⟨w.heap.size, 0, none⟩ : Addr).add j) = some x := by
 intro j x hj
 have := (aa (aD w vs e) j hj).1
 cases j with
 | zero => simpa [Addr.add] using this
 | succ j => simpa [Addr.add] using this
theorem DW (w : World) (r : Sx.Rl) {e : TypeId} : ∀ (j : Nat) (x : Value), (ah r)[j]? = some x → (w.alloc (.cells #[ag r.name, .int .i64 r.frm, .int .i64 r.to, .int .i64 r.month, .int .i64 r.kind, .int .i64 r.wk, .int .i64 r.n, .int .i64 r.at_, .int .i64 r.clock, .int .i64 r.save, ag r.letter] e)).cell? ((⟨w.heap.size, 0, none⟩ : Addr).add j) = some x := ol w (ah r)
theorem xP (w : World) (x : Sx.Er) {e : TypeId} : ∀ (j : Nat) (u : Value), (ax x)[j]? = some u → (w.alloc (.cells #[.int .i64 x.shift, ag x.rules, .int .i64 x.save, ag x.format, .bool x.opn, .int .i64 x.uy, .int .i64 x.um, .int .i64 x.ud, .int .i64 x.uat, .int .i64 x.uclock] e)).cell? ((⟨w.heap.size, 0, none⟩ : Addr).add j) = some u := ol w (ax x)
theorem dL (r : Sx.Rl) : ∀ u ∈ ah r, u.oneCell' = true := by
 intro u hu; simp only [ah, List.mem_cons, List.not_mem_nil, or_false] at hu; rcases hu with rfl | rfl | rfl | rfl | rfl | rfl | rfl | rfl | rfl | rfl | rfl <;> rfl
theorem yU (x : Sx.Er) : ∀ u ∈ ax x, u.oneCell' = true := by
 intro u hu; simp only [ax, List.mem_cons, List.not_mem_nil, or_false] at hu; rcases hu with rfl | rfl | rfl | rfl | rfl | rfl | rfl | rfl | rfl | rfl <;> rfl
/- a call inside a region that draws -/
theorem BZ {ops : Array Oper} {o : Oper} {a : Act} {w : World} {K : Act → World → Prop} {Q : Exit → Act → World → Prop} {E : Prop}
  (hg : o.guard = none) (x : Operand) (t : TypeId) (hop : o.op = Op.call { callee := Callee.value (Operand.func 148), args := #[x], argTypes := #[t] })
  (vx : Value) (hx : a.eval x = vx) {v : Value} {C : World → Prop} (hc : Calls Tryz.prog 148 #[vx] w fun e w' => e = .returned v ∧ C w') (hK : ∀ w', C w' → K (a.put o.dst v) w') :
  if Region.wanted o (yielded ops a.tmps) = true then Oper.wp Tryz.prog o a w K Q else E := by
 have hw : Region.wanted o (yielded ops a.tmps) = true := by simp [Region.wanted, hg]
 rw [if_pos hw]
 unfold Oper.wp
 simp only [execOp, hop, resolve, invoke, Sem.run_bind, List.map_toArray, List.map_cons, List.map_nil, hx]
 have e : Oper.upon Tryz.prog o a K Q (.ok (.enter 148 #[vx]) w) := by
  rw [Oper.upon_enter]
  exact hc.mono (by rintro e w' ⟨rfl, h⟩; exact hK w' h)
 go_simp
/- append onto a row of one's own, inside a region that draws: and where it lies then -/
theorem wy {P : Program} {ops : Array Oper} {o : Oper} {a : Act} {w : World} {K : Act → World → Prop} {Q : Exit → Act → World → Prop} {E : Prop}
  (hg : o.guard = none) (s x : Operand) (t : TypeId) (hop : o.op = Op.call { callee := Callee.builtin Builtin.append, args := #[s, x], argTypes := #[t, t] })
  (base : Nat) (e : TypeId) (i : TypeInfo) (z : Value) (size bytes : Nat) (h1 : P.underlying t = some (.slice e)) (h2 : P.info? e = some i) (h3 : i.zero = some z) (h4 : i.size = size) (h5 : i.bytes = bytes) (h6 : z.cells.size = size) (h7 : 0 < size)
  (v : Value) (n : Nat) (xs : List Value) (hs : a.eval s = v) (hown : w.ownsRow base e size v n xs)
  (ad : Addr) (m c : Nat) (news : List Value) (hx : a.eval x = .slice (some ad) m c) (hn : news.length = m * size) (hc : ∀ j u, news[j]? = some u → w.cell? (ad.add j) = some u) (h1c : ∀ u ∈ news, u.oneCell' = true)
  (b1 : n + m ≤ maxLen) (b2 : (n + m) * bytes ≤ 140737488355328) (hbase : base ≤ w.heap.size)
  (hK : ∀ v' w', w'.ownsRow base e size v' (n + m) (xs ++ news) → w.grownBy w' v.ownBlock → (v'.ownBlock = v.ownBlock ∨ v'.ownBlock = some w.heap.size) → K (a.put o.dst v') w') :
  if Region.wanted o (yielded ops a.tmps) = true then Oper.wp P o a w K Q else E := by
 have hw : Region.wanted o (yielded ops a.tmps) = true := by simp [Region.wanted, hg]
 rw [if_pos hw]
 obtain ⟨v', w', hrun, r1, r2, _, r3⟩ := run_append_own_at (P := P) w base t o.type e i z size bytes h1 h2 h3 h4 h5 h6 h7 v n xs hown ad m c news hn hc h1c b1 b2 hbase
 unfold Oper.wp
 simp [execOp, hop, resolve, invoke, builtin, hs, hx, hrun, Result.andThen]
 exact hK v' w' r1 r2 r3
end
section
open Go.RowKit
attribute [local go_sem ↓] Go.wp_at_zero Go.wp_at_succ

theorem oM (rs : List Sx.Rl) (rv : Value) (w : World) (h : bY w rv rs) (hs : ∀ r ∈ rs, r.name.length ≤ maxLen ∧ r.letter.length ≤ maxLen) (hl : rs.length ≤ 40) :
  Calls Tryz.prog 90 #[rv, .func (.func 91) #[] #[]] w fun e w' => e = .returned (.int .i64 (Sx.az Sx.dI rs)) ∧ Below w.heap.size w w' := by
 obtain ⟨R, hR⟩ : ∃ R, Sx.az Sx.dI rs = R := ⟨_, rfl⟩
 rw [hR]
 have HR : Hid (R = Sx.az Sx.dI (rs.drop 0)) := hR.symm
 obtain ⟨ra, rcap, rfl⟩ := bP h
 have H := hid h
 have HS := hid hs
 clear hR h hs
 have eg : ∀ args w, (callFunc 91 args).run Tryz.prog w = .ok (.enter 91 args) w := enters_of Tryz.func91 (by kernel_rfl) rfl
 go_enter Tryz.func90, Tryz.ntmps90
 go_wp2_with fail
 go_loopw [10] (fun a wr => ∃ k : Nat, k ≤ rs.length ∧ a = .int .i64 k ∧ Hid (Below w.heap.size w wr) ∧ Hid (R = Sx.az Sx.dI (rs.drop k))) (fun a _ => rs.length - (intOf a).toNat)
 case atStart => exact ⟨0, by omega, rfl, q4B _ _, HR⟩
 case round =>
  clear HR
  obtain ⟨k, hk, rfl, B0, HR⟩ := hrel
  by_cases hlt : k < rs.length
  case neg =>
   have HR2 : Hid (R = 0) := by show _ = _; rw [HR.out]; exact Sx.eX _ hlt
   go_wp2
   go_ret
   exact ⟨ay (by rw [HR2.out]), B0.out⟩
  obtain ⟨x, hx⟩ : ∃ x, rs[k]? = some x := ⟨_, q4G hlt⟩
  obtain ⟨rb, ro, rfl, hrb, hc⟩ := dx (au H.out B0.out) hx
  obtain ⟨c0, c1, c2, c3, c4, c5, c6, c7, c8, c9, c10⟩ := uj hc
  have HX := hid hx
  have SX := hid (HS.out x (List.mem_of_getElem? hx))
  clear hc hx
  have BV := hid (B0.out.alloc B0.out.size (.cells (ah x).toArray 40))
  go_wp2_with fail
  refine (vR x _ SX.out.1 SX.out.2).mono ?_
  rintro e w1 ⟨rfl, hb⟩
  have B1 : Hid (Below w.heap.size w w1) := BV.out.trans (hb.mono BV.out.size)
  clear hb B0 BV c0 c1 c2 c3 c4 c5 c6 c7 c8 c9 c10 hrb
  obtain ⟨E, hE⟩ : ∃ E, Sx.dI x = E := ⟨_, rfl⟩
  rw [hE]
  by_cases h0 : E = 0
  case neg =>
   have HR2 : Hid (R = E) := by show _ = _; rw [← hE]; exact Sx.iU _ HX.out HR.out (by rw [hE]; exact h0)
   have h0' : (E != 0) = true := by simp [h0]
   clear hE
   go_wp2
   go_ret
   exact ⟨ay (by rw [HR2.out]), B1.out⟩
  have HR2 : Hid (R = Sx.az Sx.dI (rs.drop (k + 1))) := Sx.iE _ HX.out HR.out (by rw [hE]; exact h0)
  clear hE HR
  subst h0
  go_wp2
  go_roundw
  case rel => exact ⟨k + 1, by omega, by go_num, B1, HR2⟩
  case measure => simp [intOf]; omega
theorem wY (f : Value) (w : World) : Calls Tryz.prog 92 #[.slice none 0 0, f] w fun e w' => e = .returned (.int .i64 0) ∧ w' = w := by
 go_enter Tryz.func92, Tryz.ntmps92
 go_wp2_with fail
 go_loop [10] (fun a => a = .int .i64 0) (fun _ => 0)
 case atStart => rfl
 case round =>
  subst hrel
  go_wp2
  go_ret
  exact ⟨rfl, rfl⟩
theorem wW (f : Value) (w : World) : Calls Tryz.prog 94 #[.slice none 0 0, f] w fun e w' => e = .returned (.int .i64 0) ∧ w' = w := by
 go_enter Tryz.func94, Tryz.ntmps94
 go_wp2_with fail
 go_loop [10] (fun a => a = .int .i64 0) (fun _ => 0)
 case atStart => rfl
 case round =>
  subst hrel
  go_wp2
  go_ret
  exact ⟨rfl, rfl⟩
theorem uY (n cap : Nat) (a : Option Addr) (w : World) {b : Bool} (h : decide (n ≤ 40) = b) :
  Calls Tryz.prog 88 #[.agg #[.slice a n cap, .slice none 0 0, .slice none 0 0]] w fun e w' => e = .returned (.bool b) ∧ Below w.heap.size w w' := by
 by_cases h1 : 40 < n
 ·have HB : Hid (false = b) := by show _ = _; rw [← h]; simp; omega
  clear h
  go_enter Tryz.func88, Tryz.ntmps88
  go_wp2
  go_ret
  exact ⟨aC HB.out, (q4B _ _).alloc (Nat.le_refl _) _⟩
 ·have HB : Hid (true = b) := by show _ = _; rw [← h]; simp; omega
  clear h
  have BV := hid ((q4B w.heap.size w).alloc (Nat.le_refl _) (.cells #[.slice a n cap, .slice none 0 0, .slice none 0 0] 26))
  go_enter Tryz.func88, Tryz.ntmps88
  go_wp2_with fail
  go_loop [24] (fun a => a = .int .i64 0) (fun _ => 0)
  case atStart => rfl
  case round =>
   subst hrel
   go_wp2
   go_ret
   exact ⟨aC HB.out, BV.out⟩
end
section
open Go.RowKit
attribute [local go_sem ↓] Go.wp_at_zero Go.wp_at_succ

theorem ww {rs : List Sx.Rl} (h : rs.length ≤ 40) : Sx.fB ⟨rs, [], []⟩ = Sx.az Sx.dI rs := by
 rw [Sx.ul (Sx.zt (by simpa using h) (by simp) (by simp) (by intro j z hj; simp at hj))]
 simp only [Sx.az]
 by_cases q : Sx.az Sx.dI rs = 0
 ·rw [Sx.rF q, Sx.rF rfl, q]
 ·rw [Sx.Bf q]
theorem or3 (e : Int) : Sx.az id [e, 0, 0] = e := by
 by_cases h : e = 0 <;> simp [Sx.az, h]
theorem iw (rs : List Sx.Rl) (rv : Value) (w : World) (h : bY w rv rs) (hs : ∀ r ∈ rs, r.name.length ≤ maxLen ∧ r.letter.length ≤ maxLen) :
  Calls Tryz.prog 42 #[.agg #[rv, .slice none 0 0, .slice none 0 0]] w fun e w' => e = .returned (.int .i64 (Sx.fB ⟨rs, [], []⟩)) ∧ Below w.heap.size w w' := by
 obtain ⟨ra, rcap, rfl⟩ := bP h
 have XV := hid (aD w [.slice ra rs.length rcap, .slice none 0 0, .slice none 0 0] 26)
 have BV := hid ((q4B w.heap.size w).alloc (Nat.le_refl _) (.cells [.slice ra rs.length rcap, .slice none 0 0, .slice none 0 0].toArray 26))
 have H := hid h
 have HS := hid hs
 clear h hs
 by_cases h40 : rs.length ≤ 40
 case neg =>
  have HR : Hid (Sx.fB ⟨rs, [], []⟩ = 2) := Sx.kD (by simp [Sx.eH]; omega)
  have HF : Hid (decide (rs.length ≤ 40) = false) := by show _ = _; simp; omega
  clear h40
  go_enter Tryz.func42, Tryz.ntmps42
  go_wp2_with fail
  refine (uY _ _ _ _ HF.out).mono ?_
  rintro e w1 ⟨rfl, hb⟩
  have B1 : Hid (Below w.heap.size w w1) := BV.out.trans (hb.mono BV.out.size)
  go_wp2
  go_ret
  exact ⟨ay HR.out.symm, B1.out⟩
 have HR : Hid (Sx.fB ⟨rs, [], []⟩ = Sx.az Sx.dI rs) := ww h40
 have HF : Hid (decide (rs.length ≤ 40) = true) := by show _ = _; simp; omega
 have H40 := hid h40
 clear h40
 go_enter Tryz.func42, Tryz.ntmps42
 go_wp2_with fail
 refine (uY _ _ _ _ HF.out).mono ?_
 rintro e w1 ⟨rfl, hb⟩
 have B1 : Hid (Below w.heap.size w w1) := BV.out.trans (hb.mono BV.out.size)
 have X1 := hid (ai XV.out hb)
 clear hb BV XV
 obtain ⟨B, hB⟩ : ∃ B, w.heap.size = B := ⟨_, rfl⟩
 go_upto_region 3 with fail
 rw [hB] at X1
 obtain ⟨⟨x0, _⟩, ⟨x1, _⟩, ⟨x2, _⟩, sx⟩ := cp3 X1.out
 have R1 : Hid (bY w1.drew (.slice ra rs.length rcap) rs) := au H.out (show Below w.heap.size w w1.drew from ⟨B1.out.os, B1.out.tape, B1.out.output, B1.out.size, B1.out.block⟩)
 have HB := hid hB
 clear hB
 refine wp_region_held_drew (S := fun w' => w'.cell? ⟨B, 0, none⟩ = some (.slice ra rs.length rcap) ∧ w'.cell? ⟨B, 1, none⟩ = some (.slice none 0 0) ∧ w'.cell? ⟨B, 2, none⟩ = some (.slice none 0 0)) (by kernel_rfl) ?_ (fun hHeld => ?_)
 ·go_keep
 refine tkA 0 rfl ?_
 refine tkA 1 rfl ?_
 refine tkA 3 rfl ?_
 refine tkA 4 rfl ?_
 refine tkA 6 rfl ?_
 refine tkA 7 rfl ?_
 refine rdH 2 rfl fun K hK => ?_
 go_simp
 refine (oM rs _ _ R1.out HS.out H40.out).mono ?_
 rintro e w2 ⟨rfl, hb2⟩
 have C2 := ai (show ak w1.drew B [.slice ra rs.length rcap, .slice none 0 0, .slice none 0 0] from X1.out) hb2
 have B2 : Hid (Below w.heap.size w w2) := B1.out.trans ((show Below w1.heap.size w1 w2 from ⟨hb2.os, hb2.tape, hb2.output, hb2.size, hb2.block⟩).mono B1.out.size)
 refine hK.out _ _ ⟨(aa C2 0 rfl).1, (aa C2 1 rfl).1, (aa C2 2 rfl).1⟩ (fun hHeld2 => ?_)
 clear hK K hHeld hb2
 try simp only [Act.put, j]
 refine rdH 5 rfl fun K hK => ?_
 go_simp
 refine (wY _ _).mono ?_
 rintro e w3 ⟨rfl, rfl⟩
 refine hK.out _ _ hHeld2 (fun hHeld3 => ?_)
 clear hK K hHeld2
 try simp only [Act.put, j]
 refine rdH 8 rfl fun K hK => ?_
 go_simp
 refine (wW _ _).mono ?_
 rintro e w4 ⟨rfl, rfl⟩
 refine hK.out _ _ hHeld3 (fun hHeld4 => ?_)
 clear hK K hHeld3
 try simp only [Act.put, j]
 refine rdH 9 rfl fun K hK => ?_
 go_simp
 have CN := aD w4 ([Sx.az Sx.dI rs, 0, 0].map (Value.int .i64)) 28
 have BN := hid (B2.out.alloc B2.out.size (.cells ([Sx.az Sx.dI rs, 0, 0].map (Value.int .i64)).toArray 28))
 have C5 := aM C2 (.cells ([Sx.az Sx.dI rs, 0, 0].map (Value.int .i64)).toArray 28)
 refine hK.out _ _ ⟨(aa C5 0 rfl).1, (aa C5 1 rfl).1, (aa C5 2 rfl).1⟩ (fun hHeld5 => ?_)
 clear hK K hHeld4
 try simp only [Act.put, j]
 refine rdH 10 rfl fun K hK => ?_
 go_simp
 refine (iW [Sx.az Sx.dI rs, 0, 0] w4.heap.size 3 _ CN (by simp)).mono ?_
 rintro e w6 ⟨rfl, rfl⟩
 refine hK.out _ _ hHeld5 (fun hHeld6 => ?_)
 clear hK K hHeld5
 try simp only [Act.put, j]
 refine rdH 11 rfl fun K hK => ?_
 go_simp
 refine hK.out _ _ hHeld6 (fun hHeld7 => ?_)
 clear hK K hHeld6
 try simp only [Act.put, j]
 refine wpAnyH_done (by kernel_rfl) ?_ _
 go_wp2
 go_ret
 rw [show Sx.fB ⟨rs, [], []⟩ = Sx.az id [Sx.az Sx.dI rs, 0, 0] by rw [HR.out, or3]]
 exact ⟨rfl, BN.out⟩
end
namespace Sx

structure Tn where
 stands : Int
 clock : Int
 save : Int
 letter : Tx.Bs
structure Tm where
 at_ : Int
 save : Int
 letter : Tx.Bs
def mo (r : Rl) (y : Int) : Tn := ⟨Cv.tgt y r.month r.kind r.wk r.n * 86400 + r.at_, r.clock, r.save, r.letter⟩
def many (r : Rl) : Nat := (r.to - r.frm + 1).toNat
def mr (r : Rl) : List Tn := (List.range (many r)).map fun (k : Nat) => mo r (r.frm + (k : Int))
def turnsOf (rs : List Rl) (name : Tx.Bs) : List Tn := (rs.filter fun r => r.name == name).flatMap mr
/- in order -/
def ins (t : Tn) : List Tn → List Tn
 | [] => [t]
 | u :: r => if t.stands < u.stands then t :: u :: r else u :: ins t r
def jy : List Tn → List Tn
 | [] => []
 | t :: r => ins t (jy r)
def dO (p : Int) : List Tn → Bool
 | [] => true
 | u :: r => decide (172800 ≤ u.stands - p) && dO u.stands r
def apart : List Tn → Bool
 | [] => true
 | t :: r => dO t.stands r
def rO (shift s : Int) (t : Tn) : Tm := ⟨(if t.clock = 3 then t.stands else t.stands - shift) - (if t.clock = 1 then s else 0), t.save, t.letter⟩
def gM (shift : Int) : Int → List Tn → List Tm
 | _, [] => []
 | s, t :: r => rO shift s t :: gM shift t.save r
def bM (rs : List Rl) (name : Tx.Bs) (shift : Int) : Int :=
 if fB ⟨rs, [], []⟩ ≠ 0 then fB ⟨rs, [], []⟩ else if inB shift (-64800) 64800 = false then 3
 else if (turnsOf rs name).isEmpty = true then 5 else if apart (jy (turnsOf rs name)) = false then 4 else if 1000 < (turnsOf rs name).length then 2 else 0
def times (rs : List Rl) (name : Tx.Bs) (shift : Int) : List Tm := if bM rs name shift = 0 then gM shift 0 (jy (turnsOf rs name)) else []

/- what is in order is so in one way alone, but for what stands alike -/
def je (l : List Tn) : Prop := l.Pairwise fun a b => a.stands ≤ b.stands
theorem vC (t : Tn) : ∀ l, (ins t l).Perm (t :: l)
 | [] => .refl _
 | u :: r => by
   unfold ins
   split
   ·exact .refl _
   ·exact ((vC t r).cons u).trans (.swap t u r)
theorem lY : ∀ l, (jy l).Perm l
 | [] => .refl _
 | t :: r => (vC t (jy r)).trans ((lY r).cons t)
theorem vE (t : Tn) : ∀ l, je l → je (ins t l)
 | [], _ => by simp [ins, je]
 | u :: r, h => by
   have h' := List.pairwise_cons.1 h
   unfold ins
   split
   ·rename_i q
    refine List.pairwise_cons.2 ⟨fun x hx => ?_, h⟩
    rcases List.mem_cons.1 hx with rfl | hx
    ·omega
    ·have := h'.1 x hx; omega
   ·rename_i q
    refine List.pairwise_cons.2 ⟨fun x hx => ?_, vE t r h'.2⟩
    rcases List.mem_cons.1 ((vC t r).mem_iff.1 hx) with rfl | hx
    ·omega
    ·exact h'.1 x hx
theorem qw : ∀ l, je (jy l)
 | [] => by simp [jy, je]
 | t :: r => vE t _ (qw r)
theorem BL {a b : List Tn} (h : a.Perm b) (ha : je a) (hb : je b) : a.map Tn.stands = b.map Tn.stands := by
 have hk : (a.map Tn.stands).Perm (b.map Tn.stands) := h.map _
 have pa : (a.map Tn.stands).Pairwise (· ≤ ·) := List.pairwise_map.2 ha
 have pb : (b.map Tn.stands).Pairwise (· ≤ ·) := List.pairwise_map.2 hb
 exact List.Perm.eq_of_pairwise (fun x y _ _ h1 h2 => Int.le_antisymm h1 h2) pa pb hk
theorem mQ : ∀ (a b : List Tn) (p : Int), a.map Tn.stands = b.map Tn.stands → dO p a = dO p b
 | [], [], _, _ => rfl
 | x :: a, y :: b, p, h => by
   simp at h
   simp only [dO, h.1]
   rw [mQ a b _ h.2]
 | [], y :: b, _, h => by simp at h
 | x :: a, [], _, h => by simp at h
theorem Cw {a b : List Tn} (h : a.map Tn.stands = b.map Tn.stands) : apart a = apart b := by
 match a, b, h with
 | [], [], _ => rfl
 | x :: a, y :: b, h =>
   simp at h
   show dO _ _ = dO _ _
   rw [h.1]; exact mQ a b _ h.2
 | [], y :: b, h => simp at h
 | x :: a, [], h => simp at h
theorem lJ : ∀ (l : List Tn) (p : Int), dO p l = true → ∀ x ∈ l, p < x.stands
 | [], _, _ => by simp
 | u :: r, p, h => by
   simp [dO] at h
   intro x hx
   rcases List.mem_cons.1 hx with rfl | hx
   ·omega
   ·have := lJ r _ h.2 x hx; omega
theorem pW : ∀ (l : List Tn) (p : Int), dO p l = true → l.Pairwise fun a b => a.stands < b.stands
 | [], _, _ => by simp
 | u :: r, p, h => by
   simp [dO] at h
   exact List.pairwise_cons.2 ⟨lJ r _ h.2, pW r _ h.2⟩
theorem Ag {l : List Tn} (h : apart l = true) : l.Pairwise fun a b => a.stands < b.stands := by
 match l, h with
 | [], _ => simp
 | u :: r, h => exact List.pairwise_cons.2 ⟨lJ r _ h, pW r _ h⟩
/- two lists of the same things, both with strictly rising keys, are one -/
theorem GZ {a b : List Tn} (h : a.Perm b) (ha : a.Pairwise fun x y => x.stands < y.stands) (hb : b.Pairwise fun x y => x.stands < y.stands) : a = b :=
 List.Perm.eq_of_pairwise (fun x y _ _ h1 h2 => absurd h1 (by omega)) ha hb h
theorem ordered {o ts : List Tn} (h : o.Perm ts) (hs : je o) : apart o = apart (jy ts) ∧ (apart o = true → o = jy ts) := by
 have hp : o.Perm (jy ts) := h.trans (lY ts).symm
 have hk := Cw (BL hp hs (qw ts))
 exact ⟨hk, fun q => GZ hp (Ag q) (Ag (hk ▸ q))⟩

/- times, one by one -/
theorem oW (shift : Int) : ∀ (l : List Tn) (s : Int), (gM shift s l).length = l.length
 | [], _ => rfl
 | t :: r, s => by simp [gM, oW shift r]
theorem Em {rs : List Rl} {name : Tx.Bs} (h : ∀ r ∈ rs, 0 ≤ r.save ∧ r.save ≤ 10800) : ∀ t ∈ turnsOf rs name, 0 ≤ t.save ∧ t.save ≤ 10800 := by
 intro t ht
 simp only [turnsOf, List.mem_flatMap, List.mem_filter, mr, List.mem_map] at ht
 obtain ⟨r, ⟨hr, _⟩, k, _, rfl⟩ := ht
 exact h r hr
end Sx
end Go.Proofs.YtkhlkohlccndgaaGreat
