/- Part of the proof: TkQ TkT TkU. -/
import Derived.Test.YtkhlkohlccndgaaGreatQz
import Derived.Test.YtkhlkohlccndgaaGreatQae
import Derived.Deep.Cut
import Derived.Deep.CutRange
set_option linter.unusedVariables false
set_option linter.unusedSimpArgs false
set_option maxRecDepth 100000
set_option maxHeartbeats 16000000
namespace Go.Proofs.YtkhlkohlccndgaaGreat
section
open Go.RowKit
attribute [local go_sem ↓] Go.wp_at_zero Go.wp_at_succ

namespace Sx
def di (s : Tx.Bs) : Fm :=
 if s.take 4 = oO then ⟨2, (wkO (s.drop 4)).getD 0, 0⟩
 else if sI s then ⟨if s[3]? = some 60 then 4 else 3, (wkO (s.take 3)).getD 0, (num 1 2 (s.drop 5)).getD 0⟩
 else ⟨1, 0, (num 1 2 s).getD 0⟩
theorem Iw {s : Tx.Bs} {f : Fm} (h : mI s = some f) : di s = f := by
 unfold mI at h; unfold di
 by_cases h1 : s.take 4 = oO
 ·rw [if_pos h1] at h ⊢
  cases hq : wkO (s.drop 4) with
  | none => rw [hq] at h; cases h
  | some k => rw [hq] at h; simpa using h
 ·rw [if_neg h1] at h ⊢
  by_cases h2 : sI s
  ·rw [if_pos h2] at h ⊢
   cases hq : wkO (s.take 3) with
   | none => rw [hq] at h; cases h
   | some k =>
     cases hn : num 1 2 (s.drop 5) with
     | none => rw [hq, hn] at h; cases h
     | some j => rw [hq, hn] at h; simpa using h
  ·rw [if_neg h2] at h ⊢
   cases hn : num 1 2 s with
   | none => rw [hn] at h; cases h
   | some j => rw [hn] at h; simpa using h
theorem Da {s : Tx.Bs} (h : s.take 4 = oO) : (mI s).isSome = (wkO (s.drop 4)).isSome := by
 rw [mI, if_pos h]; cases wkO (s.drop 4) <;> rfl
theorem FM {s : Tx.Bs} (h1 : s.take 4 ≠ oO) (h : sI s) : (mI s).isSome = ((wkO (s.take 3)).isSome && (num 1 2 (s.drop 5)).isSome) := by
 rw [mI, if_neg h1, if_pos h]; cases wkO (s.take 3) <;> cases num 1 2 (s.drop 5) <;> rfl
theorem FL {s : Tx.Bs} (h1 : s.take 4 ≠ oO) (h : ¬ sI s) : (mI s).isSome = (num 1 2 s).isSome := by
 rw [mI, if_neg h1, if_neg h]; cases num 1 2 s <;> rfl
end Sx
theorem nH {lim : Nat} (b : Nat) (o : Sx.O) (x : ByteArray) (l : Tx.Bs) (hx : x.data.toList = l) (w : World) (h : TkO w b lim o) (hl : l.length ≤ 24) :
  Calls Tryz.prog 209 #[.pointer (some ⟨b, 0, none⟩), .string x] w fun e w' =>
   e = .returned (.int .i64 ((Sx.wkO l).getD 0)) ∧ w.grownBy w' (some b) ∧ TkO w' b lim (Sx.keep (Sx.wkO l).isSome o) := by
 rw [iF hx]; exact zL b o l w h hl
theorem jT {lim : Nat} (b : Nat) (o : Sx.O) (x : ByteArray) (l : Tx.Bs) (hx : x.data.toList = l) (least most : Nat) (w : World) (h : TkO w b lim o) (hm : most ≤ 4) (hs : l.length ≤ 24) :
  Calls Tryz.prog 187 #[.pointer (some ⟨b, 0, none⟩), .string x, .int .i64 least, .int .i64 most] w fun e w' =>
   e = .returned (.int .i64 ((Sx.num least most l).getD 0)) ∧ w.grownBy w' (some b) ∧ TkO w' b lim (Sx.keep (Sx.num least most l).isSome o) := by
 rw [iF hx]; exact gD b o l least most w h hm hs
theorem qM {lim : Nat} (b : Nat) (o : Sx.O) (x : ByteArray) (l : Tx.Bs) (hx : x.data.toList = l) (w : World) (h : TkO w b lim o) (hs : l.length ≤ 24) :
  Calls Tryz.prog 186 #[.pointer (some ⟨b, 0, none⟩), .string x] w fun e w' =>
   e = .returned (.int .i64 (Sx.bL l)) ∧ w.grownBy w' (some b) ∧ TkO w' b lim (Sx.keep (Sx.dJ l).isSome o) := by
 rw [iF hx]; exact nI b o l w h hs
theorem dG {w w1 : World} {b : Nat} {x : Obj} (h : (w.alloc x).grownBy w1 (some b)) : w.grownBy w1 (some b) := aN (ng (ik _ _) _) h
theorem lT {w w2 : World} {x : Obj} {r : Option Nat} (h : (w.alloc x).drew.grownBy w2 r) : w.heap.size < w2.heap.size := by
 have := h.size
 have e : (w.alloc x).drew.heap.size = w.heap.size + 1 := by show (w.alloc x).heap.size = _; simp
 omega
theorem ED {w w2 : World} {x : Obj} {r : Option Nat} (h : (w.alloc x).grownBy w2 r) : w.heap.size < w2.heap.size := by
 have := h.size
 simp at this; omega
theorem lS {w w2 : World} {r : Option Nat} (h : w.drew.grownBy w2 r) : w.heap.size ≤ w2.heap.size := h.size
theorem gW {w : World} {b lim : Nat} {o : Sx.O} (h : TkO w b lim o) : ¬ w.heap.size = b := by have := wE h; omega
theorem bv {w w1 : World} {b : Nat} (h : w.grownBy w1 (some b)) {q o : Nat} (hq : w.heap.size ≤ q) {u : Value} : w.grownBy (w1.setCell ⟨q, o, none⟩ u) (some b) := bV h (.inr hq) u
theorem aU {w : World} {b lim : Nat} {s : Sx.O} (h : TkO w b lim s) {q o : Nat} (hq : lim ≤ q) {u : Value} : TkO (w.setCell ⟨q, o, none⟩ u) b lim s := eP h hq u
/- three numbers in a block -/
def mK (w : World) (X : Nat) (a b c : Int) : Prop :=
 w.cell? ⟨X, 0, none⟩ = some (.int .i64 a) ∧ w.cell? ⟨X, 1, none⟩ = some (.int .i64 b) ∧ w.cell? ⟨X, 2, none⟩ = some (.int .i64 c) ∧ w.frozen? ⟨X, 0, none⟩ = false ∧ w.frozen? ⟨X, 1, none⟩ = false ∧ w.frozen? ⟨X, 2, none⟩ = false
section
variable {w w1 : World} {X : Nat} {a b c : Int}
theorem pE (w : World) {t : TypeId} : mK (w.alloc (.cells #[.int .i64 a, .int .i64 b, .int .i64 c] t)) w.heap.size a b c := by
 refine ⟨?_, ?_, ?_, ?_, ?_, ?_⟩ <;> simp [go_sem]
theorem kY (w : World) {t : TypeId} : mK (w.alloc (.cells #[.int .i64 0, .int .i64 0, .int .i64 0] t)) w.heap.size 0 0 0 := pE w
theorem xU (h : mK w X a b c) : mK w.drew X a b c := h
theorem pz (h : mK w X a b c) (hk : w1.heap[X]? = w.heap[X]?) : mK w1 X a b c := by
 obtain ⟨a0, a1, a2, z0, z1, z2⟩ := h
 refine ⟨?_, ?_, ?_, ?_, ?_, ?_⟩
 ·rw [World.cell?_of_block (w := w) hk]; exact a0
 ·rw [World.cell?_of_block (w := w) hk]; exact a1
 ·rw [World.cell?_of_block (w := w) hk]; exact a2
 ·rw [World.frozen?_of_block (w := w) hk]; exact z0
 ·rw [World.frozen?_of_block (w := w) hk]; exact z1
 ·rw [World.frozen?_of_block (w := w) hk]; exact z2
theorem dQ {r : Nat} (h : mK w X a b c) (hg : w.grownBy w1 (some r)) (hX : X < w.heap.size) (hn : ¬ X = r) : mK w1 X a b c := pz h (hg.block X hX (by simpa using hn))
theorem uZ (h : mK w X a b c) {o : Obj} (hX : X < w.heap.size) : mK (w.alloc o) X a b c := pz h (Below.heap_alloc _ _ _ hX)
theorem fO (h : mK w X a b c) {q o : Nat} {u : Value} (hX : ¬ X = q) : mK (w.setCell ⟨q, o, none⟩ u) X a b c := pz h (Below.heap_setCell _ _ _ _ hX)
theorem qi {a' b' c' : Int} (h : mK w X a' b' c') (hX : X < w.heap.size) : mK (((w.setCell ⟨X, 0, none⟩ (.int .i64 a)).setCell ⟨X, 1, none⟩ (.int .i64 b)).setCell ⟨X, 2, none⟩ (.int .i64 c)) X a b c := by
 obtain ⟨a0, a1, a2, z0, z1, z2⟩ := h
 refine ⟨?_, ?_, ?_, ?_, ?_, ?_⟩ <;> simp [go_sem, a0, a1, a2, z0, z1, z2, hX]
end
theorem wk_bd (l : Tx.Bs) : 0 ≤ (Sx.wkO l).getD 0 ∧ (Sx.wkO l).getD 0 ≤ 100 := by
 have := JC l 21 0 Sx.nO (by decide)
 unfold Sx.wkO
 split
 ·simp
 ·simp; omega
theorem qm (x : ByteArray) (k : Nat) : (x.extract 0 k).data.toList = x.data.toList.take k := by rw [Lib.extract_data]; simp
theorem zX (x : ByteArray) (k : Nat) : (x.extract k x.size).data.toList = x.data.toList.drop k := by
 rw [Lib.extract_data, List.take_of_length_le (by simp)]
theorem vg (x : ByteArray) (k : Nat) (h : k < x.size) : x.data.toList[k]? = some x[k] := by
 rw [q4G (by simpa using h)]; rfl

theorem Iy {lim : Nat} (b : Nat) (o : Sx.O) (w : World) (h : TkO w b lim o) :
  Calls Tryz.prog 190 #[.pointer (some ⟨b, 0, none⟩)] w fun e w' =>
   e = .returned (.agg #[.int .i64 (Sx.di (Sx.nxS o)).kind, .int .i64 (Sx.di (Sx.nxS o)).wk, .int .i64 (Sx.di (Sx.nxS o)).n]) ∧ w.grownBy w' (some b) ∧ TkO w' b lim (Sx.keep (Sx.mI (Sx.nxS o)).isSome (Sx.nxO o)) := by
 have H := hid h
 have hlen := iq h
 obtain ⟨lt, le⟩ := nL h
 obtain ⟨l, hl⟩ : ∃ l, Sx.nxS o = l := ⟨_, rfl⟩
 obtain ⟨o1, ho1⟩ : ∃ o1, Sx.nxO o = o1 := ⟨_, rfl⟩
 have NX := hid (fun (w' : World) (h : TkO w' b lim o) => ed b o w' h)
 rw [hl, ho1] at NX
 rw [hl] at hlen ⊢
 rw [ho1]
 clear h hl ho1
 obtain ⟨s, hs⟩ : ∃ s : ByteArray, s.data.toList = l := ⟨⟨l.toArray⟩, by simp⟩
 have SV := hid (iF hs)
 have HSZ : Hid (s.size = l.length) := by show _ = _; rw [← hs]; simp
 have HSD := hid hs
 have hne : ¬ w.heap.size = b := by omega
 have hltw : b < w.heap.size := by omega
 clear hs
 by_cases h1 : l.take 4 = Sx.oO
 ·have h4 : (4 : Int) ≤ (s.size : Int) := by
   have := congrArg List.length h1
   have hsz := HSZ.out
   simp [Sx.oO] at this; omega
  have hq : ((s.extract 0 4).toList == [108, 97, 115, 116]) = true := by
   rw [Lib.toList_data, qm, HSD.out, h1]; rfl
  have FV : Hid (Sx.di l = ⟨2, (Sx.wkO (l.drop 4)).getD 0, 0⟩) := by show _ = _; rw [Sx.di, if_pos h1]
  have FO := hid (Sx.Da h1)
  have TD := hid (show (s.extract 4 s.size).data.toList = l.drop 4 by rw [zX, HSD.out])
  have hd4 : (l.drop 4).length ≤ 24 := by simp; omega
  clear h1
  go_enter Tryz.func190, Tryz.ntmps190
  go_wp2_with fail
  refine (NX.out _ (bH H.out _)).mono ?_
  rintro e w1 ⟨rfl, hg, ht⟩
  rw [← SV.out]
  have hz := hg.size
  simp at hz
  go_wp2_with fail
  refine (nH b o1 _ _ TD.out _ ht hd4).mono ?_
  rintro e w2 ⟨rfl, hg2, ht2⟩
  obtain ⟨hc, hf⟩ := fP (aN hg hg2)
  have hz2 := hg2.size
  have hz3 : w.heap.size < w2.heap.size := by omega
  go_wp2
  rw [FV.out, FO.out]
  refine bodyPost_ret (v := .agg #[.int .i64 2, .int .i64 ((Sx.wkO (l.drop 4)).getD 0), .int .i64 0]) (by simp [results, Tryz.results190, go_sem, hc, hz3, hne]) rfl ⟨rfl, ?_, ?_⟩
  ·exact bV (bV (bV (dG (aN hg hg2)) (.inr (Nat.le_refl _)) _) (.inr (Nat.le_refl _)) _) (.inr (Nat.le_refl _)) _
  ·exact eP (eP (eP ht2 le _) le _) le _
 have hnl := HSZ.out
 by_cases hC : Sx.sI l
 ·have FV : Hid (Sx.di l = ⟨if l[3]? = some 60 then 4 else 3, (Sx.wkO (l.take 3)).getD 0, (Sx.num 1 2 (l.drop 5)).getD 0⟩) := by show _ = _; rw [Sx.di, if_neg h1, if_pos hC]
  have FO := hid (Sx.FM h1 hC)
  have hq : ((s.extract 0 4).toList == [108, 97, 115, 116]) = false := by
   rw [Lib.toList_data, qm, HSD.out]; simpa [Sx.oO] using h1
  obtain ⟨c1, c2, c3⟩ := hC
  have h5 : 5 < s.size := by omega
  have hp : (5 : Int) < (s.size : Int) := by omega
  have hp3 : (3 : Int) ≤ (s.size : Int) := by omega
  have hp5 : (5 : Int) ≤ (s.size : Int) := by omega
  have hn3 : 3 ≤ s.size := by omega
  have hn5 : 5 ≤ s.size := by omega
  have hd3 : (l.take 3).length ≤ 24 := by simp; omega
  have hd5 : (l.drop 5).length ≤ 24 := by simp; omega
  clear hnl c1
  have g3 := vg s 3 (by omega)
  have g4 := vg s 4 (by omega)
  rw [HSD.out] at g3 g4
  have q4 : s[4] = 61 := by rw [c2] at g4; simpa using g4.symm
  have e4 : ((s[4].toNat : Int) == 61) = true := by rw [q4]; rfl
  have TD3 := hid (show (s.extract 0 3).data.toList = l.take 3 by rw [qm, HSD.out])
  have TD5 := hid (show (s.extract 5 s.size).data.toList = l.drop 5 by rw [zX, HSD.out])
  have wb := wk_bd (l.take 3)
  have G3 := hid g3
  have C3 := hid c3
  clear c2 q4 g3 g4 h1 c3
  by_cases c60 : s[3] = 60
  ·have e3 : ((s[3].toNat : Int) == 62) = false := by rw [c60]; rfl
   have e3' : ((s[3].toNat : Int) == 60) = true := by rw [c60]; rfl
   have K : Hid ((if l[3]? = some 60 then (4 : Int) else 3) = 4) := by show _ = _; rw [if_pos (by rw [G3.out, c60])]
   clear c60
   go_enter Tryz.func190, Tryz.ntmps190
   go_wp2_with fail
   refine (NX.out _ (bH H.out _)).mono ?_
   rintro e w1 ⟨rfl, hg, ht⟩
   rw [← SV.out]
   have hz := hg.size
   simp at hz
   have hw : IntKind.i64.wrap 3 = 3 := rfl
   have Q3 := hid (fun (o' : Sx.O) (w' : World) (h : TkO w' b lim o') => nH b o' _ _ TD3.out w' h hd3)
   have Q5 := hid (fun (o' : Sx.O) (w' : World) (h : TkO w' b lim o') => jT b o' _ _ TD5.out 1 2 w' h (by omega) hd5)
   go_upto_region 5 with fail
   go_cut [4] from 38 to 46 (fun s4 wx => ∃ X, s4 = .pointer (some ⟨X, 0, none⟩) ∧ w.heap.size ≤ X ∧ ¬ X = w.heap.size ∧ X < wx.heap.size ∧ Hid (mK wx X 3 ((Sx.wkO (l.take 3)).getD 0) ((Sx.num 1 2 (l.drop 5)).getD 0)) ∧ Hid (mK wx w.heap.size 0 0 0) ∧ w.heap.size < wx.heap.size ∧ Hid (w.grownBy wx (some b)) ∧ Hid (TkO wx b lim (Sx.keep ((Sx.wkO (l.take 3)).isSome && (Sx.num 1 2 (l.drop 5)).isSome) o1)))
   case first =>
    go_region_held3 (fun w' => True) (trivial)
     (first | (go_at_call 187; first | (refine (Q5.out o1 _ (fQ ht)).mono ?_; rintro e w2 ⟨rfl, hg2, ht2⟩; obtain ⟨hc2, hf2⟩ := fP hg2; have hz2 := lS hg2) | (refine (Q5.out o1 _ (fQ (bH ht _))).mono ?_; rintro e w2 ⟨rfl, hg2, ht2⟩; obtain ⟨hc2, hf2⟩ := fP hg2; have hz2 := lT hg2; have hn1 := gW ht) | (refine (Q5.out _ _ ht2).mono ?_; rintro e w3 ⟨rfl, hg3, ht3⟩; obtain ⟨hc3, hf3⟩ := fP hg3; have hz3 := q4N hz2 hg3.size; have hz33 := hg3.size; have hn3 := gW ht3) | (refine (Q5.out _ _ ht2).mono ?_; rintro e w3 ⟨rfl, hg3, ht3⟩; obtain ⟨hc3, hf3⟩ := fP hg3; have hz33 := hg3.size; have hn3 := gW ht3) | (refine (Q5.out _ _ (bH ht2 _)).mono ?_; rintro e w3 ⟨rfl, hg3, ht3⟩; obtain ⟨hc3, hf3⟩ := fP hg3; have hz3 := ED hg3; have hn2 := gW ht2)) | (go_at_call 209; first | (refine (Q3.out o1 _ (fQ ht)).mono ?_; rintro e w2 ⟨rfl, hg2, ht2⟩; obtain ⟨hc2, hf2⟩ := fP hg2; have hz2 := lS hg2) | (refine (Q3.out o1 _ (fQ (bH ht _))).mono ?_; rintro e w2 ⟨rfl, hg2, ht2⟩; obtain ⟨hc2, hf2⟩ := fP hg2; have hz2 := lT hg2; have hn1 := gW ht) | (refine (Q3.out _ _ ht2).mono ?_; rintro e w3 ⟨rfl, hg3, ht3⟩; obtain ⟨hc3, hf3⟩ := fP hg3; have hz3 := q4N hz2 hg3.size; have hz33 := hg3.size; have hn3 := gW ht3) | (refine (Q3.out _ _ ht2).mono ?_; rintro e w3 ⟨rfl, hg3, ht3⟩; obtain ⟨hc3, hf3⟩ := fP hg3; have hz33 := hg3.size; have hn3 := gW ht3) | (refine (Q3.out _ _ (bH ht2 _)).mono ?_; rintro e w3 ⟨rfl, hg3, ht3⟩; obtain ⟨hc3, hf3⟩ := fP hg3; have hz3 := ED hg3; have hn2 := gW ht2)))
    all_goals
     have G2 : Hid (w1.grownBy w2 (some b)) := by first | exact World.grownBy_drew hg2 | exact dG (World.grownBy_drew hg2)
     have G3 : Hid (w2.grownBy w3 (some b)) := by first | exact hg3 | exact dG hg3
     have GG := hid (dG (aN hg (aN G2.out G3.out)))
     have FR := hid (dQ (dQ (dQ (kY w) hg (by simp) hne) G2.out hz hne) G3.out (q4N hz G2.out.size) hne)
     have T3 : Hid (TkO w3 b lim (Sx.keep ((Sx.wkO (l.take 3)).isSome && (Sx.num 1 2 (l.drop 5)).isSome) o1)) := by
      have := ht3
      rw [Sx.kZ] at this
      exact Eh this (by cases (Sx.wkO (l.take 3)).isSome <;> cases (Sx.num 1 2 (l.drop 5)).isSome <;> rfl)
     have y2 := G2.out.size
     have y3 := G3.out.size
     go_wp2_with fail
     go_meet
     first
      | exact ⟨_, rfl, by omega, by omega, by simp, pE w3, uZ FR.out (by omega), by simp; omega, ng GG.out _, bH T3.out _⟩
      | exact ⟨_, rfl, by omega, by omega, by simp; omega, qi (dQ (kY w2) hg3 (by simp) (by assumption)) (by omega), fO (fO (fO FR.out (by omega)) (by omega)) (by omega), by simp; omega, bv (bv (bv GG.out (by omega)) (by omega)) (by omega), aU (aU (aU T3.out (by omega)) (by omega)) (by omega)⟩
      | exact ⟨_, rfl, by omega, by omega, by simp; omega, qi (dQ (dQ (xU (kY w1)) hg2 (by simp) (by assumption)) G3.out (by omega) (by assumption)) (by omega), fO (fO (fO FR.out (by omega)) (by omega)) (by omega), by simp; omega, bv (bv (bv GG.out (by omega)) (by omega)) (by omega), aU (aU (aU T3.out (by omega)) (by omega)) (by omega)⟩
   case rest =>
   obtain ⟨X, rfl, lX, nX, sX, FX, FR, sR, GG, TT⟩ := hcut
   obtain ⟨x0, x1, x2, y0, y1, y2⟩ := FX.out
   obtain ⟨r0, r1, r2, q0, q1, q2⟩ := FR.out
   have nX' : ¬ w.heap.size = X := fun q => nX q.symm
   clear hg ht
   go_wp2
   rw [FV.out, FO.out, K.out]
   refine bodyPost_ret (v := .agg #[.int .i64 4, .int .i64 ((Sx.wkO (l.take 3)).getD 0), .int .i64 ((Sx.num 1 2 (l.drop 5)).getD 0)]) (by simp [results, Tryz.results190, go_sem, *]) rfl ⟨rfl, ?_, ?_⟩
   ·repeat (refine bv ?_ (by omega))
    exact GG.out
   ·repeat (refine aU ?_ (by omega))
    exact TT.out
  ·have c62 : s[3] = 62 := by
    rcases C3.out with q | q
    ·rw [G3.out] at q; simpa using q
    ·rw [G3.out] at q; exact absurd (by simpa using q) c60
   have e3 : ((s[3].toNat : Int) == 62) = true := by rw [c62]; rfl
   have e3' : ((s[3].toNat : Int) == 60) = false := by rw [c62]; rfl
   have K : Hid ((if l[3]? = some 60 then (4 : Int) else 3) = 3) := by show _ = _; rw [if_neg (by rw [G3.out, c62]; decide)]
   clear c60 c62
   go_enter Tryz.func190, Tryz.ntmps190
   go_wp2_with fail
   refine (NX.out _ (bH H.out _)).mono ?_
   rintro e w1 ⟨rfl, hg, ht⟩
   rw [← SV.out]
   have hz := hg.size
   simp at hz
   have hw : IntKind.i64.wrap 3 = 3 := rfl
   have Q3 := hid (fun (o' : Sx.O) (w' : World) (h : TkO w' b lim o') => nH b o' _ _ TD3.out w' h hd3)
   have Q5 := hid (fun (o' : Sx.O) (w' : World) (h : TkO w' b lim o') => jT b o' _ _ TD5.out 1 2 w' h (by omega) hd5)
   go_upto_region 5 with fail
   go_cut [4] from 38 to 46 (fun s4 wx => ∃ X, s4 = .pointer (some ⟨X, 0, none⟩) ∧ w.heap.size ≤ X ∧ ¬ X = w.heap.size ∧ X < wx.heap.size ∧ Hid (mK wx X 3 ((Sx.wkO (l.take 3)).getD 0) ((Sx.num 1 2 (l.drop 5)).getD 0)) ∧ Hid (mK wx w.heap.size 0 0 0) ∧ w.heap.size < wx.heap.size ∧ Hid (w.grownBy wx (some b)) ∧ Hid (TkO wx b lim (Sx.keep ((Sx.wkO (l.take 3)).isSome && (Sx.num 1 2 (l.drop 5)).isSome) o1)))
   case first =>
    go_region_held3 (fun w' => True) (trivial)
     (first | (go_at_call 187; first | (refine (Q5.out o1 _ (fQ ht)).mono ?_; rintro e w2 ⟨rfl, hg2, ht2⟩; obtain ⟨hc2, hf2⟩ := fP hg2; have hz2 := lS hg2) | (refine (Q5.out o1 _ (fQ (bH ht _))).mono ?_; rintro e w2 ⟨rfl, hg2, ht2⟩; obtain ⟨hc2, hf2⟩ := fP hg2; have hz2 := lT hg2; have hn1 := gW ht) | (refine (Q5.out _ _ ht2).mono ?_; rintro e w3 ⟨rfl, hg3, ht3⟩; obtain ⟨hc3, hf3⟩ := fP hg3; have hz3 := q4N hz2 hg3.size; have hz33 := hg3.size; have hn3 := gW ht3) | (refine (Q5.out _ _ ht2).mono ?_; rintro e w3 ⟨rfl, hg3, ht3⟩; obtain ⟨hc3, hf3⟩ := fP hg3; have hz33 := hg3.size; have hn3 := gW ht3) | (refine (Q5.out _ _ (bH ht2 _)).mono ?_; rintro e w3 ⟨rfl, hg3, ht3⟩; obtain ⟨hc3, hf3⟩ := fP hg3; have hz3 := ED hg3; have hn2 := gW ht2)) | (go_at_call 209; first | (refine (Q3.out o1 _ (fQ ht)).mono ?_; rintro e w2 ⟨rfl, hg2, ht2⟩; obtain ⟨hc2, hf2⟩ := fP hg2; have hz2 := lS hg2) | (refine (Q3.out o1 _ (fQ (bH ht _))).mono ?_; rintro e w2 ⟨rfl, hg2, ht2⟩; obtain ⟨hc2, hf2⟩ := fP hg2; have hz2 := lT hg2; have hn1 := gW ht) | (refine (Q3.out _ _ ht2).mono ?_; rintro e w3 ⟨rfl, hg3, ht3⟩; obtain ⟨hc3, hf3⟩ := fP hg3; have hz3 := q4N hz2 hg3.size; have hz33 := hg3.size; have hn3 := gW ht3) | (refine (Q3.out _ _ ht2).mono ?_; rintro e w3 ⟨rfl, hg3, ht3⟩; obtain ⟨hc3, hf3⟩ := fP hg3; have hz33 := hg3.size; have hn3 := gW ht3) | (refine (Q3.out _ _ (bH ht2 _)).mono ?_; rintro e w3 ⟨rfl, hg3, ht3⟩; obtain ⟨hc3, hf3⟩ := fP hg3; have hz3 := ED hg3; have hn2 := gW ht2)))
    all_goals
     have G2 : Hid (w1.grownBy w2 (some b)) := by first | exact World.grownBy_drew hg2 | exact dG (World.grownBy_drew hg2)
     have G3 : Hid (w2.grownBy w3 (some b)) := by first | exact hg3 | exact dG hg3
     have GG := hid (dG (aN hg (aN G2.out G3.out)))
     have FR := hid (dQ (dQ (dQ (kY w) hg (by simp) hne) G2.out hz hne) G3.out (q4N hz G2.out.size) hne)
     have T3 : Hid (TkO w3 b lim (Sx.keep ((Sx.wkO (l.take 3)).isSome && (Sx.num 1 2 (l.drop 5)).isSome) o1)) := by
      have := ht3
      rw [Sx.kZ] at this
      exact Eh this (by cases (Sx.wkO (l.take 3)).isSome <;> cases (Sx.num 1 2 (l.drop 5)).isSome <;> rfl)
     have y2 := G2.out.size
     have y3 := G3.out.size
     go_wp2_with fail
     go_meet
     first
      | exact ⟨_, rfl, by omega, by omega, by simp, pE w3, uZ FR.out (by omega), by simp; omega, ng GG.out _, bH T3.out _⟩
      | exact ⟨_, rfl, by omega, by omega, by simp; omega, qi (dQ (kY w2) hg3 (by simp) (by assumption)) (by omega), fO (fO (fO FR.out (by omega)) (by omega)) (by omega), by simp; omega, bv (bv (bv GG.out (by omega)) (by omega)) (by omega), aU (aU (aU T3.out (by omega)) (by omega)) (by omega)⟩
      | exact ⟨_, rfl, by omega, by omega, by simp; omega, qi (dQ (dQ (xU (kY w1)) hg2 (by simp) (by assumption)) G3.out (by omega) (by assumption)) (by omega), fO (fO (fO FR.out (by omega)) (by omega)) (by omega), by simp; omega, bv (bv (bv GG.out (by omega)) (by omega)) (by omega), aU (aU (aU T3.out (by omega)) (by omega)) (by omega)⟩
   case rest =>
   obtain ⟨X, rfl, lX, nX, sX, FX, FR, sR, GG, TT⟩ := hcut
   obtain ⟨x0, x1, x2, y0, y1, y2⟩ := FX.out
   obtain ⟨r0, r1, r2, q0, q1, q2⟩ := FR.out
   have nX' : ¬ w.heap.size = X := fun q => nX q.symm
   clear hg ht
   go_wp2
   rw [FV.out, FO.out, K.out]
   refine bodyPost_ret (v := .agg #[.int .i64 3, .int .i64 ((Sx.wkO (l.take 3)).getD 0), .int .i64 ((Sx.num 1 2 (l.drop 5)).getD 0)]) (by simp [results, Tryz.results190, go_sem, *]) rfl ⟨rfl, ?_, ?_⟩
   ·repeat (refine bv ?_ (by omega))
    exact GG.out
   ·repeat (refine aU ?_ (by omega))
    exact TT.out
 have FV : Hid (Sx.di l = ⟨1, 0, (Sx.num 1 2 l).getD 0⟩) := by show _ = _; rw [Sx.di, if_neg h1, if_neg hC]
 have FO := hid (Sx.FL h1 hC)
 by_cases h4 : s.size < 4
 ·clear hnl hC h1
  go_enter Tryz.func190, Tryz.ntmps190
  go_wp2_with fail
  refine (NX.out _ (bH H.out _)).mono ?_
  rintro e w1 ⟨rfl, hg, ht⟩
  rw [← SV.out]
  have hz := hg.size
  simp at hz
  go_wp2_with fail
  refine (jT b o1 s l HSD.out 1 2 _ ht (by omega) hlen).mono ?_
  rintro e w2 ⟨rfl, hg2, ht2⟩
  obtain ⟨hc, hf⟩ := fP (aN hg hg2)
  have hz2 := hg2.size
  have hz3 : w.heap.size < w2.heap.size := by omega
  go_wp2
  rw [FV.out, FO.out]
  refine bodyPost_ret (v := .agg #[.int .i64 1, .int .i64 0, .int .i64 ((Sx.num 1 2 l).getD 0)]) (by simp [results, Tryz.results190, go_sem, hc, hz3, hne]) rfl ⟨rfl, ?_, ?_⟩
  ·exact bV (bV (bV (dG (aN hg hg2)) (.inr (Nat.le_refl _)) _) (.inr (Nat.le_refl _)) _) (.inr (Nat.le_refl _)) _
  ·exact eP (eP (eP ht2 le _) le _) le _
 have hq : ((s.extract 0 4).toList == [108, 97, 115, 116]) = false := by
  rw [Lib.toList_data, qm, HSD.out]; simpa [Sx.oO] using h1
 have h4' : (4 : Int) ≤ (s.size : Int) := by omega
 by_cases h5 : s.size ≤ 5
 ·clear hnl hC h1 h4
  go_enter Tryz.func190, Tryz.ntmps190
  go_wp2_with fail
  refine (NX.out _ (bH H.out _)).mono ?_
  rintro e w1 ⟨rfl, hg, ht⟩
  rw [← SV.out]
  have hz := hg.size
  simp at hz
  go_wp2_with fail
  refine (jT b o1 s l HSD.out 1 2 _ ht (by omega) hlen).mono ?_
  rintro e w2 ⟨rfl, hg2, ht2⟩
  obtain ⟨hc, hf⟩ := fP (aN hg hg2)
  have hz2 := hg2.size
  have hz3 : w.heap.size < w2.heap.size := by omega
  go_wp2
  rw [FV.out, FO.out]
  refine bodyPost_ret (v := .agg #[.int .i64 1, .int .i64 0, .int .i64 ((Sx.num 1 2 l).getD 0)]) (by simp [results, Tryz.results190, go_sem, hc, hz3, hne]) rfl ⟨rfl, ?_, ?_⟩
  ·exact bV (bV (bV (dG (aN hg hg2)) (.inr (Nat.le_refl _)) _) (.inr (Nat.le_refl _)) _) (.inr (Nat.le_refl _)) _
  ·exact eP (eP (eP ht2 le _) le _) le _
 have h5' : (5 : Int) < (s.size : Int) := by omega
 have hl5 : 5 < l.length := by omega
 clear hnl
 have g3 := vg s 3 (by omega)
 have g4 := vg s 4 (by omega)
 rw [HSD.out] at g3 g4
 by_cases q4 : s[4] = 61
 ·have e4 : ((s[4].toNat : Int) == 61) = true := by rw [q4]; rfl
  have n62 : s[3] ≠ 62 := by intro q; exact hC ⟨hl5, by rw [g4, q4], .inl (by rw [g3, q])⟩
  have n60 : s[3] ≠ 60 := by intro q; exact hC ⟨hl5, by rw [g4, q4], .inr (by rw [g3, q])⟩
  have e3 : ((s[3].toNat : Int) == 62) = false := by have := gH s[3] 62; simp at this; simp [this, n62]
  have e3' : ((s[3].toNat : Int) == 60) = false := by have := gH s[3] 60; simp at this; simp [this, n60]
  clear hC q4 n62 n60 g3 g4 h1
  go_enter Tryz.func190, Tryz.ntmps190
  go_wp2_with fail
  refine (NX.out _ (bH H.out _)).mono ?_
  rintro e w1 ⟨rfl, hg, ht⟩
  rw [← SV.out]
  have hz := hg.size
  simp at hz
  go_wp2_with fail
  refine (jT b o1 s l HSD.out 1 2 _ ht (by omega) hlen).mono ?_
  rintro e w2 ⟨rfl, hg2, ht2⟩
  obtain ⟨hc, hf⟩ := fP (aN hg hg2)
  have hz2 := hg2.size
  have hz3 : w.heap.size < w2.heap.size := by omega
  go_wp2
  rw [FV.out, FO.out]
  refine bodyPost_ret (v := .agg #[.int .i64 1, .int .i64 0, .int .i64 ((Sx.num 1 2 l).getD 0)]) (by simp [results, Tryz.results190, go_sem, hc, hz3, hne]) rfl ⟨rfl, ?_, ?_⟩
  ·exact bV (bV (bV (dG (aN hg hg2)) (.inr (Nat.le_refl _)) _) (.inr (Nat.le_refl _)) _) (.inr (Nat.le_refl _)) _
  ·exact eP (eP (eP ht2 le _) le _) le _
 ·have e4 : ((s[4].toNat : Int) == 61) = false := by have := gH s[4] 61; simp at this; simp [this, q4]
  clear hC q4 g3 g4 h1
  go_enter Tryz.func190, Tryz.ntmps190
  go_wp2_with fail
  refine (NX.out _ (bH H.out _)).mono ?_
  rintro e w1 ⟨rfl, hg, ht⟩
  rw [← SV.out]
  have hz := hg.size
  simp at hz
  go_wp2_with fail
  refine (jT b o1 s l HSD.out 1 2 _ ht (by omega) hlen).mono ?_
  rintro e w2 ⟨rfl, hg2, ht2⟩
  obtain ⟨hc, hf⟩ := fP (aN hg hg2)
  have hz2 := hg2.size
  have hz3 : w.heap.size < w2.heap.size := by omega
  go_wp2
  rw [FV.out, FO.out]
  refine bodyPost_ret (v := .agg #[.int .i64 1, .int .i64 0, .int .i64 ((Sx.num 1 2 l).getD 0)]) (by simp [results, Tryz.results190, go_sem, hc, hz3, hne]) rfl ⟨rfl, ?_, ?_⟩
  ·exact bV (bV (bV (dG (aN hg hg2)) (.inr (Nat.le_refl _)) _) (.inr (Nat.le_refl _)) _) (.inr (Nat.le_refl _)) _
  ·exact eP (eP (eP ht2 le _) le _) le _
end
section
open Go.RowKit

namespace Sx
def bK (none_ : Int) (s : Tx.Bs) : Int × Int :=
 match s.getLast? with
 | none => (0, none_)
 | some c => if fZ c = true then (bL s, none_) else (bL s.dropLast, nk none_ c)
theorem xK {a : Int} {s : Tx.Bs} {p : Int × Int} (h : iC a s = some p) : bK a s = p := by
 unfold iC at h; unfold bK
 cases hq : s.getLast? with
 | none => rw [hq] at h; cases h
 | some c =>
   rw [hq] at h
   simp only at h ⊢
   split
   ·rename_i q
    rw [if_pos q] at h
    cases hs : dJ s with
    | none => rw [hs] at h; cases h
    | some n => rw [hs] at h; rw [lu hs]; simpa using h
   ·rename_i q
    rw [if_neg q] at h
    split at h
    ·cases hs : dJ s.dropLast with
     | none => rw [hs] at h; cases h
     | some n => rw [hs] at h; rw [lu hs]; simpa using h
    ·cases h
theorem Fy {a : Int} {s : Tx.Bs} {c : UInt8} (h : s.getLast? = some c) (hd : fZ c = true) : bK a s = (bL s, a) ∧ (iC a s).isSome = (dJ s).isSome := by
 unfold bK iC
 rw [h]; simp only [hd, if_true]
 cases dJ s <;> simp
theorem FB {a : Int} {s : Tx.Bs} {c : UInt8} (h : s.getLast? = some c) (hd : fZ c = false) (hc : c = 117 ∨ c = 115 ∨ c = 119) : bK a s = (bL s.dropLast, nk a c) ∧ (iC a s).isSome = (dJ s.dropLast).isSome := by
 unfold bK iC
 rw [h]; simp only [hd, hc, if_true]
 cases dJ s.dropLast <;> simp
theorem H8 {a : Int} {s : Tx.Bs} {c : UInt8} (h : s.getLast? = some c) (hd : fZ c = false) (hc : ¬ (c = 117 ∨ c = 115 ∨ c = 119)) : bK a s = (bL s.dropLast, a) ∧ (iC a s).isSome = false := by
 unfold bK iC
 rw [h]; simp only [hd, hc]
 simp only [not_or] at hc
 simp [nk, hc.1, hc.2.1, hc.2.2]
theorem Fz {a : Int} {s : Tx.Bs} (h : s = []) : bK a s = (bL s, a) ∧ (iC a s).isSome = (dJ s).isSome := by
 subst h; exact ⟨rfl, rfl⟩
/- the kind behind so many looks -/
def kk (a : Int) (c : UInt8) (j : Nat) : Int := if c = 117 ∧ 3 ≤ j then 3 else if c = 115 ∧ 2 ≤ j then 2 else if c = 119 ∧ 1 ≤ j then 1 else a
theorem zq (a : Int) (c : UInt8) (j : Nat) (k : UInt8) (hj : j = 0 ∧ k = 119 ∨ j = 1 ∧ k = 115 ∨ j = 2 ∧ k = 117) : kk a c (j + 1) = if c = k then ((j + 1 : Nat) : Int) else kk a c j := by
 unfold kk
 rcases hj with ⟨rfl, rfl⟩ | ⟨rfl, rfl⟩ | ⟨rfl, rfl⟩
 all_goals
  by_cases h1 : c = 117 <;> by_cases h2 : c = 115 <;> by_cases h3 : c = 119 <;> simp_all
theorem I6 (a : Int) (c : UInt8) (j : Nat) (ha : a = 1 ∨ a = 2) : 0 ≤ kk a c j ∧ kk a c j ≤ 3 := by
 unfold kk; (repeat' split) <;> omega
theorem Lh (a : Int) (c : UInt8) : kk a c 3 = nk a c := by
 unfold kk nk; simp
end Sx

theorem si {lim : Nat} (b : Nat) (o : Sx.O) (a : Int) (w : World) (h : TkO w b lim o) (ha : a = 1 ∨ a = 2) :
  Calls Tryz.prog 189 #[.pointer (some ⟨b, 0, none⟩), .int .i64 a] w fun e w' =>
   e = .returned (.tuple #[.int .i64 (Sx.bK a (Sx.nxS o)).1, .int .i64 (Sx.bK a (Sx.nxS o)).2]) ∧ w.grownBy w' (some b) ∧ TkO w' b lim (Sx.keep (Sx.iC a (Sx.nxS o)).isSome (Sx.nxO o)) := by
 have H := hid h
 have hlen := iq h
 obtain ⟨lt, le⟩ := nL h
 obtain ⟨l, hl⟩ : ∃ l, Sx.nxS o = l := ⟨_, rfl⟩
 obtain ⟨o1, ho1⟩ : ∃ o1, Sx.nxO o = o1 := ⟨_, rfl⟩
 have NX := hid (ed b o w h)
 rw [hl, ho1] at NX
 rw [hl] at hlen ⊢
 rw [ho1]
 clear h hl ho1
 obtain ⟨s, hs⟩ : ∃ s : ByteArray, s.data.toList = l := ⟨⟨l.toArray⟩, by simp⟩
 have SV := hid (iF hs)
 have hsz : s.size = l.length := by rw [← hs]; simp
 have HSD := hid hs
 have hE : s.toList.isEmpty = decide (s.size = 0) := lV s
 clear hs
 by_cases h0 : s.size = 0
 ·have hl0 : l = [] := List.length_eq_zero_iff.1 (by omega)
  have C := hid (Sx.Fz (a := a) hl0)
  rw [h0] at hE
  simp at hE
  clear hsz h0 hl0
  go_enter Tryz.func189, Tryz.ntmps189
  go_wp2_with fail
  refine NX.out.mono ?_
  rintro e w1 ⟨rfl, hg, ht⟩
  rw [← SV.out]
  go_wp2_with fail
  refine (qM b o1 s l HSD.out _ ht hlen).mono ?_
  rintro e w2 ⟨rfl, hg2, ht2⟩
  go_wp2
  go_ret2
  rw [C.out.1, C.out.2]
  exact ⟨rfl, aN hg hg2, ht2⟩
 obtain ⟨n, hn⟩ : ∃ n, s.size = n + 1 := ⟨s.size - 1, by omega⟩
 obtain ⟨c, hc⟩ : ∃ c, s[n] = c := ⟨_, rfl⟩
 have HLst : Hid (l.getLast? = some c) := by
  show _ = _
  rw [List.getLast?_eq_getElem?, ← HSD.out]
  have := vg s n (by omega)
  rw [hc] at this
  rw [kC, hn]; simpa using this
 have TD := hid (show (s.extract 0 n).data.toList = l.dropLast by rw [qm, HSD.out, List.dropLast_eq_take, show l.length - 1 = n by omega])
 have hd4 : l.dropLast.length ≤ 24 := by simp; omega
 have hE' : s.toList.isEmpty = false := by rw [hE, hn]; simp
 have hn24 : n ≤ 23 := by omega
 have HN := hid hn
 clear hsz h0 hE
 have t1 : Hid (∀ (k : UInt8) (b : Bool), (c == k) = b → ((c.toNat : Int) == (k.toNat : Int)) = b) := by intro k b q; rw [gH, q]
 have hT1 : (⟨#[63, 119, 115, 117]⟩ : ByteArray)[1].toNat = 119 := rfl
 have hT2 : (⟨#[63, 119, 115, 117]⟩ : ByteArray)[2].toNat = 115 := rfl
 have hT3 : (⟨#[63, 119, 115, 117]⟩ : ByteArray)[3].toNat = 117 := rfl
 go_enter Tryz.func189, Tryz.ntmps189
 go_wp2_with fail
 refine NX.out.mono ?_
 rintro e w1 ⟨rfl, hg, ht⟩
 rw [← SV.out]
 have HT := hid ht
 have HG := hid hg
 clear hg ht
 go_wp2_with fail
 go_loopw [7, 8] (fun x y wr => ∃ k : Nat, k ≤ 3 ∧ y = .int .i64 ((k + 1 : Nat) : Int) ∧ x = .int .i64 (Sx.kk a c k) ∧ Below w1.heap.size w1 wr) (fun _ y _ => 5 - (intOf y).toNat)
 case atStart => exact ⟨0, by omega, rfl, by simp [Sx.kk], q4B _ _⟩
 case round =>
  obtain ⟨k, hk, rfl, rfl, hb⟩ := hrel
  match k, hk with
  | 0, _ =>
    have ST := hid (Sx.zq a c 0 119 (by simp))
    have kb := Sx.I6 a c 0 ha
    obtain ⟨K, hK⟩ : ∃ K, Sx.kk a c 0 = K := ⟨_, rfl⟩
    rw [hK] at kb ST ⊢
    obtain ⟨kb1, kb2⟩ := kb
    clear hK ha
    cases hq : (c == 119)
    ·have e1 := t1.out _ _ hq
     have e2 : ((c.toNat : Int) == 119) = false := e1
     have HR : Hid (K = Sx.kk a c 1) := by show _ = _; rw [ST.out, if_neg (by simpa using hq)]
     clear e1 hq
     go_wp2_with fail
     go_quiet (fail)
     go_wp2
     go_roundw
     case rel => exact ⟨1, by omega, by go_num, by rw [HR.out], below_drewN hb _⟩
     case measure => simp [intOf]
    ·have e1 := t1.out _ _ hq
     have e2 : ((c.toNat : Int) == 119) = true := e1
     have HR : Hid ((1 : Int) = Sx.kk a c 1) := by show _ = _; rw [ST.out, if_pos (by simpa using hq)]; rfl
     clear e1 hq
     go_wp2_with fail
     go_quiet (fail)
     go_wp2
     go_roundw
     case rel => exact ⟨1, by omega, by go_num, by rw [← HR.out]; rfl, below_drewN hb _⟩
     case measure => simp [intOf]
  | 1, _ =>
    have ST := hid (Sx.zq a c 1 115 (by simp))
    have kb := Sx.I6 a c 1 ha
    obtain ⟨K, hK⟩ : ∃ K, Sx.kk a c 1 = K := ⟨_, rfl⟩
    rw [hK] at kb ST ⊢
    obtain ⟨kb1, kb2⟩ := kb
    clear hK ha
    cases hq : (c == 115)
    ·have e1 := t1.out _ _ hq
     have e2 : ((c.toNat : Int) == 115) = false := e1
     have HR : Hid (K = Sx.kk a c 2) := by show _ = _; rw [ST.out, if_neg (by simpa using hq)]
     clear e1 hq
     go_wp2_with fail
     go_quiet (fail)
     go_wp2
     go_roundw
     case rel => exact ⟨2, by omega, by go_num, by rw [HR.out], below_drewN hb _⟩
     case measure => simp [intOf]
    ·have e1 := t1.out _ _ hq
     have e2 : ((c.toNat : Int) == 115) = true := e1
     have HR : Hid ((2 : Int) = Sx.kk a c 2) := by show _ = _; rw [ST.out, if_pos (by simpa using hq)]; rfl
     clear e1 hq
     go_wp2_with fail
     go_quiet (fail)
     go_wp2
     go_roundw
     case rel => exact ⟨2, by omega, by go_num, by rw [← HR.out]; rfl, below_drewN hb _⟩
     case measure => simp [intOf]
  | 2, _ =>
    have ST := hid (Sx.zq a c 2 117 (by simp))
    have kb := Sx.I6 a c 2 ha
    obtain ⟨K, hK⟩ : ∃ K, Sx.kk a c 2 = K := ⟨_, rfl⟩
    rw [hK] at kb ST ⊢
    obtain ⟨kb1, kb2⟩ := kb
    clear hK ha
    cases hq : (c == 117)
    ·have e1 := t1.out _ _ hq
     have e2 : ((c.toNat : Int) == 117) = false := e1
     have HR : Hid (K = Sx.kk a c 3) := by show _ = _; rw [ST.out, if_neg (by simpa using hq)]
     clear e1 hq
     go_wp2_with fail
     go_quiet (fail)
     go_wp2
     go_roundw
     case rel => exact ⟨3, by omega, by go_num, by rw [HR.out], below_drewN hb _⟩
     case measure => simp [intOf]
    ·have e1 := t1.out _ _ hq
     have e2 : ((c.toNat : Int) == 117) = true := e1
     have HR : Hid ((3 : Int) = Sx.kk a c 3) := by show _ = _; rw [ST.out, if_pos (by simpa using hq)]; rfl
     clear e1 hq
     go_wp2_with fail
     go_quiet (fail)
     go_wp2
     go_roundw
     case rel => exact ⟨3, by omega, by go_num, by rw [← HR.out]; rfl, below_drewN hb _⟩
     case measure => simp [intOf]
  | 3, _ =>
    rw [Sx.Lh]
    have HT2 := hid (yE HT.out hb)
    have HG2 := hid (IA HG.out hb)
    have DG : Hid (((48 : Int) ≤ (c.toNat : Int) ∧ (c.toNat : Int) ≤ 57) ↔ Sx.fZ c = true) := by show _ ↔ _; rw [CP]; simp
    cases hd : Sx.fZ c
    case true =>
     have C := hid (Sx.Fy (a := a) HLst.out hd)
     have HK : Hid (Sx.nk a c = a) := by
      have q := DG.out.2 hd
      show _ = _; unfold Sx.nk
      rw [if_neg (by rintro rfl; simp at q), if_neg (by rintro rfl; simp at q), if_neg (by rintro rfl; simp at q)]
     have HD := hid hd
     clear hd DG
     rw [HK.out]
     go_wp2_with (go_at_call 166; refine (bZ _ _ HD.out).mono ?_; rintro e w3 ⟨rfl, rfl⟩)
     refine (qM b o1 s l HSD.out _ HT2.out hlen).mono ?_
     rintro e w2 ⟨rfl, hg2, ht2⟩
     go_wp2
     go_ret2
     rw [C.out.1, C.out.2]
     exact ⟨rfl, aN HG2.out hg2, ht2⟩
    case false =>
     have HD := hid hd
     by_cases hw : c = 117 ∨ c = 115 ∨ c = 119
     ·have C := hid (Sx.FB (a := a) HLst.out hd hw)
      clear hd DG
      have key : ∃ (K v : Int), Hid (Sx.nk a c = K) ∧ (K = 3 ∧ v = 117 ∨ K = 2 ∧ v = 115 ∨ K = 1 ∧ v = 119) ∧ ((c.toNat : Int) != v) = false := by
       rcases hw with rfl | rfl | rfl
       ·exact ⟨3, 117, rfl, by simp, rfl⟩
       ·exact ⟨2, 115, rfl, by simp, rfl⟩
       ·exact ⟨1, 119, rfl, by simp, rfl⟩
      obtain ⟨K, v, HK, hKv, hne⟩ := key
      clear hw
      rw [HK.out] at C ⊢
      rcases hKv with ⟨rfl, rfl⟩ | ⟨rfl, rfl⟩ | ⟨rfl, rfl⟩
      all_goals
       go_wp2_with (go_at_call 166; refine (bZ _ _ HD.out).mono ?_; rintro e w3 ⟨rfl, rfl⟩)
       go_quiet (fail)
       go_wp2_with fail
       refine (qM b o1 _ _ TD.out _ (rQ HT2.out _) hd4).mono ?_
       rintro e w2 ⟨rfl, hg2, ht2⟩
       go_wp2
       go_ret2
       rw [C.out.1, C.out.2]
       exact ⟨rfl, aN (AP HG2.out _) hg2, ht2⟩
     ·have C := hid (Sx.H8 (a := a) HLst.out hd hw)
      have HK : Hid (Sx.nk a c = a) := by
       simp only [not_or] at hw
       show _ = _; unfold Sx.nk; rw [if_neg hw.1, if_neg hw.2.1, if_neg hw.2.2]
      have n1 : ((c.toNat : Int) != 119) = true := kN (k := 119) (b := false) (by simp; intro q; exact hw (.inr (.inr q)))
      have n2 : ((c.toNat : Int) != 115) = true := kN (k := 115) (b := false) (by simp; intro q; exact hw (.inr (.inl q)))
      clear hd DG hw
      rw [HK.out]
      rcases ha with rfl | rfl
      all_goals
       go_wp2_with (go_at_call 166; refine (bZ _ _ HD.out).mono ?_; rintro e w3 ⟨rfl, rfl⟩)
       go_quiet (fail)
       have HT3 := hid (rQ HT2.out nq)
       obtain ⟨x0, bad, c0, c1, z0, z1, lt1⟩ := eB HT3.out
       go_wp2_with fail
       refine (qM b none _ _ TD.out _ (fo HT3.out) hd4).mono ?_
       rintro e w2 ⟨rfl, hg2, ht2⟩
       go_wp2
       go_ret2
       rw [C.out.1, C.out.2]
       rw [Sx.dC] at ht2
       exact ⟨rfl, aN (bV (AP HG2.out _) (.inl rfl) _) hg2, ht2⟩
end
section
open Go.RowKit

namespace Sx
/- a field is taken, and must be as is asked -/
def stp (g : Tx.Bs → Bool) (o : O) : O := keep (g (nxS o)) (nxO o)
theorem bB (g : Tx.Bs → Bool) : stp g none = none := by simp [stp, nxO, dC]
theorem mi (g : Tx.Bs → Bool) : stp g (some []) = none := by simp [stp, nxO, dC]
theorem bE (g : Tx.Bs → Bool) (f : Tx.Bs) (r : List Tx.Bs) : stp g (some (f :: r)) = if g f = true then some r else none := rfl
def j4 (a b : Nat) (s : Tx.Bs) : Bool := (num a b s).isSome
def gTo (s : Tx.Bs) : Bool := decide (s = only) || decide (s = Ba) || (num 4 4 s).isSome
def gz (s : Tx.Bs) : Bool := (dA s).isSome
def sJ (s : Tx.Bs) : Bool := (mI s).isSome
def j3 (a : Int) (s : Tx.Bs) : Bool := (iC a s).isSome
def xW (s : Tx.Bs) : Bool := (dJ s).isSome
def kK (s : Tx.Bs) : Bool := (jL s).isSome
def toV (frm : Int) (s : Tx.Bs) : Int := if s = only then frm else if s = Ba then 2100 else (num 4 4 s).getD 0
def il (s : Tx.Bs) : Tx.Bs := if s = [45] then [] else s
def r1 (o : O) : O := stp bF o
def r2 (o : O) : O := stp (j4 4 4) (r1 o)
def r3 (o : O) : O := stp gTo (r2 o)
def r4 (o : O) : O := stp gz (r3 o)
def r5 (o : O) : O := stp sJ (r4 o)
def r6 (o : O) : O := stp (j3 1) (r5 o)
def r7 (o : O) : O := stp xW (r6 o)
def r8 (o : O) : O := stp kK (r7 o)
def tF (o : O) : Rl :=
 ⟨nxS o, (num 4 4 (nxS (r1 o))).getD 0, toV ((num 4 4 (nxS (r1 o))).getD 0) (nxS (r2 o)), (dA (nxS (r3 o))).getD 0, (di (nxS (r4 o))).kind, (di (nxS (r4 o))).wk, (di (nxS (r4 o))).n,
  (bK 1 (nxS (r5 o))).1, (bK 1 (nxS (r5 o))).2, bL (nxS (r6 o)), il (nxS (r7 o))⟩
theorem wF (f : Int) (s : Tx.Bs) : (toO f s).isSome = gTo s := by
 unfold toO gTo
 by_cases h1 : s = only
 ·simp [h1]
 ·by_cases h2 : s = Ba
  ·rw [if_neg h1, if_pos h2]; simp [h2]
  ·simp [h1, h2]
theorem LG {f n : Int} {s : Tx.Bs} (h : toO f s = some n) : toV f s = n := by
 unfold toO at h; unfold toV
 split
 ·rename_i q; rw [if_pos q] at h; simpa using h
 ·rename_i q
  rw [if_neg q] at h
  split
  ·rename_i q2; rw [if_pos q2] at h; simpa using h
  ·rename_i q2; rw [if_neg q2] at h; rw [h]; rfl
theorem Dl {s n : Tx.Bs} (h : jL s = some n) : il s = n := by
 unfold jL at h; unfold il
 split
 ·rename_i q; rw [if_pos q] at h; simpa using h
 ·rename_i q
  rw [if_neg q] at h
  split at h
  ·simpa using h
  ·cases h
theorem Ja {s n : Tx.Bs} (h : kM s = some n) : s = n ∧ bF s = true := by
 unfold kM at h
 split at h
 ·rename_i q; exact ⟨by simpa using h, q⟩
 ·cases h
theorem kP (o : O) (h : o = none ∨ ∃ fs, o = some fs ∧ fs.length < 8) : r8 o = none := by
 rcases h with rfl | ⟨fs, rfl, h⟩
 ·simp [r8, r7, r6, r5, r4, r3, r2, r1, bB]
 ·have aux : ∀ (g : Tx.Bs → Bool) (o : O) (n : Nat), (o = none ∨ ∃ fs, o = some fs ∧ fs.length < n + 1) → (stp g o = none ∨ ∃ fs, stp g o = some fs ∧ fs.length < n) := by
   intro g o n h
   rcases h with rfl | ⟨fs, rfl, h⟩
   ·exact .inl (bB g)
   ·cases fs with
    | nil => exact .inl (mi g)
    | cons f r =>
      rw [bE]
      split
      ·exact .inr ⟨r, rfl, by simpa using h⟩
      ·exact .inl rfl
  have := aux kK _ 0 (aux xW _ 1 (aux (j3 1) _ 2 (aux sJ _ 3 (aux gz _ 4 (aux gTo _ 5 (aux (j4 4 4) _ 6 (aux bF (some fs) 7 (.inr ⟨fs, rfl, h⟩))))))))
  rcases this with h | ⟨fs, _, h⟩
  ·exact h
  ·omega
theorem GI {fs : List Tx.Bs} (h : qJ fs = none) : r8 (some fs) = none := by
 match fs, h with
 | a :: b :: c :: d :: e :: f :: g :: k :: rest, h =>
   simp only [qJ] at h
   by_cases h1 : bF a = true
   ·rw [show kM a = some a by simp [kM, h1]] at h
    simp only [Option.bind_some] at h
    cases h2 : num 4 4 b with
    | none => simp [r8, r7, r6, r5, r4, r3, r2, r1, bB, bE, j4, h1, h2]
    | some frm =>
      rw [h2] at h; simp only [Option.bind_some] at h
      cases h3 : toO frm c with
      | none => have := wF frm c; rw [h3] at this; simp [r8, r7, r6, r5, r4, r3, r2, r1, bB, bE, j4, h1, h2, ← this]
      | some till =>
        have t3 := wF frm c
        rw [h3] at h t3; simp only [Option.bind_some] at h
        cases h4 : dA d with
        | none => simp [r8, r7, r6, r5, r4, r3, r2, r1, bB, bE, j4, gz, h1, h2, ← t3, h4]
        | some month =>
          rw [h4] at h; simp only [Option.bind_some] at h
          cases h5 : mI e with
          | none => simp [r8, r7, r6, r5, r4, r3, r2, r1, bB, bE, j4, gz, sJ, h1, h2, ← t3, h4, h5]
          | some fm =>
            rw [h5] at h; simp only [Option.bind_some] at h
            cases h6 : iC 1 f with
            | none => simp [r8, r7, r6, r5, r4, r3, r2, r1, bB, bE, j4, gz, sJ, j3, h1, h2, ← t3, h4, h5, h6]
            | some ac =>
              rw [h6] at h; simp only [Option.bind_some] at h
              cases h7 : dJ g with
              | none => simp [r8, r7, r6, r5, r4, r3, r2, r1, bB, bE, j4, gz, sJ, j3, xW, h1, h2, ← t3, h4, h5, h6, h7]
              | some save =>
                rw [h7] at h; simp only [Option.bind_some] at h
                cases h8 : jL k with
                | none => simp [r8, r7, r6, r5, r4, r3, r2, r1, bB, bE, j4, gz, sJ, j3, xW, kK, h1, h2, ← t3, h4, h5, h6, h7, h8]
                | some letter => rw [h8] at h; cases h
   ·simp at h1
    simp [r8, r7, r6, r5, r4, r3, r2, r1, bB, bE, h1]
 | [], _ => exact kP _ (.inr ⟨_, rfl, by simp⟩)
 | [_], _ => exact kP _ (.inr ⟨_, rfl, by simp⟩)
 | [_, _], _ => exact kP _ (.inr ⟨_, rfl, by simp⟩)
 | [_, _, _], _ => exact kP _ (.inr ⟨_, rfl, by simp⟩)
 | [_, _, _, _], _ => exact kP _ (.inr ⟨_, rfl, by simp⟩)
 | [_, _, _, _, _], _ => exact kP _ (.inr ⟨_, rfl, by simp⟩)
 | [_, _, _, _, _, _], _ => exact kP _ (.inr ⟨_, rfl, by simp⟩)
 | [_, _, _, _, _, _, _], _ => exact kP _ (.inr ⟨_, rfl, by simp⟩)
theorem GJ {fs : List Tx.Bs} {p : Rl × List Tx.Bs} (h : qJ fs = some p) : r8 (some fs) = some p.2 ∧ tF (some fs) = p.1 := by
 match fs, h with
 | a :: b :: c :: d :: e :: f :: g :: k :: rest, h =>
   simp only [qJ, Option.bind_eq_some_iff, Option.map_eq_some_iff] at h
   obtain ⟨name, h1, frm, h2, till, h3, month, h4, fm, h5, ac, h6, save, h7, letter, h8, rfl⟩ := h
   obtain ⟨e1, k1⟩ := Ja h1
   subst e1
   clear h1
   have t3 := wF frm c
   rw [h3] at t3
   have v3 := LG h3
   have v5 := Iw h5
   have v6 := xK h6
   have v7 := lu h7
   have v8 := Dl h8
   constructor
   ·simp [r8, r7, r6, r5, r4, r3, r2, r1, bB, bE, j4, gz, sJ, j3, xW, kK, k1, h2, ← t3, h4, h5, h6, h7, h8]
   ·simp [tF, nxS, r7, r6, r5, r4, r3, r2, r1, bB, bE, j4, gz, sJ, j3, xW, kK, k1, h2, ← t3, h4, h5, h6, h7, h8, v3, v5, v6, v7, v8]
end Sx
end
end Go.Proofs.YtkhlkohlccndgaaGreat
