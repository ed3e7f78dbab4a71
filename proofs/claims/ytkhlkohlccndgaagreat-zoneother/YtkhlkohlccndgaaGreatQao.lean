/- Part of the proof: PaT RrP RrA Zf Zl Za Zv Zu Zy TbP TbA PrA PrB Zx Zd Ya Yb Yc Yo OpR OpS Wl. -/
import Derived.Test.YtkhlkohlccndgaaGreatQz
import Derived.Test.YtkhlkohlccndgaaGreatQan
import Derived.Test.YtkhlkohlccndgaaGreatQaj
import Derived.Test.YtkhlkohlccndgaaGreatQak
import Derived.Test.YtkhlkohlccndgaaGreatQah
import Derived.Lib.SliceRun
import Derived.Test.YtkhlkohlccndgaaGreatQai
import Derived.Test.YtkhlkohlccndgaaGreatQaa
import Derived.Test.YtkhlkohlccndgaaGreatQac
import Derived.ProofKit
import Derived.OpenShut
import Derived.Lib.SmallJoins
import Derived.Deep.Slices
import Derived.Deep.Strs
import Derived.Carry
set_option linter.unusedVariables false
set_option linter.unusedSimpArgs false
set_option maxRecDepth 100000
set_option maxHeartbeats 16000000
namespace Go.Proofs.YtkhlkohlccndgaaGreat
section
open Go.RowKit

def KQ : Tx.Bs := [82, 117, 108, 101, 32, 101, 117, 32, 49, 57, 56, 49, 32, 109, 97, 120, 32, 77, 97, 114, 32, 108, 97, 115, 116, 83, 117, 110, 32, 49, 58, 48, 48, 117, 32, 49, 58, 48, 48, 32, 83, 10, 82, 117, 108, 101, 32, 101, 117, 32, 49, 57, 57, 54, 32, 109, 97, 120, 32, 79, 99, 116, 32, 108, 97, 115, 116, 83, 117, 110, 32, 49, 58, 48, 48, 117, 32, 48, 32, 45, 10, 90, 111, 110, 101, 32, 72, 101, 114, 101, 47, 84, 111, 119, 110, 32, 48, 58, 49, 48, 32, 45, 32, 76, 77, 84, 32, 49, 56, 56, 48, 32, 74, 97, 110, 32, 49, 32, 48, 10, 32, 32, 49, 58, 48, 48, 32, 101, 117, 32, 67, 69, 37, 115, 84, 10, 76, 105, 110, 107, 32, 72, 101, 114, 101, 47, 84, 111, 119, 110, 32, 79, 108, 100, 10]
def euB : Tx.Bs := [101, 117]
def jF : Tx.Bs := [72, 101, 114, 101, 47, 84, 111, 119, 110]
def gG : Sx.Sr :=
 ⟨[⟨euB, 1981, 2100, 3, 2, 0, 0, 3600, 3, 3600, [83]⟩, ⟨euB, 1996, 2100, 10, 2, 0, 0, 3600, 3, 0, []⟩],
  [⟨jF, [⟨600, [], 0, [76, 77, 84], false, 1880, 1, 1, 0, 2⟩, ⟨3600, euB, 0, [67, 69, 37, 115, 84], true, 0, 0, 0, 0, 0⟩]⟩],
  [⟨jF, [79, 108, 100]⟩]⟩
theorem DK : Sx.parse KQ = ⟨gG, 0, 0⟩ := by kernel_rfl
theorem ja (w : World) :
  Calls Tryz.prog 41 #[] w fun e w' => ∃ r z l, e = .returned (.agg #[r, z, l]) ∧ fV w' w.heap.size r z l gG ∧ Below w.heap.size w w' := by
 have RX0 := hid (aD w [bS, bS, bS] 26)
 have BW0 := hid ((q4B w.heap.size w).alloc (Nat.le_refl _) (.cells [bS, bS, bS].toArray 26))
 go_enter Tryz.func41, Tryz.ntmps41
 go_wp2_with fail
 refine (Bu _ _).mono ?_
 intro e w1 h
 have h2 : uw KQ (w.alloc (.cells #[.slice none 0 0, .slice none 0 0, .slice none 0 0] 26)) e w1 := h
 clear h
 obtain ⟨⟨r, z, l, rfl, hown⟩, hb⟩ := h2
 rw [DK] at hown ⊢
 have hown2 : fV w1 (w.heap.size + 1) r z l gG := by simpa using hown
 have H := hid hown2
 have B1 : Hid (Below w.heap.size w w1) := BW0.out.trans (hb.mono BW0.out.size)
 have R1 := hid (ai RX0.out hb)
 obtain ⟨ra, rcap, rfl⟩ := aQ hown2.rules
 obtain ⟨za, zcap, rfl⟩ := yj hown2
 obtain ⟨la, lcap, rfl⟩ := aQ hown2.links
 clear hown hown2 hb RX0 BW0
 obtain ⟨⟨r0, rf0⟩, ⟨r1, rf1⟩, ⟨r2, rf2⟩, hR⟩ := cp3 R1.out
 go_wp2
 refine bodyPost_ret (v := .agg #[.slice ra gG.rules.length rcap, .slice za gG.zones.length zcap, .slice la gG.links.length lcap]) (by simp [results, Tryz.results41, go_sem, *]) rfl ⟨_, _, _, rfl, ?_, ?_⟩
 ·exact Br (qF (iY (iY (iY H.out (by omega)) (by omega)) (by omega)) ((q4B _ _).alloc (Nat.le_refl _) _)) (by omega)
 ·exact (aO (aO (aO B1.out (Nat.le_refl _) _) (Nat.le_refl _) _) (Nat.le_refl _) _).alloc (by have := B1.out.size; simpa using this) _
end
section

theorem D7 : ∀ r ∈ gG.rules, r.name.length ≤ maxLen ∧ r.letter.length ≤ maxLen := by
 intro r hr
 simp [gG, euB] at hr
 rcases hr with rfl | rfl <;> simp [maxLen]
end
section
open Go.RowKit

theorem Bp {w : World} {B : Nat} {v : Value} {l : List Sx.Tm} (h : pQ w B v l) : pR w v l := ku (fun _ => rfl) h
end
section
open Go.RowKit Go.Shelf
attribute [local go_sem] Oper.semAt_some

theorem Cr (x : Sx.Lk) (B : Nat) (nm : Tx.Bs) (w : World) (hB : B < w.heap.size) (h : w.cell? ⟨B, 0, none⟩ = some (ag nm)) :
  Calls Tryz.prog 116 #[jA x, .pointer (some ⟨B, 0, none⟩)] w fun e w' => e = .returned (.bool (x.name == nm)) ∧ Below w.heap.size w w' := by
 have BV := hid ((q4B w.heap.size w).alloc (Nat.le_refl _) (.cells (aH x).toArray 35))
 have XV := aD w (aH x) 35
 obtain ⟨x0, _⟩ := aa XV 1 rfl
 have y0 := (BV.out.cell (p := ⟨B, 0, none⟩) hB).trans h
 have sx := XV.1
 have sB : B < (w.alloc (.cells (aH x).toArray 35)).heap.size := q4N hB BV.out.size
 clear XV
 go_enter Tryz.func116, Tryz.ntmps116
 go_wp2
 go_ret
 exact ⟨rfl, BV.out⟩
theorem Cs (x : ZV) (B : Nat) (nm : Tx.Bs) (w : World) (hB : B < w.heap.size) (h : w.cell? ⟨B, 0, none⟩ = some (ag nm)) :
  Calls Tryz.prog 118 #[zvV x, .pointer (some ⟨B, 0, none⟩)] w fun e w' => e = .returned (.bool (x.z.name == nm)) ∧ Below w.heap.size w w' := by
 have BV := hid ((q4B w.heap.size w).alloc (Nat.le_refl _) (.cells (aJ x).toArray 44))
 have XV := aD w (aJ x) 44
 obtain ⟨x0, _⟩ := aa XV 0 rfl
 have y0 := (BV.out.cell (p := ⟨B, 0, none⟩) hB).trans h
 have sx := XV.1
 have sB : B < (w.alloc (.cells (aJ x).toArray 44)).heap.size := q4N hB BV.out.size
 clear XV
 go_enter Tryz.func118, Tryz.ntmps118
 go_wp2
 go_ret
 exact ⟨rfl, BV.out⟩
/- the name that a name stands for; the zone of that name -/
def dE (ls : List Sx.Lk) (nm : Tx.Bs) : Tx.Bs := if ls.any (fun l => l.name == nm) = true then ((ls.find? fun l => l.name == nm).getD lD).to else nm
def mF (xs : List ZV) (nm : Tx.Bs) : ZV := (xs.find? fun p => p.z.name == nm).getD kE
def lF (xs : List ZV) (nm : Tx.Bs) : Bool := xs.any fun p => p.z.name == nm
theorem Et (nm : Tx.Bs) (zs : List Sx.Zn) (ls : List Sx.Lk) (xs : List ZV) (ra za la : Option Addr) (n1 rcap zcap lcap : Nat) (w : World) (h2 : jr w (.slice za xs.length zcap) zs xs) (h3 : fe w (.slice la ls.length lcap) ls)
  (hx : xs.length ≤ 10000) (hl : ls.length ≤ 10000) :
  Calls Tryz.prog 54 #[.agg #[.slice ra n1 rcap, .slice za xs.length zcap, .slice la ls.length lcap], ag nm] w fun e w' => e = .returned (.tuple #[zvV (mF xs (dE ls nm)), .bool (lF xs (dE ls nm))]) ∧ Below w.heap.size w w' := by
 have hzz : (ZV.z kE) = ⟨[], []⟩ := rfl
 obtain ⟨V, hV⟩ : ∃ V, ((w.alloc (.cells #[.slice ra n1 rcap, .slice za xs.length zcap, .slice la ls.length lcap] 26)).alloc (.cells #[ag nm] 9)).alloc (.cells #[.string ⟨#[]⟩, .slice none 0 0] 44) = V := ⟨_, rfl⟩
 have XS := aM (aM (aD w [.slice ra n1 rcap, .slice za xs.length zcap, .slice la ls.length lcap] 26) (.cells #[ag nm] 9)) (.cells #[.string ⟨#[]⟩, .slice none 0 0] 44)
 have XN := aM (aD (w.alloc (.cells #[.slice ra n1 rcap, .slice za xs.length zcap, .slice la ls.length lcap] 26)) [ag nm] 9) (.cells #[.string ⟨#[]⟩, .slice none 0 0] 44)
 have XZ := aD ((w.alloc (.cells #[.slice ra n1 rcap, .slice za xs.length zcap, .slice la ls.length lcap] 26)).alloc (.cells #[ag nm] 9)) [.string ⟨#[]⟩, .slice none 0 0] 44
 have BV : Below w.heap.size w V := by rw [← hV]; exact (((q4B _ w).alloc (Nat.le_refl _) _).alloc (by simp) _).alloc (by simp; omega) _
 obtain ⟨N, hN⟩ : ∃ N, w.heap.size = N := ⟨_, rfl⟩
 have hV' : ((w.alloc (.cells [.slice ra n1 rcap, .slice za xs.length zcap, .slice la ls.length lcap].toArray 26)).alloc (.cells [ag nm].toArray 9)).alloc (.cells [.string ⟨#[]⟩, .slice none 0 0].toArray 44) = V := hV
 have hV2 : ((w.alloc (.cells [.slice ra n1 rcap, .slice za xs.length zcap, .slice la ls.length lcap].toArray 26)).alloc (.cells #[ag nm] 9)).alloc (.cells #[.string ⟨#[]⟩, .slice none 0 0] 44) = V := hV
 have hV3 : ((w.alloc (.cells #[.slice ra n1 rcap, .slice za xs.length zcap, .slice la ls.length lcap] 26)).alloc (.cells [ag nm].toArray 9)).alloc (.cells #[.string ⟨#[]⟩, .slice none 0 0] 44) = V := hV
 have hV4 : ((w.alloc (.cells #[.slice ra n1 rcap, .slice za xs.length zcap, .slice la ls.length lcap] 26)).alloc (.cells #[ag nm] 9)).alloc (.cells [.string ⟨#[]⟩, .slice none 0 0].toArray 44) = V := hV
 rw [hV2, hN] at XS
 rw [hV3] at XN
 rw [hV4] at XZ
 simp only [World.size_alloc, hN] at XN XZ
 have sN := XN.1
 have sZ := XZ.1
 obtain ⟨s1, _⟩ := aa XS 1 rfl
 obtain ⟨s2, _⟩ := aa XS 2 rfl
 obtain ⟨c0, _⟩ := aa XN 0 rfl
 have R2 := fK h2 BV
 have R3 := au h3 BV
 have e1 : ∀ args w, (callFunc 116 args).run Tryz.prog w = .ok (.enter 116 args) w := enters_of Tryz.func116 (by kernel_rfl) rfl
 have e2 : ∀ args w, (callFunc 118 args).run Tryz.prog w = .ok (.enter 118 args) w := enters_of Tryz.func118 (by kernel_rfl) rfl
 have eL : ∀ args w, (callFunc 160 args).run Tryz.prog w = .ok (.enter 160 args) w := enters_of Tryz.func160 (by kernel_rfl) rfl
 have eZ : ∀ args w, (callFunc 161 args).run Tryz.prog w = .ok (.enter 161 args) w := enters_of Tryz.func161 (by kernel_rfl) rfl
 have C1 := hid (fun (W : World) (hW : Below V.heap.size V W) =>
  let hWL : Below W.heap.size W (W.alloc (.cells #[.slice la ls.length lcap] 24)) := (q4B W.heap.size W).alloc (Nat.le_refl _) _
  let hVL : Below V.heap.size V (W.alloc (.cells #[.slice la ls.length lcap] 24)) := hW.trans (hWL.mono hW.size)
  uU 160 116 #[.pointer (some ⟨W.heap.size, 0, none⟩)] #[.pointer (some ⟨N + 1, 0, none⟩)] (fun l => l.name == nm) ls (W.alloc (.cells #[.slice la ls.length lcap] 24)) eL e1
   (fun w1 hw1 => yK 3 W.heap.size (by omega) ls la lcap (W.alloc (.cells #[.slice la ls.length lcap] 24)) w1 (au R3 hVL) hl ((hw1.cell (p := ⟨W.heap.size, 0, none⟩) (by simp)).trans (aa (aD W [.slice la ls.length lcap] 24) 0 rfl).1) (q4N (by simp) hw1.size) hw1)
   (fun x _ W' hW' => by
    have hh := hVL.trans (hW'.mono hVL.size)
    exact Cr x (N + 1) nm W' (q4N sN hh.size) ((hh.cell (p := ⟨N + 1, 0, none⟩) sN).trans c0)))
 have C2 := hid (fun (W : World) (nm : Tx.Bs) (hW : Below w.heap.size w W) (hc : W.cell? ⟨N + 1, 0, none⟩ = some (ag nm)) (hl : N + 1 < W.heap.size) =>
  let hWL : Below W.heap.size W (W.alloc (.cells #[.slice za xs.length zcap] 23)) := (q4B W.heap.size W).alloc (Nat.le_refl _) _
  let hVL : Below w.heap.size w (W.alloc (.cells #[.slice za xs.length zcap] 23)) := hW.trans (hWL.mono hW.size)
  uW 161 118 #[.pointer (some ⟨W.heap.size, 0, none⟩)] #[.pointer (some ⟨N + 1, 0, none⟩)] (fun p => p.z.name == nm) xs (W.alloc (.cells #[.slice za xs.length zcap] 23)) eZ e2
   (fun w1 hw1 => yL 3 W.heap.size (by omega) xs za zcap (W.alloc (.cells #[.slice za xs.length zcap] 23)) w1 (fK h2 hVL).rd hx ((hw1.cell (p := ⟨W.heap.size, 0, none⟩) (by simp)).trans (aa (aD W [.slice za xs.length zcap] 23) 0 rfl).1) (q4N (by simp) hw1.size) hw1)
   (fun x _ W' hW' => by
    have hh := hWL.trans (hW'.mono hWL.size)
    exact Cs x (N + 1) nm W' (q4N hl hh.size) ((hh.cell (p := ⟨N + 1, 0, none⟩) hl).trans hc)))
 have HBV := hid BV
 have HXS := hid XS
 have HXN := hid XN
 have HXZ := hid XZ
 have HNN := hid hN
 have HV := hid (q4B V.heap.size V)
 clear R2 R3 h2 h3 hx hl e1 e2 eL eZ hV' hV2 hV3 hV4 BV XS XN XZ c0 sZ
 go_enter Tryz.func54, Tryz.ntmps54
 simp only [hN]
 go_wp2_with fail
 refine (yJ _ _ _ _).mono ?_
 rintro e w1 ⟨rfl, rfl⟩
 go_wp2_with fail
 refine (C1.out V HV.out).mono ?_
 rintro e w2 ⟨rfl, hb⟩
 have HB2 : Hid (Below V.heap.size V w2) := ((q4B V.heap.size V).alloc (Nat.le_refl _) _).trans (hb.mono (by simp))
 obtain ⟨x, hx⟩ : ∃ x, (ls.find? fun l => l.name == nm).getD lD = x := ⟨_, rfl⟩
 obtain ⟨A, hA⟩ : ∃ A, (ls.any fun l => l.name == nm) = A := ⟨_, rfl⟩
 rw [hx, hA]
 have HNT : Hid (dE ls nm = if A = true then x.to else nm) := by show _ = _; unfold dE; rw [hx, hA]
 have B2 : Hid (Below w.heap.size w w2) := HBV.out.trans (HB2.out.mono HBV.out.size)
 have S2 : Hid (ak w2 N [.slice ra n1 rcap, .slice za xs.length zcap, .slice la ls.length lcap]) := ai HXS.out HB2.out
 have N2 : Hid (ak w2 (N + 1) [ag nm]) := ai HXN.out HB2.out
 have Z2 : Hid (ak w2 (N + 1 + 1) [.string ⟨#[]⟩, .slice none 0 0]) := ai HXZ.out HB2.out
 have sW := S2.out.1
 have nW := N2.out.1
 have zW := Z2.out.1
 obtain ⟨y1, _⟩ := aa S2.out 1 rfl
 obtain ⟨m0, g0⟩ := aa N2.out 0 rfl
 obtain ⟨⟨q0, k0⟩, ⟨q1, k1⟩, -⟩ := cp2 Z2.out
 obtain ⟨K, hK⟩ : ∃ K, w2.alloc (.cells #[ag x.to, ag x.name] 35) = K := ⟨_, rfl⟩
 have HK := hid hK
 clear hb hx hA C1 HB2 s1 s2 sN HV hK
 cases A
 case false =>
  have HN2 : Hid (dE ls nm = nm) := by show _ = _; rw [HNT.out]; rfl
  go_wp2_with fail
  obtain ⟨W, hW⟩ : ∃ W, w2.alloc (.cells #[.string ⟨x.to.toArray⟩, .string ⟨x.name.toArray⟩] 35) = W := ⟨_, rfl⟩
  rw [hW]
  have BW : Hid (Below w.heap.size w W) := by show Below _ _ _; rw [← hW]; exact B2.out.alloc B2.out.size _
  have NW : Hid (ak W (N + 1) [ag nm]) := by show ak _ _ _; rw [← hW]; exact aM N2.out _
  have SW : Hid (ak W N [.slice ra n1 rcap, .slice za xs.length zcap, .slice la ls.length lcap]) := by show ak _ _ _; rw [← hW]; exact aM S2.out _
  have ZW : Hid (ak W (N + 1 + 1) [.string ⟨#[]⟩, .slice none 0 0]) := by show ak _ _ _; rw [← hW]; exact aM Z2.out _
  have CC := hid (C2.out W nm BW.out (aa NW.out 0 rfl).1 NW.out.1)
  clear hW S2 N2 Z2 sW nW zW y1 m0 g0 q0 k0 q1 k1 C2 HXS HXN HXZ HBV B2
  refine (rT _ _ _ _).mono ?_
  rintro e w3 ⟨rfl, rfl⟩
  go_wp2_with fail
  refine CC.out.mono ?_
  rintro e w4 ⟨rfl, hb⟩
  have HB4 : Hid (Below W.heap.size W w4) := ((q4B W.heap.size W).alloc (Nat.le_refl _) _).trans (hb.mono (by simp))
  have Z4 : Hid (ak w4 (N + 1 + 1) [.string ⟨#[]⟩, .slice none 0 0]) := ai ZW.out HB4.out
  have zW := Z4.out.1
  obtain ⟨⟨q0, k0⟩, ⟨q1, k1⟩, -⟩ := cp2 Z4.out
  obtain ⟨y, hy⟩ : ∃ y, (xs.find? fun p => p.z.name == nm).getD kE = y := ⟨_, rfl⟩
  obtain ⟨C, hC⟩ : ∃ C, (xs.any fun p => p.z.name == nm) = C := ⟨_, rfl⟩
  rw [hy, hC]
  have E1 : Hid (mF xs (dE ls nm) = y) := by show _ = _; unfold mF; rw [HN2.out, hy]
  have E2 : Hid (lF xs (dE ls nm) = C) := by show _ = _; unfold lF; rw [HN2.out, hC]
  have BF : Hid (Below w.heap.size w w4) := BW.out.trans (HB4.out.mono BW.out.size)
  clear hb hy hC CC HN2 HNT SW NW ZW
  go_wp2
  refine bodyPost_ret (v := .tuple #[zvV y, .bool C]) (by simp [results, Tryz.results54, go_sem, zvV, *]) rfl ⟨by rw [E1.out, E2.out], ?_⟩
  have h1 : w.heap.size ≤ N + 1 + 1 := by rw [HNN.out]; omega
  have h2 := aR (aR BF.out h1 0 (.string ⟨y.z.name.toArray⟩)) h1 1 (.slice y.a y.z.eras.length y.c)
  rw [HNN.out] at h2
  exact h2
 case true =>
  have HN2 : Hid (dE ls nm = x.to) := by show _ = _; rw [HNT.out]; rfl
  go_wp2_with fail
  obtain ⟨W, hW⟩ : ∃ W, (w2.setCell ⟨N + 1, 0, none⟩ (.string ⟨x.to.toArray⟩)).alloc (.cells #[.string ⟨x.to.toArray⟩, .string ⟨x.name.toArray⟩] 35) = W := ⟨_, rfl⟩
  rw [hW]
  have BW : Hid (Below w.heap.size w W) := by show Below _ _ _; rw [← hW]; exact (aR B2.out (by rw [HNN.out]; omega) 0 _).alloc (by simp; exact B2.out.size) _
  have NW : Hid (ak W (N + 1) [ag x.to]) := by show ak _ _ _; rw [← hW]; exact aM (cK N2.out 0 _ (by simp)) _
  have SW : Hid (ak W N [.slice ra n1 rcap, .slice za xs.length zcap, .slice la ls.length lcap]) := by show ak _ _ _; rw [← hW]; exact aM (bR S2.out (by omega)) _
  have ZW : Hid (ak W (N + 1 + 1) [.string ⟨#[]⟩, .slice none 0 0]) := by show ak _ _ _; rw [← hW]; exact aM (bR Z2.out (by omega)) _
  have CC := hid (C2.out W x.to BW.out (aa NW.out 0 rfl).1 NW.out.1)
  clear hW S2 N2 Z2 sW nW zW y1 m0 g0 q0 k0 q1 k1 C2 HXS HXN HXZ HBV B2
  refine (rT _ _ _ _).mono ?_
  rintro e w3 ⟨rfl, rfl⟩
  go_wp2_with fail
  refine CC.out.mono ?_
  rintro e w4 ⟨rfl, hb⟩
  have HB4 : Hid (Below W.heap.size W w4) := ((q4B W.heap.size W).alloc (Nat.le_refl _) _).trans (hb.mono (by simp))
  have Z4 : Hid (ak w4 (N + 1 + 1) [.string ⟨#[]⟩, .slice none 0 0]) := ai ZW.out HB4.out
  have zW := Z4.out.1
  obtain ⟨⟨q0, k0⟩, ⟨q1, k1⟩, -⟩ := cp2 Z4.out
  obtain ⟨y, hy⟩ : ∃ y, (xs.find? fun p => p.z.name == x.to).getD kE = y := ⟨_, rfl⟩
  obtain ⟨C, hC⟩ : ∃ C, (xs.any fun p => p.z.name == x.to) = C := ⟨_, rfl⟩
  rw [hy, hC]
  have E1 : Hid (mF xs (dE ls nm) = y) := by show _ = _; unfold mF; rw [HN2.out, hy]
  have E2 : Hid (lF xs (dE ls nm) = C) := by show _ = _; unfold lF; rw [HN2.out, hC]
  have BF : Hid (Below w.heap.size w w4) := BW.out.trans (HB4.out.mono BW.out.size)
  clear hb hy hC CC HN2 HNT SW NW ZW
  go_wp2
  refine bodyPost_ret (v := .tuple #[zvV y, .bool C]) (by simp [results, Tryz.results54, go_sem, zvV, *]) rfl ⟨by rw [E1.out, E2.out], ?_⟩
  have h1 : w.heap.size ≤ N + 1 + 1 := by rw [HNN.out]; omega
  have h2 := aR (aR BF.out h1 0 (.string ⟨y.z.name.toArray⟩)) h1 1 (.slice y.a y.z.eras.length y.c)
  rw [HNN.out] at h2
  exact h2
end
section
open Go.RowKit Go.Shelf
attribute [local go_sem] Oper.semAt_some

theorem xS {α : Type} {z : Nat} {cells : α → List Value} (hz : ∀ x, (cells x).length = z) (l : List α) : (l.flatMap cells).length = l.length * z := by
 induction l with
 | nil => simp
 | cons x r ih => rw [List.flatMap_cons, List.length_append, ih, hz, List.length_cons, Nat.succ_mul]; omega
theorem BG {α : Type} {z : Nat} {cells : α → List Value} (hz : ∀ x, (cells x).length = z) (h0 : 0 < z) {w : World} {a : Option Addr} {n cap : Nat} {l : List α} (h : Rd z cells w (.slice a n cap) l) : ∀ ad, a = some ad → ∀ j u, (l.flatMap cells)[j]? = some u → w.cell? (ad.add j) = some u := by
 intro ad e j u hj
 subst e
 by_cases hn : l = []
 ·subst hn; simp at hj
 obtain ⟨a', cap', e1, h2⟩ := h
 obtain ⟨b, o, e2, _, hc⟩ := h2 hn
 simp only [Value.slice.injEq] at e1
 obtain ⟨rfl, _, _⟩ := e1
 simp only [Option.some.injEq] at e2
 subst e2
 have hlen := xS hz l
 have hj' := (q4L.1 hj).1
 rw [hlen] at hj'
 have hq : j / z < l.length := (Nat.div_lt_iff_lt_mul h0).2 hj'
 obtain ⟨x, hx⟩ : ∃ x, l[j / z]? = some x := ⟨_, q4G hq⟩
 have hk : ∃ y, (cells x)[j % z]? = some y := ⟨_, q4G (by rw [hz]; exact Nat.mod_lt _ h0)⟩
 obtain ⟨y, hy⟩ := hk
 have hdm : j / z * z + j % z = j := Nat.div_add_mod' j z
 have := flat_get cells hz l (j / z) x hx (j % z) y hy
 rw [hdm, hj] at this
 simp at this
 subst this
 have := hc (j / z) x hx (j % z) u hy
 rw [show o + j / z * z + j % z = o + j by rw [Nat.add_assoc, hdm]] at this
 unfold Addr.add
 split
 ·rename_i q
  have q' : j = 0 := by simpa using q
  rw [q'] at this
  exact this
 ·exact this
theorem Jj {α : Type} {z : Nat} {cells : α → List Value} {w : World} {n cap : Nat} {l : List α} (h : Rd z cells w (.slice none n cap) l) : l = [] := by
 obtain ⟨a', cap', e1, h2⟩ := h
 by_cases hn : l = []
 ·exact hn
 ·obtain ⟨b, o, e2, _⟩ := h2 hn
  simp only [Value.slice.injEq] at e1
  obtain ⟨rfl, _, _⟩ := e1
  cases e2
theorem xL (es : List Sx.Er) (ra : Option Addr) (rcap : Nat) (w : World) (h : gQ w (.slice ra es.length rcap) es) (he : es.length ≤ 10000) :
  Calls Tryz.prog 55 #[.slice ra es.length rcap] w fun e w' => ∃ v, e = .returned v ∧ eG w' w.heap.size v es ∧ Below w.heap.size w w' := by
 cases ra with
 | none =>
   obtain rfl := Jj h
   clear h
   have hcmp := fun w => Lib.run_eql_slice_nil (P := Tryz.prog) w 42 67 none 0 rcap 0 0 Tryz.underlying42
   simp only [Option.isNone_none] at hcmp
   go_enter Tryz.func55, Tryz.ntmps55
   go_wp2
   go_ret
   exact ⟨_, rfl, World.ownsRow_nil _ _ _ _, q4B _ _⟩
 | some ad =>
   obtain ⟨i0, hi, hz0, hz1, hz2⟩ := info_parts Tryz.EH
   have hc := BG gJ (by omega) h
   have B0 := hid ((q4B w.heap.size w).alloc (Nat.le_refl _) (.cells #[] 67))
   have c2 : ∀ ad', some ad = some ad' → ∀ j u, (es.flatMap ax)[j]? = some u → (w.alloc (.cells #[] 67)).cell? (ad'.add j) = some u := by
    intro ad' e j u hj
    have hh := BG gJ (by omega) (au h B0.out)
    exact hh ad' e j u hj
   have w2 : (w.alloc (.cells #[] 67)).ownsRow w.heap.size 67 10 (.slice (some ⟨w.heap.size, 0, none⟩) 0 0) 0 [] := World.ownsRow_made w #[] 0 (Nat.le_refl _) (Nat.zero_le _) (by simp)
   have f2 : (es.flatMap ax).length = es.length * 10 := xS gJ es
   have o2 : ∀ u ∈ es.flatMap ax, u.oneCell' = true := by
    intro u hu
    obtain ⟨c, _, hc⟩ := List.mem_flatMap.1 hu
    exact yU c u hc
   clear hc h
   have hcmp := fun w => Lib.run_eql_slice_nil (P := Tryz.prog) w 42 67 (some ad) es.length rcap 0 0 Tryz.underlying42
   simp only [Option.isNone_some] at hcmp
   go_enter Tryz.func55, Tryz.ntmps55
   go_wp2_with (at_builtin; refine qW rfl (.tmp 5) (.tmp 6) 42 rfl w.heap.size 67 i0 (.agg #[.int .i64 0, .string ⟨#[]⟩, .int .i64 0, .string ⟨#[]⟩, .bool false, .int .i64 0, .int .i64 0, .int .i64 0, .int .i64 0, .int .i64 0]) 10 96 Tryz.underlying42 hi hz0 hz1 hz2 rfl (by decide) (.slice (some ⟨w.heap.size, 0, none⟩) 0 0) 0 [] rfl w2 (some ad) es.length rcap (es.flatMap ax) rfl f2 c2 (fun q => by cases q) o2 (by unfold maxLen; omega) (by omega) (by simp) ?_; intro v3 w3 hown hgrow)
   have O3 : Hid (eG w3 w.heap.size v3 es) := by
    show World.ownsRow _ _ _ _ _ _ _
    simpa using hown
   have B3 : Hid (Below w.heap.size w w3) := Below.grown B0.out hgrow (by simp) (fun k hk => (w2.lt k hk).1)
   clear hown hgrow c2 f2 o2 w2 B0
   go_wp2
   go_ret
   exact ⟨_, rfl, O3.out, B3.out⟩
theorem set2 {w : World} {b q o : Nat} {u x y : Value} (hne : ¬ b = q) (h : w.cell? ⟨b, 0, none⟩ = some x ∧ w.cell? ⟨b, 1, none⟩ = some y) : (w.setCell ⟨q, o, none⟩ u).cell? ⟨b, 0, none⟩ = some x ∧ (w.setCell ⟨q, o, none⟩ u).cell? ⟨b, 1, none⟩ = some y := by
 have e : ∀ k, (w.setCell ⟨q, o, none⟩ u).cell? ⟨b, k, none⟩ = w.cell? ⟨b, k, none⟩ := fun k => World.cell?_of_block (Below.heap_setCell _ _ _ _ hne)
 rw [e, e]; exact h
/- what Find answers -/
def mH (E : Int) (xs : List ZV) (ls : List Sx.Lk) (nm : Tx.Bs) : Int := if E ≠ 0 then E else if lF xs (dE ls nm) = true then 0 else 5
def mZ (E : Int) (xs : List ZV) (ls : List Sx.Lk) (nm : Tx.Bs) : Sx.Zn := if mH E xs ls nm = 0 then (mF xs (dE ls nm)).z else ⟨[], []⟩
theorem Cu {xs : List ZV} {nm : Tx.Bs} (h : lF xs nm = true) : mF xs nm ∈ xs := by
 unfold mF
 unfold lF at h
 rw [List.any_eq_true] at h
 obtain ⟨x, hx, hp⟩ := h
 cases hf : xs.find? (fun p => p.z.name == nm) with
 | none => rw [List.find?_eq_none] at hf; exact absurd hp (hf x hx)
 | some y => exact List.mem_of_find?_eq_some hf
theorem Iq (E : Int) (nm : Tx.Bs) (zs : List Sx.Zn) (ls : List Sx.Lk) (xs : List ZV) (ra za la : Option Addr) (n1 rcap zcap lcap : Nat) (w : World) (h2 : jr w (.slice za xs.length zcap) zs xs) (h3 : fe w (.slice la ls.length lcap) ls)
  (hE : E = 0 → xs.length ≤ 10000 ∧ ls.length ≤ 10000 ∧ ∀ p ∈ xs, p.z.eras.length ≤ 10000)
  (hC : ∀ W, Below w.heap.size w W → Calls Tryz.prog 14 #[.agg #[.slice ra n1 rcap, .slice za xs.length zcap, .slice la ls.length lcap]] W fun e w' => e = .returned (.int .i64 E) ∧ Below W.heap.size W w') :
  Calls Tryz.prog 16 #[.agg #[.slice ra n1 rcap, .slice za xs.length zcap, .slice la ls.length lcap], ag nm] w fun e w' =>
   ∃ v, e = .returned (.tuple #[.agg #[ag (mZ E xs ls nm).name, v], .int .i64 (mH E xs ls nm)]) ∧ eG w' w.heap.size v (mZ E xs ls nm).eras ∧ Below w.heap.size w w' := by
 have HC := hid hC
 have H2 := hid h2
 have H3 := hid h3
 have HEE := hid hE
 obtain ⟨N, hN⟩ : ∃ N, w.heap.size = N := ⟨_, rfl⟩
 obtain ⟨V, hV⟩ : ∃ V, (w.alloc (.cells #[.slice ra n1 rcap, .slice za xs.length zcap, .slice la ls.length lcap] 26)).alloc (.cells #[.string ⟨#[]⟩, .slice none 0 0] 44) = V := ⟨_, rfl⟩
 have XS := aM (aD w [.slice ra n1 rcap, .slice za xs.length zcap, .slice la ls.length lcap] 26) (.cells #[.string ⟨#[]⟩, .slice none 0 0] 44)
 have XZ := aD (w.alloc (.cells #[.slice ra n1 rcap, .slice za xs.length zcap, .slice la ls.length lcap] 26)) [.string ⟨#[]⟩, .slice none 0 0] 44
 have BV : Hid (Below w.heap.size w V) := by show Below _ _ _; rw [← hV]; exact ((q4B _ w).alloc (Nat.le_refl _) _).alloc (by simp) _
 have e1 : (w.alloc (.cells [.slice ra n1 rcap, .slice za xs.length zcap, .slice la ls.length lcap].toArray 26)).alloc (.cells #[.string ⟨#[]⟩, .slice none 0 0] 44) = V := hV
 have e2 : (w.alloc (.cells #[.slice ra n1 rcap, .slice za xs.length zcap, .slice la ls.length lcap] 26)).alloc (.cells [.string ⟨#[]⟩, .slice none 0 0].toArray 44) = V := hV
 rw [e1, hN] at XS
 rw [e2] at XZ
 simp only [World.size_alloc, hN] at XZ
 have HXS := hid XS
 have HXZ := hid XZ
 have HNN := hid hN
 have CC := hid (hC V BV.out)
 obtain ⟨⟨s0, _⟩, ⟨s1, _⟩, ⟨s2, _⟩, sx⟩ := cp3 XS
 clear XS XZ e1 e2 hC h2 h3 hE
 go_enter Tryz.func16, Tryz.ntmps16
 simp only [hN]
 go_wp2_with fail
 refine CC.out.mono ?_
 rintro e w1 ⟨rfl, hb⟩
 have X1 := hid (ai HXS.out hb)
 have Z1 := hid (ai HXZ.out hb)
 have B1 : Hid (Below w.heap.size w w1) := BV.out.trans (hb.mono BV.out.size)
 clear s0 s1 s2 sx hb CC
 obtain ⟨⟨s0, _⟩, ⟨s1, _⟩, ⟨s2, _⟩, -⟩ := cp3 X1.out
 obtain ⟨⟨q0, k0⟩, ⟨q1, k1⟩, -⟩ := cp2 Z1.out
 have sx := X1.out.1
 have zx := Z1.out.1
 by_cases hq : E = 0
 case neg =>
  have hq2 : (E == 0) = false := by simp [hq]
  have F1 : mH E xs ls nm = E := by unfold mH; rw [if_pos hq]
  have F2 : mZ E xs ls nm = ⟨[], []⟩ := by unfold mZ; rw [F1, if_neg hq]
  have G1 := hid F1
  have G2 := hid F2
  clear F1 F2
  go_wp2
  have h1 : w.heap.size ≤ N + 1 := by rw [HNN.out]; omega
  refine bodyPost_ret (v := .tuple #[.agg #[.string ⟨#[]⟩, .slice none 0 0], .int .i64 E]) (by simp [results, Tryz.results16, go_sem, *]) rfl ⟨.slice none 0 0, by rw [G1.out, G2.out], by rw [G2.out]; exact World.ownsRow_nil _ _ _ _, ?_⟩
  have h2 := aR (aR B1.out h1 0 (.string ⟨#[]⟩)) h1 1 (.slice none 0 0)
  rw [HNN.out] at h2
  exact h2
 subst hq
 obtain ⟨hx, hl, hes⟩ := HEE.out rfl
 have CZ := hid (Et nm zs ls xs ra za la n1 rcap zcap lcap w1 (fK H2.out B1.out) (au H3.out B1.out) hx hl)
 have HES := hid hes
 clear HEE hx hl hes
 go_wp2_with fail
 refine CZ.out.mono ?_
 rintro e w2 ⟨rfl, hb⟩
 have B2 : Hid (Below w.heap.size w w2) := B1.out.trans (hb.mono B1.out.size)
 have Z2 : Hid (ak w2 (N + 1) [.string ⟨#[]⟩, .slice none 0 0]) := ai Z1.out hb
 clear s0 s1 s2 sx q0 k0 q1 k1 zx CZ hb
 obtain ⟨⟨q0, k0⟩, ⟨q1, k1⟩, zx⟩ := cp2 Z2.out
 obtain ⟨C, hC⟩ : ∃ C, lF xs (dE ls nm) = C := ⟨_, rfl⟩
 have HCC := hid hC
 rw [hC]
 clear hC
 have h1 := hid (show w.heap.size ≤ N + 1 by rw [HNN.out]; omega)
 cases C
 case false =>
  have F1 : mH 0 xs ls nm = 5 := by unfold mH; rw [if_neg (by simp), HCC.out]; rfl
  have F2 : mZ 0 xs ls nm = ⟨[], []⟩ := by unfold mZ; rw [F1]; rfl
  have G1 := hid F1
  have G2 := hid F2
  clear F1 F2
  go_wp2
  refine bodyPost_ret (v := .tuple #[.agg #[.string ⟨#[]⟩, .slice none 0 0], .int .i64 5]) (by simp [results, Tryz.results16, go_sem, *]) rfl ⟨.slice none 0 0, by rw [G1.out, G2.out], by rw [G2.out]; exact World.ownsRow_nil _ _ _ _, ?_⟩
  have h2 := aR (aR B2.out h1.out 0 (.string ⟨#[]⟩)) h1.out 1 (.slice none 0 0)
  rw [HNN.out] at h2
  exact h2.alloc (by have := h2.size; rw [HNN.out] at this; exact this) _
 have F1 : mH 0 xs ls nm = 0 := by unfold mH; rw [if_neg (by simp), HCC.out]; rfl
 have F2 : mZ 0 xs ls nm = (mF xs (dE ls nm)).z := by unfold mZ; rw [F1]; rfl
 have HM := Cu HCC.out
 have HL := hid (HES.out _ HM)
 have RE := hid (H2.out.eras _ HM)
 obtain ⟨y, hy⟩ : ∃ y, mF xs (dE ls nm) = y := ⟨_, rfl⟩
 rw [hy] at F2 HL RE ⊢
 have G1 := hid F1
 have G2 := hid F2
 clear F1 F2 HM hy
 obtain ⟨M, hM⟩ : ∃ M, w2.heap.size = M := ⟨_, rfl⟩
 obtain ⟨V3, hV3⟩ : ∃ V3, w2.alloc (.cells #[.string ⟨y.z.name.toArray⟩, .slice y.a y.z.eras.length y.c] 44) = V3 := ⟨_, rfl⟩
 have Y3 : Hid (ak V3 M [ag y.z.name, .slice y.a y.z.eras.length y.c]) := by
  show ak _ _ _
  rw [← hV3, ← hM]; exact aD w2 [ag y.z.name, .slice y.a y.z.eras.length y.c] 44
 have Z3 : Hid (ak V3 (N + 1) [.string ⟨#[]⟩, .slice none 0 0]) := by show ak _ _ _; rw [← hV3]; exact aM Z2.out _
 have B3 : Hid (Below w.heap.size w V3) := by show Below _ _ _; rw [← hV3]; exact B2.out.alloc B2.out.size _
 have UU : V3.cell? ⟨M, 0, none⟩ = some (ag y.z.name) ∧ V3.cell? ⟨M, 1, none⟩ = some (.slice y.a y.z.eras.length y.c) := ⟨(aa Y3.out 0 rfl).1, (aa Y3.out 1 rfl).1⟩
 have UUd : V3.drew.cell? ⟨M, 0, none⟩ = some (ag y.z.name) ∧ V3.drew.cell? ⟨M, 1, none⟩ = some (.slice y.a y.z.eras.length y.c) := UU
 have neM : ¬ M = N + 1 := by have := zx; omega
 have CL := hid (xL y.z.eras y.a y.c V3.drew (au RE.out (B3.out.trans ((show Below V3.heap.size V3 V3.drew from ⟨rfl, rfl, rfl, Nat.le_refl _, fun _ _ => rfl⟩).mono B3.out.size))) HL.out)
 have CL2 := hid (xL y.z.eras y.a y.c V3 (au RE.out B3.out) HL.out)
 have sY := Y3.out.1
 have after : Hid (∀ w6, Below V3.heap.size V3 w6 → (w6.cell? ⟨M, 0, none⟩ = some (ag y.z.name) ∧ w6.cell? ⟨M, 1, none⟩ = some (.slice y.a y.z.eras.length y.c)) ∧ ak w6 (N + 1) [.string ⟨#[]⟩, .slice none 0 0] ∧ Below w.heap.size w w6) := by
  intro w6 hb
  have Y6 := ai Y3.out hb
  exact ⟨⟨(aa Y6 0 rfl).1, (aa Y6 1 rfl).1⟩, ai Z3.out hb, B3.out.trans (hb.mono B3.out.size)⟩
 have S3 := hid B3.out.size
 clear q0 k0 q1 k1 zx
 have HM3 := hid hM
 go_wp2_with fail
 have UUx := hid UU
 go_region_held3 (fun w' => w'.cell? ⟨M, 0, none⟩ = some (ag y.z.name) ∧ w'.cell? ⟨M, 1, none⟩ = some (.slice y.a y.z.eras.length y.c))
  (first | with_reducible exact UU | with_reducible exact UUd | with_reducible exact UU6 | with_reducible exact set2 neM (set2 neM UU6) | go_keep)
  (first | (go_at_call 55; (with_reducible refine CL.out.mono ?_); rintro e w6 ⟨cv, rfl, O6, hb6⟩; obtain ⟨UU6, Z6, B6⟩ := after.out w6 (af hb6); obtain ⟨q0, k0⟩ := aa Z6 0 rfl; obtain ⟨q1, k1⟩ := aa Z6 1 rfl; have zx := Z6.1; have O7 := hid O6; have B7 := hid B6; obtain ⟨ca, ccap, rfl⟩ := aQ O6; clear O6 hb6 B6))
 all_goals
  go_wp2
  have o1 : eG w6 w.heap.size (.slice ca y.z.eras.length ccap) y.z.eras := gK O7.out S3.out
  have ne : ∀ o, Value.ownBlock (.slice ca y.z.eras.length ccap) ≠ some (⟨N + 1, o, none⟩ : Addr).block := by
   intro o q
   have h8 := (O7.out.lt _ q).1
   have h9 : V3.drew.heap.size = V3.heap.size := rfl
   have h10 := Z3.out.1
   have h11 : V3.heap.size = M + 1 := by rw [← hV3, World.size_alloc, HM3.out]
   simp only at h8
   omega
  have h2 := aR (aR B7.out h1.out 0 (.string ⟨y.z.name.toArray⟩)) h1.out 1 (.slice ca y.z.eras.length ccap)
  rw [HNN.out] at h2 o1
  refine bodyPost_ret (v := .tuple #[.agg #[ag y.z.name, .slice ca y.z.eras.length ccap], .int .i64 0]) (by simp [results, Tryz.results16, go_sem, *]) rfl ⟨.slice ca y.z.eras.length ccap, by rw [G1.out, G2.out], ?_, h2⟩
  rw [G2.out]
  refine ownsRow_setCell_other ?_ (ne _) _
  refine ownsRow_setCell_other ?_ (ne _) _
  exact o1
end
section
open Go.RowKit Go.Shelf

/- the name that a format makes of a saving and its letter -/
def kL (fmt : Tx.Bs) (sv : Int) (lt : Tx.Bs) : Tx.Bs :=
 if (Lib.cut fmt Sx.pct).2.2 = true then (Lib.cut fmt Sx.pct).1 ++ lt ++ (Lib.cut fmt Sx.pct).2.1
 else if (Lib.cut fmt Sx.slash).2.2 = true ∧ 0 < sv then (Lib.cut fmt Sx.slash).2.1 else (Lib.cut fmt Sx.slash).1
theorem uk {a b : ByteArray} (h : a = b) : Ending.returned (.string a) = .returned (.string b) := by rw [h]
theorem xB (a b : Tx.Bs) : (⟨a.toArray⟩ : ByteArray) ++ ⟨b.toArray⟩ = ⟨(a ++ b).toArray⟩ := by
 apply ByteArray.ext; simp
theorem Dn (fmt lt : Tx.Bs) (at_ sv m : Int) (w : World) (hf : fmt.length ≤ 1000000) (hl : lt.length ≤ 1000000) (hm : w.cell? ⟨0, 0, none⟩ = some (.int .i64 m)) (h0 : 0 < w.heap.size) :
  Calls Tryz.prog 111 #[ag fmt, .agg #[.int .i64 at_, .int .i64 sv, ag lt]] w fun e w' => e = .returned (.string ⟨(kL fmt sv lt).toArray⟩) ∧ Below w.heap.size w w' := by
 obtain ⟨V, hV⟩ : ∃ V, w.alloc (.cells #[.int .i64 at_, .int .i64 sv, ag lt] 72) = V := ⟨_, rfl⟩
 have XV : ak V w.heap.size [.int .i64 at_, .int .i64 sv, ag lt] := by rw [← hV]; exact aD w [.int .i64 at_, .int .i64 sv, ag lt] 72
 have BV : Hid (Below w.heap.size w V) := by show Below _ _ _; rw [← hV]; exact (q4B _ w).alloc (Nat.le_refl _) _
 have mV : V.cell? ⟨0, 0, none⟩ = some (.int .i64 m) := (BV.out.cell (p := ⟨0, 0, none⟩) h0).trans hm
 have C1 := hid (tZ fmt Sx.pct m V (by omega) mV)
 have HX := hid XV
 have HF := hid hf
 have HM := hid mV
 obtain ⟨l1, l2⟩ := yQ fmt Sx.pct
 obtain ⟨a, ha⟩ : ∃ a, (Lib.cut fmt Sx.pct).1 = a := ⟨_, rfl⟩
 obtain ⟨b, hb⟩ : ∃ b, (Lib.cut fmt Sx.pct).2.1 = b := ⟨_, rfl⟩
 obtain ⟨c, hc⟩ : ∃ c, (Lib.cut fmt Sx.pct).2.2 = c := ⟨_, rfl⟩
 rw [ha, hb, hc] at C1
 rw [ha] at l1
 rw [hb] at l2
 have HN : Hid (kL fmt sv lt = if c = true then a ++ lt ++ b else if (Lib.cut fmt Sx.slash).2.2 = true ∧ 0 < sv then (Lib.cut fmt Sx.slash).2.1 else (Lib.cut fmt Sx.slash).1) := by
  show _ = _
  unfold kL; rw [ha, hb, hc]
 clear ha hb hc XV mV hm h0
 go_enter Tryz.func111, Tryz.ntmps111
 go_wp2_with fail
 refine C1.out.mono ?_
 rintro e w1 ⟨rfl, n, rfl⟩
 obtain ⟨⟨x0, _⟩, ⟨x1, _⟩, ⟨x2, _⟩, sx⟩ := cp3 HX.out
 cases c
 case true =>
  have EN : Hid (kL fmt sv lt = a ++ lt ++ b) := by show _ = _; rw [HN.out]; rfl
  go_wp2
  go_ret
  exact ⟨uk (by rw [EN.out, ← xB, ← xB]), BV.out.trans ((Cx V n).mono BV.out.size)⟩
 case false =>
  have C2 := hid (tZ fmt Sx.slash m (V.drewN n) (by omega) HM.out)
  obtain ⟨c, hc⟩ : ∃ c, (Lib.cut fmt Sx.slash).1 = c := ⟨_, rfl⟩
  obtain ⟨d, hd⟩ : ∃ d, (Lib.cut fmt Sx.slash).2.1 = d := ⟨_, rfl⟩
  obtain ⟨e, he⟩ : ∃ e, (Lib.cut fmt Sx.slash).2.2 = e := ⟨_, rfl⟩
  rw [hc, hd, he] at C2
  rw [hc, hd, he] at HN
  have BD := hid (BV.out.trans ((Cx V n).mono BV.out.size))
  clear hc hd he
  go_wp2_with fail
  refine C2.out.mono ?_
  rintro _ w2 ⟨rfl, n2, rfl⟩
  have BE := hid (fun k => BV.out.trans ((Cx V k).mono BV.out.size))
  cases e
  case false =>
   have EN : Hid (kL fmt sv lt = c) := by show _ = _; rw [HN.out]; simp
   go_wp2
   go_ret
   exact ⟨uk (by rw [EN.out]), BE.out _⟩
  case true =>
   by_cases hs : 0 < sv
   ·have HS := hid hs
    have EN : Hid (kL fmt sv lt = d) := by show _ = _; rw [HN.out]; simp [hs]
    have hs2 : decide (0 < sv) = true := by simp [hs]
    have hs3 : sv > 0 := hs
    go_wp2
    go_ret
    exact ⟨uk (by rw [EN.out]), BE.out _⟩
   ·have HS := hid hs
    have EN : Hid (kL fmt sv lt = c) := by show _ = _; rw [HN.out]; simp [hs]
    have hs2 : decide (0 < sv) = false := by simp [hs]
    go_wp2
    go_ret
    exact ⟨uk (by rw [EN.out]), BE.out _⟩
theorem JZ {b c : Nat} {u0 u1 v0 v1 v2 : Value} {w w' : World} (h : w.cell? ⟨b, 0, none⟩ = some u0 ∧ w.cell? ⟨b, 3, none⟩ = some u1 ∧ w.cell? ⟨c, 0, none⟩ = some v0 ∧ w.cell? ⟨c, 1, none⟩ = some v1 ∧ w.cell? ⟨c, 2, none⟩ = some v2) (hb : b < w.heap.size) (hc : c < w.heap.size) (hw : Below w.heap.size w w') :
  w'.cell? ⟨b, 0, none⟩ = some u0 ∧ w'.cell? ⟨b, 3, none⟩ = some u1 ∧ w'.cell? ⟨c, 0, none⟩ = some v0 ∧ w'.cell? ⟨c, 1, none⟩ = some v1 ∧ w'.cell? ⟨c, 2, none⟩ = some v2 :=
 ⟨(hw.cell (p := ⟨b, 0, none⟩) hb).trans h.1, (hw.cell (p := ⟨b, 3, none⟩) hb).trans h.2.1, (hw.cell (p := ⟨c, 0, none⟩) hc).trans h.2.2.1, (hw.cell (p := ⟨c, 1, none⟩) hc).trans h.2.2.2.1, (hw.cell (p := ⟨c, 2, none⟩) hc).trans h.2.2.2.2⟩
theorem uH {b c q o : Nat} {u u0 u1 v0 v1 v2 : Value} {w : World} (hb : ¬ b = q) (hc : ¬ c = q) (h : w.cell? ⟨b, 0, none⟩ = some u0 ∧ w.cell? ⟨b, 3, none⟩ = some u1 ∧ w.cell? ⟨c, 0, none⟩ = some v0 ∧ w.cell? ⟨c, 1, none⟩ = some v1 ∧ w.cell? ⟨c, 2, none⟩ = some v2) :
  (w.setCell ⟨q, o, none⟩ u).cell? ⟨b, 0, none⟩ = some u0 ∧ (w.setCell ⟨q, o, none⟩ u).cell? ⟨b, 3, none⟩ = some u1 ∧ (w.setCell ⟨q, o, none⟩ u).cell? ⟨c, 0, none⟩ = some v0 ∧ (w.setCell ⟨q, o, none⟩ u).cell? ⟨c, 1, none⟩ = some v1 ∧ (w.setCell ⟨q, o, none⟩ u).cell? ⟨c, 2, none⟩ = some v2 := by
 have e1 : ∀ k, (w.setCell ⟨q, o, none⟩ u).cell? ⟨b, k, none⟩ = w.cell? ⟨b, k, none⟩ := fun k => World.cell?_of_block (Below.heap_setCell _ _ _ _ hb)
 have e2 : ∀ k, (w.setCell ⟨q, o, none⟩ u).cell? ⟨c, k, none⟩ = w.cell? ⟨c, k, none⟩ := fun k => World.cell?_of_block (Below.heap_setCell _ _ _ _ hc)
 simp only [e1, e2]
 exact h
theorem Gf (x : Sx.Er) (t : Sx.Tm) (m : Int) (w : World) (hf : x.format.length ≤ 1000000) (hl : t.letter.length ≤ 1000000) (hm : w.cell? ⟨0, 0, none⟩ = some (.int .i64 m)) (h0 : 0 < w.heap.size)
  (b1 : -1000000000000 ≤ x.shift ∧ x.shift ≤ 1000000000000) (b2 : -1000000000000 ≤ t.save ∧ t.save ≤ 1000000000000) :
  Calls Tryz.prog 52 #[gZ x, iO t] w fun e w' => e = .returned (lcV ⟨x.shift + t.save, t.save, kL x.format t.save t.letter⟩) ∧ Below w.heap.size w w' := by
 obtain ⟨ta, ts, tl⟩ := t
 dsimp only at hl b2
 obtain ⟨N, hN⟩ : ∃ N, w.heap.size = N := ⟨_, rfl⟩
 obtain ⟨V, hV⟩ : ∃ V, ((w.alloc (.cells (ax x).toArray 67)).alloc (.cells #[.int .i64 ta, .int .i64 ts, ag tl] 72)).alloc (.cells #[.int .i64 0, .int .i64 0, .string ⟨#[]⟩] 31) = V := ⟨_, rfl⟩
 have XE := aM (aM (aD w (ax x) 67) (.cells #[.int .i64 ta, .int .i64 ts, ag tl] 72)) (.cells #[.int .i64 0, .int .i64 0, .string ⟨#[]⟩] 31)
 have XT := aM (aD (w.alloc (.cells (ax x).toArray 67)) [.int .i64 ta, .int .i64 ts, ag tl] 72) (.cells #[.int .i64 0, .int .i64 0, .string ⟨#[]⟩] 31)
 have XL := aD ((w.alloc (.cells (ax x).toArray 67)).alloc (.cells #[.int .i64 ta, .int .i64 ts, ag tl] 72)) [.int .i64 0, .int .i64 0, .string ⟨#[]⟩] 31
 have e2 : ((w.alloc (.cells (ax x).toArray 67)).alloc (.cells [.int .i64 ta, .int .i64 ts, ag tl].toArray 72)).alloc (.cells #[.int .i64 0, .int .i64 0, .string ⟨#[]⟩] 31) = V := hV
 have e3 : ((w.alloc (.cells (ax x).toArray 67)).alloc (.cells #[.int .i64 ta, .int .i64 ts, ag tl] 72)).alloc (.cells [.int .i64 0, .int .i64 0, .string ⟨#[]⟩].toArray 31) = V := hV
 rw [hV, hN] at XE
 rw [e2] at XT
 rw [e3] at XL
 simp only [World.size_alloc, hN] at XT XL
 have BV : Hid (Below N w V) := by show Below _ _ _; rw [← hV]; exact (((q4B N w).alloc (by omega) _).alloc (by simp; omega) _).alloc (by simp; omega) _
 have mV : V.cell? ⟨0, 0, none⟩ = some (.int .i64 m) := (BV.out.cell (p := ⟨0, 0, none⟩) (by show 0 < N; omega)).trans hm
 have sV := XL.1
 have EV := kH XE
 have UU : V.cell? ⟨N, 0, none⟩ = some (.int .i64 x.shift) ∧ V.cell? ⟨N, 3, none⟩ = some (ag x.format) ∧ V.cell? ⟨N + 1, 0, none⟩ = some (.int .i64 ta) ∧ V.cell? ⟨N + 1, 1, none⟩ = some (.int .i64 ts) ∧ V.cell? ⟨N + 1, 2, none⟩ = some (ag tl) := ⟨EV.1, EV.2.2.2.1, (aa XT 0 rfl).1, (aa XT 1 rfl).1, (aa XT 2 rfl).1⟩
 have UUd : V.drew.cell? ⟨N, 0, none⟩ = some (.int .i64 x.shift) ∧ V.drew.cell? ⟨N, 3, none⟩ = some (ag x.format) ∧ V.drew.cell? ⟨N + 1, 0, none⟩ = some (.int .i64 ta) ∧ V.drew.cell? ⟨N + 1, 1, none⟩ = some (.int .i64 ts) ∧ V.drew.cell? ⟨N + 1, 2, none⟩ = some (ag tl) := UU
 have CN := hid (Dn x.format tl ta ts m V.drew hf hl mV (by show 0 < V.heap.size; omega))
 have after : Hid (∀ w6, Below V.drew.heap.size V.drew w6 → (w6.cell? ⟨N, 0, none⟩ = some (.int .i64 x.shift) ∧ w6.cell? ⟨N, 3, none⟩ = some (ag x.format) ∧ w6.cell? ⟨N + 1, 0, none⟩ = some (.int .i64 ta) ∧ w6.cell? ⟨N + 1, 1, none⟩ = some (.int .i64 ts) ∧ w6.cell? ⟨N + 1, 2, none⟩ = some (ag tl)) ∧ ak w6 (N + 1 + 1) [.int .i64 0, .int .i64 0, .string ⟨#[]⟩] ∧ Below N w w6) := by
  intro w6 hb
  have hb' := af hb
  exact ⟨JZ UU (by omega) (by omega) hb', ai XL hb', BV.out.trans (hb'.mono (by omega))⟩
 have ne1 : ¬ N = N + 1 + 1 := by omega
 have ne2 : ¬ N + 1 = N + 1 + 1 := by omega
 obtain ⟨nm, hnm⟩ : ∃ nm, kL x.format ts tl = nm := ⟨_, rfl⟩
 rw [hnm] at CN
 have HNM := hid hnm
 have HNN := hid hN
 have HB1 := hid b1
 have HB2 := hid b2
 have B1 := b1.1
 have B1' := b1.2
 have B2 := b2.1
 have B2' := b2.2
 clear XE XT XL e2 e3 EV mV hm h0 hf hl hnm b1 b2
 go_enter Tryz.func52, Tryz.ntmps52
 simp only [hN]
 have hVx : ((w.alloc (.cells #[.int .i64 x.shift, ag x.rules, .int .i64 x.save, ag x.format, .bool x.opn, .int .i64 x.uy, .int .i64 x.um, .int .i64 x.ud, .int .i64 x.uat, .int .i64 x.uclock] 67)).alloc (.cells #[.int .i64 ta, .int .i64 ts, ag tl] 72)).alloc (.cells #[.int .i64 0, .int .i64 0, .string ⟨#[]⟩] 31) = V := hV
 go_wp2_with fail
 go_region_held3 (fun w' => w'.cell? ⟨N, 0, none⟩ = some (.int .i64 x.shift) ∧ w'.cell? ⟨N, 3, none⟩ = some (ag x.format) ∧ w'.cell? ⟨N + 1, 0, none⟩ = some (.int .i64 ta) ∧ w'.cell? ⟨N + 1, 1, none⟩ = some (.int .i64 ts) ∧ w'.cell? ⟨N + 1, 2, none⟩ = some (ag tl))
  (first | with_reducible exact UU | with_reducible exact UUd | with_reducible exact UU6 | with_reducible exact uH ne1 ne2 (uH ne1 ne2 (uH ne1 ne2 UU6)) | go_keep)
  (first | (go_at_call 111; (with_reducible refine CN.out.mono ?_); rintro e w6 ⟨rfl, hb6⟩; obtain ⟨UU6, L6, B6⟩ := after.out w6 hb6; obtain ⟨q0, k0⟩ := aa L6 0 rfl; obtain ⟨q1, k1⟩ := aa L6 1 rfl; obtain ⟨q2, k2⟩ := aa L6 2 rfl; have zx := L6.1; have B7 := hid B6; clear hb6 B6))
 all_goals
  have hw : IntKind.i64.wrap (x.shift + ts) = x.shift + ts := IntWalk.i64_in _ (by omega)
  rw [hw]
  have h1 : N ≤ N + 1 + 1 := by omega
  have h2 := aR (aR (aR B7.out h1 0 (.int .i64 (x.shift + ts))) h1 1 (.int .i64 ts)) h1 2 (.string ⟨nm.toArray⟩)
  go_wp2
  refine bodyPost_ret (v := lcV ⟨x.shift + ts, ts, nm⟩) (by simp [results, Tryz.results52, go_sem, *]) rfl ⟨by rw [HNM.out], h2⟩
end
section
open Go.RowKit Go.Shelf
attribute [local go_sem] Oper.semAt_some

theorem zN (x : Sx.Tm) (B : Nat) (at_ : Int) (w : World) (hB : B < w.heap.size) (h : w.cell? ⟨B, 0, none⟩ = some (.int .i64 at_)) :
  Calls Tryz.prog 114 #[iO x, .pointer (some ⟨B, 0, none⟩)] w fun e w' => e = .returned (.bool (decide (x.at_ ≤ at_))) ∧ Below w.heap.size w w' := by
 have BV := hid ((q4B w.heap.size w).alloc (Nat.le_refl _) (.cells (jq x).toArray 72))
 have XV := aD w (jq x) 72
 obtain ⟨x0, _⟩ := aa XV 0 rfl
 have y0 := (BV.out.cell (p := ⟨B, 0, none⟩) hB).trans h
 have sx := XV.1
 have sB : B < (w.alloc (.cells (jq x).toArray 72)).heap.size := q4N hB BV.out.size
 clear XV
 go_enter Tryz.func114, Tryz.ntmps114
 go_wp2
 go_ret
 exact ⟨rfl, BV.out⟩
/- what is saved at a time, and by what letter -/
def fA (rs : List Sx.Rl) (x : Sx.Er) (at_ : Int) : Sx.Tm := if x.rules = [] then ⟨0, x.save, []⟩ else lastT (fun t => decide (t.at_ ≤ at_)) (Sx.times rs x.rules x.shift)
theorem BI (rs : List Sx.Rl) (rv : Value) (x : Sx.Er) (at_ : Int) (w : World) (h : bY w rv rs) (hs : ∀ r ∈ rs, r.name.length ≤ maxLen ∧ r.letter.length ≤ maxLen) (hT : (Sx.times rs x.rules x.shift).length ≤ 10000) :
  Calls Tryz.prog 53 #[rv, gZ x, .int .i64 at_] w fun e w' => e = .returned (iO (fA rs x at_)) ∧ Below w.heap.size w w' := by
 obtain ⟨ra, rcap, rfl⟩ := bP h
 obtain ⟨N, hN⟩ : ∃ N, w.heap.size = N := ⟨_, rfl⟩
 obtain ⟨V, hV⟩ : ∃ V, ((w.alloc (.cells (ax x).toArray 67)).alloc (.cells #[.int .i64 at_] 3)).alloc (.cells #[.int .i64 0, .int .i64 0, .string ⟨#[]⟩] 72) = V := ⟨_, rfl⟩
 have XE := aM (aM (aD w (ax x) 67) (.cells #[.int .i64 at_] 3)) (.cells #[.int .i64 0, .int .i64 0, .string ⟨#[]⟩] 72)
 have XT := aM (aD (w.alloc (.cells (ax x).toArray 67)) [.int .i64 at_] 3) (.cells #[.int .i64 0, .int .i64 0, .string ⟨#[]⟩] 72)
 have XL := aD ((w.alloc (.cells (ax x).toArray 67)).alloc (.cells #[.int .i64 at_] 3)) [.int .i64 0, .int .i64 0, .string ⟨#[]⟩] 72
 have e2 : ((w.alloc (.cells (ax x).toArray 67)).alloc (.cells [.int .i64 at_].toArray 3)).alloc (.cells #[.int .i64 0, .int .i64 0, .string ⟨#[]⟩] 72) = V := hV
 have e3 : ((w.alloc (.cells (ax x).toArray 67)).alloc (.cells #[.int .i64 at_] 3)).alloc (.cells [.int .i64 0, .int .i64 0, .string ⟨#[]⟩].toArray 72) = V := hV
 rw [hV, hN] at XE
 rw [e2] at XT
 rw [e3] at XL
 simp only [World.size_alloc, hN] at XT XL
 have BV : Hid (Below N w V) := by show Below _ _ _; rw [← hV]; exact (((q4B N w).alloc (by omega) _).alloc (by simp; omega) _).alloc (by simp; omega) _
 have sV := XL.1
 obtain ⟨x0, x1, x2, x3, x4, x5, x6, x7, x8, x9⟩ := kH XE
 obtain ⟨⟨l0, g0⟩, ⟨l1, g1⟩, ⟨l2, g2⟩, -⟩ := cp3 XL
 have sE := XE.1
 have HNN := hid hN
 have HXT := hid XT
 have HXL := hid XL
 have H := hid h
 have HS := hid hs
 have HT := hid hT
 have CT := hid (yD rs (.slice ra rs.length rcap) x.rules x.shift V (au h (by rw [hN]; exact BV.out)) hs)
 clear XE XT XL e2 e3 h hs hT
 go_enter Tryz.func53, Tryz.ntmps53
 simp only [hN]
 have hVx : ((w.alloc (.cells #[.int .i64 x.shift, ag x.rules, .int .i64 x.save, ag x.format, .bool x.opn, .int .i64 x.uy, .int .i64 x.um, .int .i64 x.ud, .int .i64 x.uat, .int .i64 x.uclock] 67)).alloc (.cells #[.int .i64 at_] 3)).alloc (.cells #[.int .i64 0, .int .i64 0, .string ⟨#[]⟩] 72) = V := hV
 have h1 := hid (show N ≤ N + 1 + 1 by omega)
 by_cases hr : x.rules = []
 ·have ES : Hid (fA rs x at_ = ⟨0, x.save, []⟩) := by show _ = _; unfold fA; rw [if_pos hr]
  have he : List.isEmpty x.rules = true := by rw [hr]; rfl
  clear CT hr
  go_wp2
  have h2 := aR (aR (aR BV.out h1.out 0 (.int .i64 0)) h1.out 1 (.int .i64 x.save)) h1.out 2 (.string ⟨#[]⟩)
  refine bodyPost_ret (v := iO ⟨0, x.save, []⟩) (by simp [results, Tryz.results53, go_sem, *]) rfl ⟨by rw [ES.out], h2⟩
 ·have ES : Hid (fA rs x at_ = lastT (fun t => decide (t.at_ ≤ at_)) (Sx.times rs x.rules x.shift)) := by show _ = _; unfold fA; rw [if_neg hr]
  have he : List.isEmpty x.rules = false := by cases q : x.rules <;> simp_all
  have e1 : ∀ args w, (callFunc 114 args).run Tryz.prog w = .ok (.enter 114 args) w := enters_of Tryz.func114 (by kernel_rfl) rfl
  have eT : ∀ args w, (callFunc 163 args).run Tryz.prog w = .ok (.enter 163 args) w := enters_of Tryz.func163 (by kernel_rfl) rfl
  have C1 := hid (fun (W : World) (xs : List Sx.Tm) (ta : Option Addr) (tcap : Nat) (hW : Below V.heap.size V W) (hR : pR W (.slice ta xs.length tcap) xs) (hxs : xs.length ≤ 10000) =>
   let hWL : Below W.heap.size W (W.alloc (.cells #[.slice ta xs.length tcap] 68)) := (q4B W.heap.size W).alloc (Nat.le_refl _) _
   let hVL : Below V.heap.size V (W.alloc (.cells #[.slice ta xs.length tcap] 68)) := hW.trans (hWL.mono hW.size)
   FZ 163 114 #[.pointer (some ⟨W.heap.size, 0, none⟩)] #[.pointer (some ⟨N + 1, 0, none⟩)] (fun t => decide (t.at_ ≤ at_)) xs (W.alloc (.cells #[.slice ta xs.length tcap] 68)) eT e1
    (fun w1 hw1 => Hg 3 W.heap.size (by omega) xs ta tcap (W.alloc (.cells #[.slice ta xs.length tcap] 68)) w1 (au hR hWL) hxs ((hw1.cell (p := ⟨W.heap.size, 0, none⟩) (by simp)).trans (aa (aD W [.slice ta xs.length tcap] 68) 0 rfl).1) (q4N (by simp) hw1.size) hw1)
    (fun x _ W' hW' => by
     have hh := hVL.trans (hW'.mono hVL.size)
     exact zN x (N + 1) at_ W' (q4N HXT.out.1 hh.size) ((hh.cell (p := ⟨N + 1, 0, none⟩) HXT.out.1).trans (aa HXT.out 0 rfl).1)))
  clear e1 eT
  go_wp2_with fail
  refine CT.out.mono ?_
  rintro e w1 ⟨tv, rfl, hO, hb⟩
  have HB1 := hid hb
  have RT := hid (Bp hO)
  obtain ⟨ta, tcap, rfl⟩ := aQ hO
  obtain ⟨ts, hts⟩ : ∃ ts, Sx.times rs x.rules x.shift = ts := ⟨_, rfl⟩
  rw [hts] at RT ES HT ⊢
  obtain ⟨te, hte⟩ : ∃ te, Sx.bM rs x.rules x.shift = te := ⟨_, rfl⟩
  rw [hte]
  clear CT hO hb hte hts x0 x1 x2 x3 x4 x5 x6 x7 x8 x9 l0 g0 l1 g1 l2 g2 sE sV
  go_wp2_with fail
  refine (He _ _ _ _).mono ?_
  rintro e w2 ⟨rfl, rfl⟩
  go_wp2_with fail
  refine (C1.out w1 ts ta tcap HB1.out RT.out HT.out).mono ?_
  rintro e w3 ⟨rfl, hb⟩
  have HB3 : Hid (Below V.heap.size V w3) := HB1.out.trans (((q4B w1.heap.size w1).alloc (Nat.le_refl _) (.cells #[.slice ta ts.length tcap] 68)).trans (hb.mono (by simp)) |>.mono HB1.out.size)
  have L3 := ai HXL.out HB3.out
  obtain ⟨⟨l0, g0⟩, ⟨l1, g1⟩, ⟨l2, g2⟩, sL⟩ := cp3 L3
  obtain ⟨y, hy⟩ : ∃ y, lastT (fun t => decide (t.at_ ≤ at_)) ts = y := ⟨_, rfl⟩
  obtain ⟨A, hA⟩ : ∃ A, (ts.any fun t => decide (t.at_ ≤ at_)) = A := ⟨_, rfl⟩
  rw [hy, hA]
  rw [hy] at ES
  have B3 : Hid (Below N w w3) := BV.out.trans (HB3.out.mono (by have := HXL.out.1; omega))
  clear hb hy hA C1 L3
  go_wp2
  have h2 := (aR (aR (aR B3.out h1.out 0 (.int .i64 y.at_)) h1.out 1 (.int .i64 y.save)) h1.out 2 (.string ⟨y.letter.toArray⟩)).alloc (by have := B3.out.size; rw [HNN.out] at this; simpa using this) (.cells #[.int .i64 y.at_, .int .i64 y.save, .string ⟨y.letter.toArray⟩] 72)
  refine bodyPost_ret (v := iO y) (by simp [results, Tryz.results53, go_sem, *]) rfl ⟨by rw [ES.out], h2⟩
end
section
open Go.RowKit Go.Shelf
attribute [local go_sem] Oper.semAt_some

theorem JV (x : Sx.Er) (B : Nat) (at_ : Int) (w : World) (hB : B < w.heap.size) (h : w.cell? ⟨B, 0, none⟩ = some (.int .i64 at_)) (hok : x.opn = true ∨ kU x) :
  Calls Tryz.prog 50 #[gZ x, .pointer (some ⟨B, 0, none⟩)] w fun e w' => e = .returned (.bool (x.opn || decide (at_ < fC x))) ∧ Below w.heap.size w w' := by
 obtain ⟨sh, rl, sv, fm, op, uy, um, ud, ua, uc⟩ := x
 cases op
 case' true => obtain ⟨x, hx⟩ : ∃ x, (⟨sh, rl, sv, fm, true, uy, um, ud, ua, uc⟩ : Sx.Er) = x := ⟨_, rfl⟩
 case' false => obtain ⟨x, hx⟩ : ∃ x, (⟨sh, rl, sv, fm, false, uy, um, ud, ua, uc⟩ : Sx.Er) = x := ⟨_, rfl⟩
 all_goals
  obtain ⟨N, hN⟩ : ∃ N, w.heap.size = N := ⟨_, rfl⟩
  obtain ⟨V, hV⟩ : ∃ V, w.alloc (.cells (ax x).toArray 67) = V := ⟨_, rfl⟩
  have XV := aD w (ax x) 67
  rw [hV, hN] at XV
  have BV : Hid (Below N w V) := by show Below _ _ _; rw [← hV]; exact (q4B N w).alloc (by omega) _
  have y0 := (BV.out.cell (p := ⟨B, 0, none⟩) (by show B < N; omega)).trans h
  have sx := XV.1
  have sB : B < V.heap.size := by omega
  have EX := hid (show iA N x V ∧ V.cell? ⟨B, 0, none⟩ = some (.int .i64 at_) from ⟨kH XV, y0⟩)
  subst hx
  have x4 := EX.out.1.2.2.2.2.1
  dsimp only at x4
  clear XV y0 h
 case true =>
  clear hok
  go_enter Tryz.func50, Tryz.ntmps50
  simp only [hN]
  have hVx : w.alloc (.cells #[.int .i64 sh, ag rl, .int .i64 sv, ag fm, .bool true, .int .i64 uy, .int .i64 um, .int .i64 ud, .int .i64 ua, .int .i64 uc] 67) = V := hV
  go_wp2_with fail
  refine wp_region_held_drew (S := fun w' => iA N ⟨sh, rl, sv, fm, true, uy, um, ud, ua, uc⟩ w' ∧ w'.cell? ⟨B, 0, none⟩ = some (.int .i64 at_)) (by kernel_rfl) EX.out (fun hHeld => ?_)
  refine tkH 0 ?vz1 rfl ?z1 ?_
  case z1 => (intro w hSw; (obtain ⟨⟨s0, s1, s2, s3, s4, s5, s6, s7, s8, s9⟩, sb⟩ := hSw); (try dsimp only at s0 s1 s2 s3 s4 s5 s6 s7 s8 s9); go_simp; try with_reducible rfl)
  try simp only [Act.put, j]
  refine tkH 1 ?vz2 rfl ?z2 ?_
  case z2 => (intro w hSw; (obtain ⟨⟨s0, s1, s2, s3, s4, s5, s6, s7, s8, s9⟩, sb⟩ := hSw); (try dsimp only at s0 s1 s2 s3 s4 s5 s6 s7 s8 s9); go_simp; try with_reducible rfl)
  try simp only [Act.put, j]
  refine tkH 2 ?vz3 rfl ?z3 ?_
  case z3 => (intro w hSw; (obtain ⟨⟨s0, s1, s2, s3, s4, s5, s6, s7, s8, s9⟩, sb⟩ := hSw); (try dsimp only at s0 s1 s2 s3 s4 s5 s6 s7 s8 s9); go_simp; try with_reducible rfl)
  try simp only [Act.put, j]
  refine tkD 3 rfl ?_
  refine tkD 4 rfl ?_
  refine tkD 5 rfl ?_
  refine tkD 6 rfl ?_
  refine tkH 7 ?vz4 rfl ?z4 ?_
  case z4 => (intro w hSw; (obtain ⟨⟨s0, s1, s2, s3, s4, s5, s6, s7, s8, s9⟩, sb⟩ := hSw); (try dsimp only at s0 s1 s2 s3 s4 s5 s6 s7 s8 s9); go_simp; try with_reducible rfl)
  try simp only [Act.put, j]
  refine tkH 8 ?vz5 rfl ?z5 ?_
  case z5 => (intro w hSw; (obtain ⟨⟨s0, s1, s2, s3, s4, s5, s6, s7, s8, s9⟩, sb⟩ := hSw); (try dsimp only at s0 s1 s2 s3 s4 s5 s6 s7 s8 s9); go_simp; try with_reducible rfl)
  try simp only [Act.put, j]
  refine wpAnyH_done (by kernel_rfl) ?_ _
  go_wp2
  go_ret
  exact ⟨rfl, ⟨BV.out.os, BV.out.tape, BV.out.output, BV.out.size, BV.out.block⟩⟩
 case false =>
  have HOE : Hid (kU ⟨sh, rl, sv, fm, false, uy, um, ud, ua, uc⟩) := hok.resolve_left (by simp)
  have HC := hid (xM _ V.drew HOE.out)
  obtain ⟨en, hen⟩ : ∃ en, fC ⟨sh, rl, sv, fm, false, uy, um, ud, ua, uc⟩ = en := ⟨_, rfl⟩
  have ebd := Ih HOE.out
  rw [hen] at HC ebd
  have HEN := hid hen
  clear hok hen HOE
  have hVx : w.alloc (.cells #[.int .i64 sh, ag rl, .int .i64 sv, ag fm, .bool false, .int .i64 uy, .int .i64 um, .int .i64 ud, .int .i64 ua, .int .i64 uc] 67) = V := hV
  go_enter Tryz.func50, Tryz.ntmps50
  simp only [hN]
  go_wp2_with fail
  refine wp_region_held_drew (S := fun w' => iA N ⟨sh, rl, sv, fm, false, uy, um, ud, ua, uc⟩ w' ∧ w'.cell? ⟨B, 0, none⟩ = some (.int .i64 at_)) (by kernel_rfl) EX.out (fun hHeld => ?_)
  refine tkH 0 ?vz6 rfl ?z6 ?_
  case z6 => (intro w hSw; (obtain ⟨⟨s0, s1, s2, s3, s4, s5, s6, s7, s8, s9⟩, sb⟩ := hSw); (try dsimp only at s0 s1 s2 s3 s4 s5 s6 s7 s8 s9); go_simp; try with_reducible rfl)
  try simp only [Act.put, j]
  refine tkH 1 ?vz7 rfl ?z7 ?_
  case z7 => (intro w hSw; (obtain ⟨⟨s0, s1, s2, s3, s4, s5, s6, s7, s8, s9⟩, sb⟩ := hSw); (try dsimp only at s0 s1 s2 s3 s4 s5 s6 s7 s8 s9); go_simp; try with_reducible rfl)
  try simp only [Act.put, j]
  refine tkH 2 ?vz8 rfl ?z8 ?_
  case z8 => (intro w hSw; (obtain ⟨⟨s0, s1, s2, s3, s4, s5, s6, s7, s8, s9⟩, sb⟩ := hSw); (try dsimp only at s0 s1 s2 s3 s4 s5 s6 s7 s8 s9); go_simp; try with_reducible rfl)
  try simp only [Act.put, j]
  refine tkH 3 ?vz9 rfl ?z9 ?_
  case z9 => (intro w hSw; (obtain ⟨⟨s0, s1, s2, s3, s4, s5, s6, s7, s8, s9⟩, sb⟩ := hSw); (try dsimp only at s0 s1 s2 s3 s4 s5 s6 s7 s8 s9); go_simp; try with_reducible rfl)
  try simp only [Act.put, j]
  refine tkH 5 ?vz10 rfl ?z10 ?_
  case z10 => (intro w hSw; (obtain ⟨⟨s0, s1, s2, s3, s4, s5, s6, s7, s8, s9⟩, sb⟩ := hSw); (try dsimp only at s0 s1 s2 s3 s4 s5 s6 s7 s8 s9); go_simp; try with_reducible rfl)
  try simp only [Act.put, j]
  refine rdH 4 rfl fun K hK => ?_
  go_simp
  refine HC.out.mono ?_
  rintro e w7 ⟨rfl, hb7⟩
  have S7 : iA N ⟨sh, rl, sv, fm, false, uy, um, ud, ua, uc⟩ w7 ∧ w7.cell? ⟨B, 0, none⟩ = some (.int .i64 at_) := ⟨dz EX.out.1 (af hb7) sx, ((af hb7).cell (p := ⟨B, 0, none⟩) sB).trans EX.out.2⟩
  have B7 := hid (BV.out.trans ((af hb7).mono (Nat.le_of_lt sx)))
  refine hK.out _ _ ?_ (fun hHeld => ?_)
  ·exact S7
  clear hK K
  try simp only [Act.put, j]
  refine tkH 6 ?vz11 rfl ?z11 ?_
  case z11 => (intro w hSw; (obtain ⟨⟨s0, s1, s2, s3, s4, s5, s6, s7, s8, s9⟩, sb⟩ := hSw); (try dsimp only at s0 s1 s2 s3 s4 s5 s6 s7 s8 s9); go_simp; try with_reducible rfl)
  try simp only [Act.put, j]
  refine tkH 7 ?vz12 rfl ?z12 ?_
  case z12 => (intro w hSw; (obtain ⟨⟨s0, s1, s2, s3, s4, s5, s6, s7, s8, s9⟩, sb⟩ := hSw); (try dsimp only at s0 s1 s2 s3 s4 s5 s6 s7 s8 s9); go_simp; try with_reducible rfl)
  try simp only [Act.put, j]
  refine tkH 8 ?vz13 rfl ?z13 ?_
  case z13 => (intro w hSw; (obtain ⟨⟨s0, s1, s2, s3, s4, s5, s6, s7, s8, s9⟩, sb⟩ := hSw); (try dsimp only at s0 s1 s2 s3 s4 s5 s6 s7 s8 s9); go_simp; try with_reducible rfl)
  try simp only [Act.put, j]
  refine wpAnyH_done (by kernel_rfl) ?_ _
  go_wp2
  go_ret
  exact ⟨aC (by rw [HEN.out]; rfl), B7.out⟩
end
section
open Go.RowKit Go.Shelf
attribute [local go_sem] Oper.semAt_some

/- what Find answers, whatever world comes behind w -/
def FindAt (src : Value) (nm : Tx.Bs) (F : Int) (z : Sx.Zn) (w : World) : Prop :=
 ∀ W, Below w.heap.size w W → Calls Tryz.prog 16 #[src, ag nm] W fun e w' => ∃ v, e = .returned (.tuple #[.agg #[ag z.name, v], .int .i64 F]) ∧ eG w' W.heap.size v z.eras ∧ Below W.heap.size W w'
theorem vY {w : World} {B : Nat} {v : Value} {l : List Sx.Er} (h : eG w B v l) : gQ w v l := ku gJ h
theorem nC {w : World} {B : Nat} {a : Option Addr} {n c : Nat} {l : List Sx.Er} (h : eG w B (.slice a n c) l) : n ≤ c := by
 rcases h.2 with h' | h'
 ·obtain ⟨e, _⟩ := h'; simp at e; omega
 ·obtain ⟨b, cap, cur, e, _, _, q, _⟩ := h'; simp at e; omega
theorem Ii (nm : Tx.Bs) (z : Sx.Zn) (F : Int) (ra za la : Option Addr) (n1 n2 n3 rcap zcap lcap : Nat) (w : World) (hF : FindAt (.agg #[.slice ra n1 rcap, .slice za n2 zcap, .slice la n3 lcap]) nm F z w)
  (hz : F = 0 → z.eras.length ≤ 1000 ∧ ∀ e ∈ z.eras, e.opn = true ∨ kU e) :
  Calls Tryz.prog 17 #[.agg #[.slice ra n1 rcap, .slice za n2 zcap, .slice la n3 lcap], ag nm] w fun e w' => ∃ v, e = .returned (.tuple #[v, .int .i64 F]) ∧ pO w' w.heap.size v (if F = 0 then fu z.eras else []) ∧ Below w.heap.size w w' := by
 have HZ := hid hz
 obtain ⟨V, hV⟩ : ∃ V, w.alloc (.cells #[.slice ra n1 rcap, .slice za n2 zcap, .slice la n3 lcap] 26) = V := ⟨_, rfl⟩
 have BV : Hid (Below w.heap.size w V) := by show Below _ _ _; rw [← hV]; exact (q4B _ w).alloc (Nat.le_refl _) _
 have XV : ak V w.heap.size [.slice ra n1 rcap, .slice za n2 zcap, .slice la n3 lcap] := by rw [← hV]; exact aD w [.slice ra n1 rcap, .slice za n2 zcap, .slice la n3 lcap] 26
 have CF := hid (hF V BV.out)
 obtain ⟨⟨s0, _⟩, ⟨s1, _⟩, ⟨s2, _⟩, sx⟩ := cp3 XV
 clear hF hz XV
 go_enter Tryz.func17, Tryz.ntmps17
 go_wp2_with fail
 refine CF.out.mono ?_
 rintro e w1 ⟨v, rfl, hO, hb⟩
 have R1 := hid (vY hO)
 obtain ⟨ca, cc, rfl⟩ := aQ hO
 have CAP := hid (nC hO)
 have B1 : Hid (Below w.heap.size w w1) := BV.out.trans (hb.mono BV.out.size)
 clear hO hb CF s0 s1 s2 sx
 by_cases hq : F = 0
 case neg =>
  have hq2 : (F == 0) = false := by simp [hq]
  have E1 : Hid ((if F = 0 then fu z.eras else []) = []) := by show _ = _; rw [if_neg hq]
  go_wp2
  refine bodyPost_ret (v := .tuple #[.slice none 0 0, .int .i64 F]) (by simp [results, Tryz.results17, go_sem]) rfl ⟨_, rfl, World.ownsRow_nil _ _ _ _, B1.out.alloc B1.out.size _⟩
 subst hq
 obtain ⟨hl, hok⟩ := HZ.out rfl
 have CE := hid (fun W hW => Ap ⟨z, ca, cc⟩ W (au R1.out hW) hl CAP.out hok)
 have E1 : Hid ((if (0 : Int) = 0 then fu z.eras else []) = fu z.eras) := by show _ = _; rw [if_pos rfl]
 clear HZ hl hok
 go_wp2_with fail
 refine (CE.out _ ((q4B w1.heap.size w1).alloc (Nat.le_refl _) _)).mono ?_
 rintro e w2 ⟨v2, rfl, hO2, hb2⟩
 have HO2 := hid hO2
 have B2 : Hid (Below w.heap.size w w2) := B1.out.trans ((((q4B w1.heap.size w1).alloc (Nat.le_refl _) _).trans (hb2.mono (by simp))).mono B1.out.size)
 have S2 := hid B1.out.size
 clear hO2 hb2 CE
 go_wp2
 refine bodyPost_ret (v := .tuple #[v2, .int .i64 0]) (by simp [results, Tryz.results17, go_sem]) rfl ⟨v2, rfl, gK HO2.out (by have := S2.out; simp; omega), B2.out⟩
end
section
open Go.RowKit

end
section
open Go.RowKit

end

section
open Go.RowKit

def bF (l : Tx.Bs) : Bool := !l.isEmpty && decide (l.length ≤ 24) && Sx.bi l
theorem sU (n : Int) (w : World) {b : Bool} (h : Tb.uf n = b) :
  Calls Tryz.prog 47 #[.int .i64 n] w fun e w' => e = .returned (.bool b) ∧ w' = w := by
 have H : Hid (b = decide ((-62135596800 : Int) ≤ n ∧ n ≤ 253402300799)) := h.symm
 clear h
 have h5 : n < -62135596800 ∨ (-62135596800 ≤ n ∧ n ≤ 253402300799) ∨ (-62135596800 ≤ n ∧ 253402300799 < n) := by omega
 rcases h5 with h1 | ⟨h1, h2⟩ | ⟨h1, h2⟩
 all_goals
  go_enter Tryz.func47, Tryz.ntmps47
  go_wp2
  go_ret
  exact ⟨aC (by rw [H.out, Bool.eq_iff_iff]; simp only [Bool.or_eq_true, Bool.and_eq_true, decide_eq_true_eq, Bool.false_eq_true, iff_false, false_iff, iff_true, true_iff]; omega), rfl⟩
end
section
open Go.RowKit Go.Shelf
attribute [local go_sem] Oper.semAt_some
attribute [local go_sem ↓] Go.wp_at_zero Go.wp_at_succ

/- the era at a time, and what stands there -/
def dD (z : Sx.Zn) (at_ : Int) : Sx.Er := (z.eras.find? fun x => x.opn || decide (at_ < fC x)).getD zeroE
def nu (rs : List Sx.Rl) (z : Sx.Zn) (at_ : Int) : Tb.Lc := ⟨(dD z at_).shift + (fA rs (dD z at_) at_).save, (fA rs (dD z at_) at_).save, kL (dD z at_).format (fA rs (dD z at_) at_).save (fA rs (dD z at_) at_).letter⟩
def atE (F at_ : Int) : Int := if F ≠ 0 then F else if Tb.uf at_ = true then 0 else 3
def atL (F at_ : Int) (rs : List Sx.Rl) (z : Sx.Zn) : Tb.Lc := if atE F at_ = 0 then nu rs z at_ else lc0
/- what At leans on in a zone that is found -/
structure AtOk (rs : List Sx.Rl) (z : Sx.Zn) (at_ : Int) : Prop where
 few : z.eras.length ≤ 10000
 ok : ∀ e ∈ z.eras, e.opn = true ∨ kU e
 times : (Sx.times rs (dD z at_).rules (dD z at_).shift).length ≤ 10000
 fmt : (dD z at_).format.length ≤ 1000000
 let_ : (fA rs (dD z at_) at_).letter.length ≤ 1000000
 sh : -1000000000000 ≤ (dD z at_).shift ∧ (dD z at_).shift ≤ 1000000000000
 sv : -1000000000000 ≤ (fA rs (dD z at_) at_).save ∧ (fA rs (dD z at_) at_).save ≤ 1000000000000
theorem yO {M N k : Nat} {y : Sx.Er} {r a v : Value} {W : World} (h : iA M y W ∧ W.cell? ⟨N, 0, none⟩ = some r ∧ W.cell? ⟨N + 1, 0, none⟩ = some a) (hn : ¬ M = N + 1 + 1) :
  iA M y (W.setCell ⟨N + 1 + 1, k, none⟩ v) ∧ (W.setCell ⟨N + 1 + 1, k, none⟩ v).cell? ⟨N, 0, none⟩ = some r ∧ (W.setCell ⟨N + 1 + 1, k, none⟩ v).cell? ⟨N + 1, 0, none⟩ = some a := by
 have e : ∀ b j, ¬ b = N + 1 + 1 → (W.setCell ⟨N + 1 + 1, k, none⟩ v).cell? ⟨b, j, none⟩ = W.cell? ⟨b, j, none⟩ := fun b j hb => World.cell?_of_block (Below.heap_setCell _ _ _ _ hb)
 obtain ⟨⟨b0, b1, b2, b3, b4, b5, b6, b7, b8, b9⟩, hr, ha⟩ := h
 exact ⟨⟨(e M 0 hn).trans b0, (e M 1 hn).trans b1, (e M 2 hn).trans b2, (e M 3 hn).trans b3, (e M 4 hn).trans b4, (e M 5 hn).trans b5, (e M 6 hn).trans b6, (e M 7 hn).trans b7, (e M 8 hn).trans b8, (e M 9 hn).trans b9⟩, (e N 0 (by omega)).trans hr, (e (N + 1) 0 (by omega)).trans ha⟩
theorem KW (nm : Tx.Bs) (at_ m : Int) (rs : List Sx.Rl) (z : Sx.Zn) (F : Int) (ra za la : Option Addr) (n2 n3 rcap zcap lcap : Nat) (w : World) (h1 : bY w (.slice ra rs.length rcap) rs) (hs : ∀ r ∈ rs, r.name.length ≤ maxLen ∧ r.letter.length ≤ maxLen)
  (hm : w.cell? ⟨0, 0, none⟩ = some (.int .i64 m)) (h0 : 0 < w.heap.size) (hF : FindAt (.agg #[.slice ra rs.length rcap, .slice za n2 zcap, .slice la n3 lcap]) nm F z w) (hz : F = 0 → Tb.uf at_ = true → AtOk rs z at_) :
  Calls Tryz.prog 15 #[.agg #[.slice ra rs.length rcap, .slice za n2 zcap, .slice la n3 lcap], ag nm, .int .i64 at_] w fun e w' => e = .returned (.tuple #[lcV (atL F at_ rs z), .int .i64 (atE F at_)]) ∧ Below w.heap.size w w' := by
 have HZ := hid hz
 have H1 := hid h1
 have HS := hid hs
 have HM := hid hm
 have H0 := hid h0
 obtain ⟨N, hN⟩ : ∃ N, w.heap.size = N := ⟨_, rfl⟩
 obtain ⟨V, hV⟩ : ∃ V, ((w.alloc (.cells #[.slice ra rs.length rcap, .slice za n2 zcap, .slice la n3 lcap] 26)).alloc (.cells #[.int .i64 at_] 3)).alloc (.cells #[.int .i64 0, .int .i64 0, .string ⟨#[]⟩] 31) = V := ⟨_, rfl⟩
 have XS := aM (aM (aD w [.slice ra rs.length rcap, .slice za n2 zcap, .slice la n3 lcap] 26) (.cells #[.int .i64 at_] 3)) (.cells #[.int .i64 0, .int .i64 0, .string ⟨#[]⟩] 31)
 have XT := aM (aD (w.alloc (.cells #[.slice ra rs.length rcap, .slice za n2 zcap, .slice la n3 lcap] 26)) [.int .i64 at_] 3) (.cells #[.int .i64 0, .int .i64 0, .string ⟨#[]⟩] 31)
 have XL := aD ((w.alloc (.cells #[.slice ra rs.length rcap, .slice za n2 zcap, .slice la n3 lcap] 26)).alloc (.cells #[.int .i64 at_] 3)) [.int .i64 0, .int .i64 0, .string ⟨#[]⟩] 31
 have e1 : ((w.alloc (.cells [.slice ra rs.length rcap, .slice za n2 zcap, .slice la n3 lcap].toArray 26)).alloc (.cells #[.int .i64 at_] 3)).alloc (.cells #[.int .i64 0, .int .i64 0, .string ⟨#[]⟩] 31) = V := hV
 have e2 : ((w.alloc (.cells #[.slice ra rs.length rcap, .slice za n2 zcap, .slice la n3 lcap] 26)).alloc (.cells [.int .i64 at_].toArray 3)).alloc (.cells #[.int .i64 0, .int .i64 0, .string ⟨#[]⟩] 31) = V := hV
 have e3 : ((w.alloc (.cells #[.slice ra rs.length rcap, .slice za n2 zcap, .slice la n3 lcap] 26)).alloc (.cells #[.int .i64 at_] 3)).alloc (.cells [.int .i64 0, .int .i64 0, .string ⟨#[]⟩].toArray 31) = V := hV
 rw [e1, hN] at XS
 rw [e2] at XT
 rw [e3] at XL
 simp only [World.size_alloc, hN] at XT XL
 have BV : Hid (Below N w V) := by show Below _ _ _; rw [← hV]; exact (((q4B N w).alloc (by omega) _).alloc (by simp; omega) _).alloc (by simp; omega) _
 have sV := XL.1
 obtain ⟨⟨s0, _⟩, ⟨s1, _⟩, ⟨s2, _⟩, -⟩ := cp3 XS
 have HXS := hid XS
 have HXT := hid XT
 have HXL := hid XL
 have HNN := hid hN
 have CF := hid (hF V (by rw [hN]; exact BV.out))
 clear XS XT XL e1 e2 e3 h1 hs hm h0 hF hz
 go_enter Tryz.func15, Tryz.ntmps15
 simp only [hN]
 go_wp2_with fail
 refine CF.out.mono ?_
 rintro e w1 ⟨v, rfl, hO, hb⟩
 have R1 := hid (vY hO)
 obtain ⟨ca, cc, rfl⟩ := aQ hO
 have CAP := hid (nC hO)
 have B1 : Hid (Below N w w1) := BV.out.trans (hb.mono (by omega))
 have S1 := hid (ai HXS.out hb)
 have T1 := hid (ai HXT.out hb)
 have L1 := hid (ai HXL.out hb)
 have h1 := hid (show N ≤ N + 1 + 1 by omega)
 clear hO hb CF s0 s1 s2 sV BV HXS HXT HXL
 obtain ⟨M0, hM0⟩ : ∃ M0, w1.heap.size = M0 := ⟨_, rfl⟩
 obtain ⟨V1, hV1⟩ : ∃ V1, w1.alloc (.cells #[.string ⟨z.name.toArray⟩, .slice ca z.eras.length cc] 44) = V1 := ⟨_, rfl⟩
 have Y1 : Hid (ak V1 M0 [ag z.name, .slice ca z.eras.length cc]) := by show ak _ _ _; rw [← hV1, ← hM0]; exact aD w1 [ag z.name, .slice ca z.eras.length cc] 44
 have BV1 : Hid (Below w1.heap.size w1 V1) := by show Below _ _ _; rw [← hV1]; exact (q4B w1.heap.size w1).alloc (Nat.le_refl _) _
 have HM0 := hid hM0
 have LV := hid (ai L1.out BV1.out)
 have TV := hid (ai T1.out BV1.out)
 have SV1 := hid (ai S1.out BV1.out)
 have BN : Hid (Below N w V1) := B1.out.trans (BV1.out.mono (by have := B1.out.size; rw [HNN.out] at this; exact this))
 obtain ⟨⟨l0, g0⟩, ⟨l1, g1⟩, ⟨l2, g2⟩, sL⟩ := cp3 LV.out
 by_cases hq : F = 0
 case neg =>
  have hq2 : (F == 0) = false := by simp [hq]
  have E1 : Hid (atE F at_ = F) := by show _ = _; unfold atE; rw [if_pos hq]
  have E2 : Hid (atL F at_ rs z = lc0) := by show _ = _; unfold atL; rw [E1.out, if_neg hq]
  have HQ := hid hq
  have h2 := hid (aR (aR (aR BN.out h1.out 0 (.int .i64 0)) h1.out 1 (.int .i64 0)) h1.out 2 (.string ⟨#[]⟩))
  go_wp2
  refine bodyPost_ret (v := .tuple #[lcV lc0, .int .i64 F]) (by simp [results, Tryz.results15, go_sem, lc0, *]) rfl ⟨by rw [E1.out, E2.out], h2.out⟩
 subst hq
 obtain ⟨q, hq⟩ : ∃ q, Tb.uf at_ = q := ⟨_, rfl⟩
 have HQ := hid hq
 cases q
 case false =>
  have E1 : Hid (atE 0 at_ = 3) := by show _ = _; unfold atE; rw [hq]; rfl
  have E2 : Hid (atL 0 at_ rs z = lc0) := by show _ = _; unfold atL; rw [E1.out]; rfl
  clear hq
  have CY := hid (sU at_ V1 HQ.out)
  obtain ⟨t0, _⟩ := aa TV.out 0 rfl
  have sT := TV.out.1
  have h2 := hid (aR (aR (aR BN.out h1.out 0 (.int .i64 0)) h1.out 1 (.int .i64 0)) h1.out 2 (.string ⟨#[]⟩))
  go_wp2_with fail
  refine CY.out.mono ?_
  rintro e w2 ⟨rfl, rfl⟩
  clear CY
  go_wp2
  refine bodyPost_ret (v := .tuple #[lcV lc0, .int .i64 3]) (by simp [results, Tryz.results15, go_sem, lc0, *]) rfl ⟨by rw [E1.out, E2.out], h2.out⟩
 have AO := hid (HZ.out rfl hq)
 have E1 : Hid (atE 0 at_ = 0) := by show _ = _; unfold atE; rw [hq]; rfl
 have E2 : Hid (atL 0 at_ rs z = nu rs z at_) := by show _ = _; unfold atL; rw [E1.out]; rfl
 have CY := hid (sU at_ V1 HQ.out)
 clear HZ hq
 obtain ⟨t0, _⟩ := aa TV.out 0 rfl
 have sT := TV.out.1
 obtain ⟨⟨z0, _⟩, ⟨z1, _⟩, sZ⟩ := cp2 Y1.out
 go_wp2_with fail
 refine CY.out.mono ?_
 rintro e w2 ⟨rfl, rfl⟩
 clear CY
 obtain ⟨K0, hK0⟩ : ∃ K0, w2.heap.size = K0 := ⟨_, rfl⟩
 obtain ⟨U2, hU2⟩ : ∃ U2, (w2.alloc (.cells #[ag z.name, .slice ca z.eras.length cc] 44)).alloc (.cells #[.slice (some ⟨K0, 0, none⟩) 1 1] 23) = U2 := ⟨_, rfl⟩
 have uS : U2.heap.size = K0 + 2 := by rw [← hU2]; simp [hK0]
 have CAz := aM (aD w2 [ag z.name, .slice ca z.eras.length cc] 44) (.cells #[.slice (some ⟨K0, 0, none⟩) 1 1] 23)
 have CAs := aD (w2.alloc (.cells #[ag z.name, .slice ca z.eras.length cc] 44)) [.slice (some ⟨K0, 0, none⟩) 1 1] 23
 have eu1 : (w2.alloc (.cells [ag z.name, .slice ca z.eras.length cc].toArray 44)).alloc (.cells #[.slice (some ⟨K0, 0, none⟩) 1 1] 23) = U2 := hU2
 have eu2 : (w2.alloc (.cells #[ag z.name, .slice ca z.eras.length cc] 44)).alloc (.cells [.slice (some ⟨K0, 0, none⟩) 1 1].toArray 23) = U2 := hU2
 rw [eu1, hK0] at CAz
 rw [eu2] at CAs
 simp only [World.size_alloc, hK0] at CAs
 have BU : Hid (Below w2.heap.size w2 U2) := by show Below _ _ _; rw [← hU2]; exact ((q4B _ w2).alloc (Nat.le_refl _) _).alloc (by simp) _
 have RZ : jr U2 (.slice (some ⟨K0, 0, none⟩) [(⟨z, ca, cc⟩ : ZV)].length 1) [z] [⟨z, ca, cc⟩] := by
  refine ⟨rfl, ⟨some ⟨K0, 0, none⟩, 1, rfl, fun _ => ⟨K0, 0, rfl, CAz.1, ?_⟩⟩, ?_, ?_⟩
  ·intro i y hy k u hu
   match i, hy with
   | 0, hy =>
     simp at hy; subst hy
     have := (aa CAz k hu).1
     simpa using this
  ·intro p hp
   simp at hp; subst hp
   exact au R1.out (BV1.out.trans (BU.out.mono BV1.out.size))
  ·intro p hp
   simp at hp; subst hp
   exact CAP.out
 have eA : ∀ args w, (callFunc 50 args).run Tryz.prog w = .ok (.enter 50 args) w := enters_of Tryz.func50 (by kernel_rfl) rfl
 have eE : ∀ args w, (callFunc 110 args).run Tryz.prog w = .ok (.enter 110 args) w := enters_of Tryz.func110 (by kernel_rfl) rfl
 have TU := ai TV.out BU.out
 have CE := hid (uT 110 50 #[.pointer (some ⟨K0 + 1, 0, none⟩)] #[.pointer (some ⟨N + 1, 0, none⟩)] (fun x => x.opn || decide (at_ < fC x)) (aS [⟨z, ca, cc⟩]) U2 eE eA
  (fun w1 hw1 => AC 3 (K0 + 1) (by omega) [⟨z, ca, cc⟩] [z] (some ⟨K0, 0, none⟩) 1 U2 w1 RZ (by simp) (fun p hp => by simp at hp; subst hp; exact AO.out.few) ((hw1.cell (p := ⟨K0 + 1, 0, none⟩) CAs.1).trans (aa CAs 0 rfl).1) (q4N CAs.1 hw1.size) hw1)
  (fun x hx W' hW' => JV x (N + 1) at_ W' (q4N TU.1 hW'.size) ((hW'.cell (p := ⟨N + 1, 0, none⟩) TU.1).trans (aa TU 0 rfl).1) (AO.out.ok x (by simpa [aS] using hx))))
 have hU3 : (w2.alloc (.cells #[.string ⟨z.name.toArray⟩, .slice ca z.eras.length cc] 44)).alloc (.cells #[.slice (some ⟨K0, 0, none⟩) 1 1] 23) = U2 := hU2
 have HK0 := hid hK0
 clear eA eE RZ CAz CAs eu1 eu2 TU
 go_wp2_with fail
 refine (qd _ _ _ _).mono ?_
 rintro e w3 ⟨rfl, rfl⟩
 go_wp2_with fail
 refine CE.out.mono ?_
 rintro e w4 ⟨rfl, hb⟩
 have HB4 : Hid (Below w2.heap.size w2 w4) := BU.out.trans (hb.mono BU.out.size)
 have ey : dD z at_ = ((aS [⟨z, ca, cc⟩]).find? fun x => x.opn || decide (at_ < fC x)).getD zeroE := by simp [dD, aS]
 rw [← ey]
 obtain ⟨A, hA⟩ : ∃ A, ((aS [⟨z, ca, cc⟩]).any fun x => x.opn || decide (at_ < fC x)) = A := ⟨_, rfl⟩
 rw [hA]
 obtain ⟨y, hy⟩ : ∃ y, dD z at_ = y := ⟨_, rfl⟩
 obtain ⟨T, hT⟩ : ∃ T, fA rs y at_ = T := ⟨_, rfl⟩
 obtain ⟨a1, a2, a3, a4, a5, a6, a7⟩ := AO.out
 have EL : Hid (nu rs z at_ = ⟨y.shift + T.save, T.save, kL y.format T.save T.letter⟩) := by show _ = _; unfold nu; rw [hy, hT]
 rw [hy] at a3 a4 a5 a6 a7 ⊢
 rw [hT] at a5 a7
 obtain ⟨M, hM⟩ : ∃ M, w4.heap.size = M := ⟨_, rfl⟩
 obtain ⟨V3, hV3⟩ : ∃ V3, w4.alloc (.cells (ax y).toArray 67) = V3 := ⟨_, rfl⟩
 have XE := aD w4 (ax y) 67
 rw [hV3, hM] at XE
 have B34 : Below w4.heap.size w4 V3 := by rw [← hV3]; exact (q4B w4.heap.size w4).alloc (Nat.le_refl _) _
 have B3 : Hid (Below w2.heap.size w2 V3) := HB4.out.trans (B34.mono HB4.out.size)
 have BN3 : Hid (Below N w V3) := BN.out.trans (B3.out.mono (by have := SV1.out.1; omega))
 have S3 := ai SV1.out B3.out
 have T3 := ai TV.out B3.out
 have HL3 := hid (ai LV.out B3.out)
 have sl3 := HL3.out.1
 have sm3 := XE.1
 have sM : w2.heap.size ≤ M := by have := HB4.out.size; omega
 have sL2 := LV.out.1
 have SX := hid (show iA M y V3 ∧ V3.cell? ⟨N, 0, none⟩ = some (.slice ra rs.length rcap) ∧ V3.cell? ⟨N + 1, 0, none⟩ = some (.int .i64 at_) from ⟨kH XE, (aa S3 0 rfl).1, (aa T3 0 rfl).1⟩)
 have KS : Hid (∀ w7, Below V3.heap.size V3 w7 → iA M y w7 ∧ w7.cell? ⟨N, 0, none⟩ = some (.slice ra rs.length rcap) ∧ w7.cell? ⟨N + 1, 0, none⟩ = some (.int .i64 at_)) := fun w7 hb => ⟨dz SX.out.1 hb sm3, (hb.cell (p := ⟨N, 0, none⟩) (by show N < V3.heap.size; omega)).trans SX.out.2.1, (hb.cell (p := ⟨N + 1, 0, none⟩) (by show N + 1 < V3.heap.size; omega)).trans SX.out.2.2⟩
 have KP : Hid (∀ w8, (iA M y w8 ∧ w8.cell? ⟨N, 0, none⟩ = some (.slice ra rs.length rcap) ∧ w8.cell? ⟨N + 1, 0, none⟩ = some (.int .i64 at_)) → ∀ v0 v1 v2, (fun w' => iA M y w' ∧ w'.cell? ⟨N, 0, none⟩ = some (.slice ra rs.length rcap) ∧ w'.cell? ⟨N + 1, 0, none⟩ = some (.int .i64 at_)) (((w8.setCell ⟨N + 1 + 1, 0, none⟩ v0).setCell ⟨N + 1 + 1, 1, none⟩ v1).setCell ⟨N + 1 + 1, 2, none⟩ v2)) := by
  intro w8 h8 v0 v1 v2
  have nM : ¬ M = N + 1 + 1 := by omega
  exact yO (yO (yO h8 nM) nM) nM
 have CS0 := BI rs (.slice ra rs.length rcap) y at_ V3.drew (au H1.out (by rw [HNN.out]; exact ⟨BN3.out.os, BN3.out.tape, BN3.out.output, BN3.out.size, BN3.out.block⟩)) HS.out a3
 rw [hT] at CS0
 have CS := hid CS0
 have CL := hid (fun (w7 : World) (hb : Below V3.heap.size V3 w7) => Gf y T m w7 a4 a5 ((hb.cell (p := ⟨0, 0, none⟩) (by show 0 < V3.heap.size; omega)).trans ((BN3.out.cell (p := ⟨0, 0, none⟩) (by show 0 < N; have := H0.out; omega)).trans HM.out)) (q4N (by omega) hb.size) a6 a7)
 have hV3x : w4.alloc (.cells #[.int .i64 y.shift, ag y.rules, .int .i64 y.save, ag y.format, .bool y.opn, .int .i64 y.uy, .int .i64 y.um, .int .i64 y.ud, .int .i64 y.uat, .int .i64 y.uclock] 67) = V3 := hV3
 have sz3 := hid (show N ≤ V3.heap.size by omega)
 clear CE hb HB4 B34 hA hy hT ey AO CS0 XE S3 T3 BU hU2 hU3 a1 a2 a3 a4 a5 a6 a7 l0 g0 l1 g1 l2 g2 sL sL2 z0 z1 sZ t0 sT
 have xx := SX.out
 obtain ⟨⟨x0, x1, x2, x3, x4, x5, x6, x7, x8, x9⟩, xr, xa⟩ := xx
 go_wp2_with fail
 refine wp_region_held_drew (S := fun w' => iA M y w' ∧ w'.cell? ⟨N, 0, none⟩ = some (.slice ra rs.length rcap) ∧ w'.cell? ⟨N + 1, 0, none⟩ = some (.int .i64 at_)) (by kernel_rfl) SX.out (fun hHeld => ?_)
 refine tkH 0 ?vz1 rfl ?z1 ?_
 case z1 => (intro w hSw; (obtain ⟨⟨s0, s1, s2, s3, s4, s5, s6, s7, s8, s9⟩, sr, sa⟩ := hSw); go_simp; try with_reducible rfl)
 try simp only [Act.put, j]
 refine tkH 1 ?vz2 rfl ?z2 ?_
 case z2 => (intro w hSw; (obtain ⟨⟨s0, s1, s2, s3, s4, s5, s6, s7, s8, s9⟩, sr, sa⟩ := hSw); go_simp; try with_reducible rfl)
 try simp only [Act.put, j]
 refine tkH 2 ?vz3 rfl ?z3 ?_
 case z3 => (intro w hSw; (obtain ⟨⟨s0, s1, s2, s3, s4, s5, s6, s7, s8, s9⟩, sr, sa⟩ := hSw); go_simp; try with_reducible rfl)
 try simp only [Act.put, j]
 refine tkH 3 ?vz4 rfl ?z4 ?_
 case z4 => (intro w hSw; (obtain ⟨⟨s0, s1, s2, s3, s4, s5, s6, s7, s8, s9⟩, sr, sa⟩ := hSw); go_simp; try with_reducible rfl)
 try simp only [Act.put, j]
 refine tkH 4 ?vz5 rfl ?z5 ?_
 case z5 => (intro w hSw; (obtain ⟨⟨s0, s1, s2, s3, s4, s5, s6, s7, s8, s9⟩, sr, sa⟩ := hSw); go_simp; try with_reducible rfl)
 try simp only [Act.put, j]
 refine rdH 5 rfl fun K hK => ?_
 go_simp
 refine CS.out.mono ?_
 rintro e w7 ⟨rfl, hb7⟩
 have hb7' := af hb7
 have S7 := KS.out w7 hb7'
 have CL7 := hid (CL.out w7 hb7')
 refine hK.out _ _ ?_ (fun hHeld => ?_)
 ·exact S7
 clear hK K
 try simp only [Act.put, j]
 refine rdH 6 rfl fun K hK => ?_
 go_simp
 refine CL7.out.mono ?_
 rintro e w8 ⟨rfl, hb8⟩
 have hb78 := hb7'.trans (hb8.mono hb7'.size)
 have S8 := KS.out w8 hb78
 have L8 := ai HL3.out hb78
 obtain ⟨⟨l0, g0⟩, ⟨l1, g1⟩, ⟨l2, g2⟩, sL⟩ := cp3 L8
 refine hK.out _ _ ?_ (fun hHeld => ?_)
 ·exact S8
 clear hK K
 try simp only [Act.put, j]
 refine rdH 7 rfl fun K hK => ?_
 go_simp
 have S9 := KP.out w8 S8 (.int .i64 (y.shift + T.save)) (.int .i64 T.save) (.string ⟨(kL y.format T.save T.letter).toArray⟩)
 refine hK.out _ _ ?_ (fun hHeld => ?_)
 ·exact S9
 clear hK K
 try simp only [Act.put, j]
 refine tkH 8 ?vz6 rfl ?z6 ?_
 case z6 => (intro w hSw; (obtain ⟨⟨s0, s1, s2, s3, s4, s5, s6, s7, s8, s9⟩, sr, sa⟩ := hSw); go_simp; try with_reducible rfl)
 try simp only [Act.put, j]
 refine wpAnyH_done (by kernel_rfl) ?_ _
 have b8 : Below N w w8 := BN3.out.trans (hb78.mono sz3.out)
 have h2 := hid (aR (aR (aR b8 h1.out 0 (.int .i64 (y.shift + T.save))) h1.out 1 (.int .i64 T.save)) h1.out 2 (.string ⟨(kL y.format T.save T.letter).toArray⟩))
 clear hb78 hb8 hb7 hb7' S7 S8 S9 b8
 go_wp2
 refine bodyPost_ret (v := .tuple #[lcV ⟨y.shift + T.save, T.save, kL y.format T.save T.letter⟩, .int .i64 0]) (by simp [results, Tryz.results15, go_sem, *]) rfl ⟨by rw [E1.out, E2.out, EL.out], h2.out⟩
end
namespace Sx
theorem oZ {sh : Int} : ∀ {l : List Tn} {s : Int} {x : Tm}, x ∈ gM sh s l → ∃ t ∈ l, x.letter = t.letter ∧ x.save = t.save
 | [], _, _, h => by cases h
 | t :: r, s, x, h => by
   rcases List.mem_cons.1 h with rfl | h
   ·exact ⟨t, by simp, rfl, rfl⟩
   ·obtain ⟨u, hu, q⟩ := oZ h
    exact ⟨u, List.mem_cons_of_mem _ hu, q⟩
theorem zZ {rs : List Rl} {nm : Tx.Bs} {t : Tn} (h : t ∈ turnsOf rs nm) : ∃ r ∈ rs, t.letter = r.letter ∧ t.save = r.save := by
 unfold turnsOf at h
 obtain ⟨r, hr, q⟩ := List.mem_flatMap.1 h
 obtain ⟨k, _, rfl⟩ := List.mem_map.1 q
 exact ⟨r, (List.mem_filter.1 hr).1, rfl, rfl⟩
theorem Ec (rs : List Rl) (nm : Tx.Bs) (sh : Int) : (times rs nm sh).length ≤ 1000 := by
 unfold times
 split
 ·rename_i h
  rw [oW, (lY _).length_eq]
  by_cases q : 1000 < (turnsOf rs nm).length
  ·exfalso
   unfold bM at h
   rw [if_pos q] at h
   split at h
   ·rename_i h2; exact h2 h
   ·split at h
    ·omega
    ·split at h
     ·omega
     ·split at h <;> omega
  ·omega
 ·simp
theorem Ee {rs : List Rl} {nm : Tx.Bs} {sh : Int} {x : Tm} (h : x ∈ times rs nm sh) : ∃ r ∈ rs, x.letter = r.letter ∧ x.save = r.save := by
 unfold times at h
 split at h
 ·obtain ⟨t, ht, e1, e2⟩ := oZ h
  obtain ⟨r, hr, e3, e4⟩ := zZ ((lY _).mem_iff.1 ht)
  exact ⟨r, hr, e1.trans e3, e2.trans e4⟩
 ·cases h
end Sx
section
open Go.RowKit Go.Shelf
theorem F7 (p : Sx.Tm → Bool) (l : List Sx.Tm) : lastT p l = Fh ∨ lastT p l ∈ l := by
 have aux : ∀ (l : List Sx.Tm) (a : Sx.Tm), l.foldl (fun a x => if p x = true then x else a) a = a ∨ l.foldl (fun a x => if p x = true then x else a) a ∈ l := by
  intro l
  induction l with
  | nil => intro a; exact .inl rfl
  | cons x r ih =>
    intro a
    rw [List.foldl_cons]
    rcases ih (if p x = true then x else a) with q | q
    ·rw [q]
     split
     ·exact .inr (by simp)
     ·exact .inl rfl
    ·exact .inr (List.mem_cons_of_mem _ q)
 exact aux l Fh
theorem jQ {c : Nat → Int} (h : mY c = 0) : ∀ i < 5, c i = 0 := by
 unfold mY at h
 split at h
 ·rename_i q; exact absurd h q
 rename_i q0
 split at h
 ·rename_i q; exact absurd h q
 rename_i q1
 split at h
 ·rename_i q; exact absurd h q
 rename_i q2
 split at h
 ·rename_i q; exact absurd h q
 rename_i q3
 simp at q0 q1 q2 q3
 intro i hi
 rcases (show i = 0 ∨ i = 1 ∨ i = 2 ∨ i = 3 ∨ i = 4 by omega) with rfl | rfl | rfl | rfl | rfl <;> assumption
def iG (s : Sx.Sr) (xs : List ZV) (nm : Tx.Bs) : Int := mH (iQ s xs) xs s.links nm
def eU (s : Sx.Sr) (xs : List ZV) (nm : Tx.Bs) : Sx.Zn := mZ (iQ s xs) xs s.links nm
theorem oC {s : Sx.Sr} {xs : List ZV} {nm : Tx.Bs} (h : iG s xs nm = 0) : iQ s xs = 0 ∧ lF xs (dE s.links nm) = true := by
 unfold iG mH at h
 split at h
 ·rename_i q; exact absurd h q
 ·rename_i q
  simp at q
  split at h
  ·rename_i q2; exact ⟨q, q2⟩
  ·cases h
theorem rU (s : Sx.Sr) (xs : List ZV) (ra za la : Option Addr) (rcap zcap lcap : Nat) (m : Int) (nm : Tx.Bs) (w : World) (h : kF s xs ra za la rcap zcap lcap m w) :
  FindAt (.agg #[.slice ra s.rules.length rcap, .slice za xs.length zcap, .slice la s.links.length lcap]) nm (iG s xs nm) (eU s xs nm) w := by
 intro W hW
 have g := bD h hW
 refine Iq (iQ s xs) nm s.zones s.links xs ra za la s.rules.length rcap zcap lcap W g.zv g.links ?_ (fun W' hW' => wJ s xs ra za la rcap zcap lcap m W' (bD g hW'))
 intro hE
 have ok := Sx.uo (jQ hE 0 (by omega))
 obtain ⟨f1, f2, f3, f4⟩ := ny ok.many
 have hl := lh h.zv
 exact ⟨by omega, by omega, fun p hp => by have := f4 p.z (wO h.zv hp); omega⟩
/- what a zone that is found is -/
theorem Ct {s : Sx.Sr} {xs : List ZV} {v : Value} {w : World} {nm : Tx.Bs} (hz : jr w v s.zones xs) (h : iG s xs nm = 0) : Sx.Hz s ∧ eU s xs nm ∈ s.zones ∧ (eU s xs nm).eras.length ≤ 8 ∧ ∀ e ∈ (eU s xs nm).eras, Sx.Ae e := by
 obtain ⟨h1, h2⟩ := oC h
 have ok := Sx.uo (jQ h1 0 (by omega))
 obtain ⟨f1, f2, f3, f4⟩ := ny ok.many
 have e : eU s xs nm = (mF xs (dE s.links nm)).z := by unfold eU mZ; rw [show mH (iQ s xs) xs s.links nm = 0 from h]; rfl
 have hm : eU s xs nm ∈ s.zones := by rw [e]; exact wO hz (Cu h2)
 exact ⟨ok, hm, f4 _ hm, Sx.rX (ok.zone _ hm)⟩
theorem Ht (s : Sx.Sr) (xs : List ZV) (ra za la : Option Addr) (rcap zcap lcap : Nat) (m : Int) (nm : Tx.Bs) (w : World) (h : kF s xs ra za la rcap zcap lcap m w) :
  Calls Tryz.prog 17 #[.agg #[.slice ra s.rules.length rcap, .slice za xs.length zcap, .slice la s.links.length lcap], ag nm] w fun e w' => ∃ v, e = .returned (.tuple #[v, .int .i64 (iG s xs nm)]) ∧ pO w' w.heap.size v (if iG s xs nm = 0 then fu (eU s xs nm).eras else []) ∧ Below w.heap.size w w' := by
 refine Ii nm (eU s xs nm) (iG s xs nm) ra za la _ _ _ rcap zcap lcap w (rU s xs ra za la rcap zcap lcap m nm w h) ?_
 intro hF
 obtain ⟨_, _, h3, h4⟩ := Ct h.zv hF
 exact ⟨by omega, fun e he => (h4 e he).till⟩
theorem Aq (z : Sx.Zn) (at_ : Int) : dD z at_ = zeroE ∨ dD z at_ ∈ z.eras := by
 unfold dD
 cases hf : z.eras.find? (fun x => x.opn || decide (at_ < fC x)) with
 | none => exact .inl rfl
 | some y => exact .inr (List.mem_of_find?_eq_some hf)
theorem JW {s : Sx.Sr} {z : Sx.Zn} {at_ : Int} (ok : Sx.Hz s) (h8 : z.eras.length ≤ 8) (he : ∀ e ∈ z.eras, Sx.Ae e) : AtOk s.rules z at_ := by
 have hx : (dD z at_).format.length ≤ 24 ∧ (-64800 ≤ (dD z at_).shift ∧ (dD z at_).shift ≤ 64800) ∧ (0 ≤ (dD z at_).save ∧ (dD z at_).save ≤ 10800) := by
  rcases Aq z at_ with q | q
  ·rw [q]; simp [zeroE]
  ·have o := he _ q
   have f := o.fmt
   unfold Sx.dw at f
   simp at f
   exact ⟨f.1.2, ⟨o.sh0, o.sh1⟩, ⟨o.sv0, o.sv1⟩⟩
 have ht : (fA s.rules (dD z at_) at_).letter.length ≤ 24 ∧ (0 ≤ (fA s.rules (dD z at_) at_).save ∧ (fA s.rules (dD z at_) at_).save ≤ 10800) := by
  unfold fA
  split
  ·exact ⟨by simp, hx.2.2⟩
  ·rcases F7 (fun t => decide (t.at_ ≤ at_)) (Sx.times s.rules (dD z at_).rules (dD z at_).shift) with q | q
   ·rw [q]; simp [Fh]
   ·obtain ⟨r, hr, e1, e2⟩ := Sx.Ee q
    have hr0 := ok.rule r hr
    have ro := Sx.EY hr0
    rw [e1, e2]
    refine ⟨?_, ro.save⟩
    unfold Sx.dI at hr0
    split at hr0
    ·cases hr0
    ·rename_i g
     simp [Sx.dS] at g
     exact g.2.2
 have h1 := Sx.Ec s.rules (dD z at_).rules (dD z at_).shift
 exact ⟨by omega, fun e q => (he e q).till, by omega, by omega, by omega, by omega, by omega⟩
theorem qX (s : Sx.Sr) (xs : List ZV) (ra za la : Option Addr) (rcap zcap lcap : Nat) (m at_ : Int) (nm : Tx.Bs) (w : World) (h : kF s xs ra za la rcap zcap lcap m w) :
  Calls Tryz.prog 15 #[.agg #[.slice ra s.rules.length rcap, .slice za xs.length zcap, .slice la s.links.length lcap], ag nm, .int .i64 at_] w fun e w' => e = .returned (.tuple #[lcV (atL (iG s xs nm) at_ s.rules (eU s xs nm)), .int .i64 (atE (iG s xs nm) at_)]) ∧ Below w.heap.size w w' := by
 refine KW nm at_ m s.rules (eU s xs nm) (iG s xs nm) ra za la _ _ rcap zcap lcap w h.rules h.size.rules h.max h.pos (rU s xs ra za la rcap zcap lcap m nm w h) ?_
 intro hF _
 obtain ⟨h1, _, h3, h4⟩ := Ct h.zv hF
 exact JW h1 h3 h4
end
section
open Go.RowKit Go.Shelf
theorem Fw {w : World} {B : Nat} {v : Value} {zs : List Sx.Zn} (h : Af w B v zs) : oL w v zs := by
 obtain ⟨ps, hz⟩ := h
 intro i x b o cap hx hv ev hev
 subst hv
 have hrd : Rd 2 cB w (.slice (some ⟨b, o, none⟩) zs.length cap) ps := ku (fun _ => rfl) hz.row
 obtain ⟨p, hp⟩ : ∃ p, ps[i]? = some p := ⟨_, q4G (by rw [hz.len]; exact (q4L.1 hx).1)⟩
 obtain ⟨a', cap', e1, h2⟩ := hrd
 obtain ⟨b', o', e2, _, hc⟩ := h2 (by rintro rfl; simp at hp)
 simp only [Value.slice.injEq] at e1
 obtain ⟨rfl, _, _⟩ := e1
 simp only [Option.some.injEq, Addr.mk.injEq] at e2
 obtain ⟨rfl, rfl, _⟩ := e2
 have q := hc i p hp 1 p.2 rfl
 rw [hev] at q
 simp only [Option.some.injEq] at q
 subst q
 have ho := (hz.eras i p x hp hx).2
 obtain ⟨a, c, e⟩ := aQ ho
 rw [e] at ho
 exact ⟨a, c, e, nC ho⟩
theorem GX {w : World} {B : Nat} {r z l : Value} {s : Sx.Sr} {m : Int} (h : fV w B r z l s) (hs : mO s) (hm : w.cell? ⟨0, 0, none⟩ = some (.int .i64 m)) (h0 : 0 < w.heap.size) :
  ∃ ra za la rcap zcap lcap xs, r = .slice ra s.rules.length rcap ∧ z = .slice za xs.length zcap ∧ l = .slice la s.links.length lcap ∧ xs.map ZV.z = s.zones ∧ kF s xs ra za la rcap zcap lcap m w := by
 obtain ⟨h1, h2, h3⟩ := yh h
 obtain ⟨ra, rcap, rfl⟩ := bP h1
 obtain ⟨za, zcap, rfl⟩ := ic h2
 obtain ⟨la, lcap, rfl⟩ := bP h3
 have hc := Fw h.zones
 obtain ⟨xs, hx⟩ := Kn h2 hc
 have hl := lh hx
 rw [← hl] at h2 hc hx ⊢
 exact ⟨ra, za, la, rcap, zcap, lcap, xs, rfl, rfl, rfl, hx.fst, h1, h2, hc, hx, h3, hs, hm, h0⟩
theorem Jz {xs : List ZV} (h : xs.map ZV.z = gG.zones) : ∃ a c, xs = [⟨⟨jF, [⟨600, [], 0, [76, 77, 84], false, 1880, 1, 1, 0, 2⟩, ⟨3600, euB, 0, [67, 69, 37, 115, 84], true, 0, 0, 0, 0, 0⟩]⟩, a, c⟩] := by
 match xs, h with
 | [⟨z, a, c⟩], h =>
   simp [gG] at h
   exact ⟨a, c, by rw [h]⟩
 | [], h => simp [gG] at h
 | _ :: _ :: _, h => simp [gG] at h
/- what the fixed text's zones answer -/
def Be : Tx.Bs := [79, 108, 100]
def newB : Tx.Bs := [78, 101, 119]
theorem BQ : mO gG := by
 refine ⟨D7, ?_, ?_⟩
 ·intro z hz
  simp [gG] at hz
  subst hz
  refine ⟨by simp [jF, maxLen], ?_⟩
  intro x hx
  simp at hx
  rcases hx with rfl | rfl <;> simp [euB, maxLen]
 ·intro l hl
  simp [gG] at hl
  subst hl
  simp [jF, maxLen]
def fT : Sx.Zn := ⟨jF, [⟨600, [], 0, [76, 77, 84], false, 1880, 1, 1, 0, 2⟩, ⟨3600, euB, 0, [67, 69, 37, 115, 84], true, 0, 0, 0, 0, 0⟩]⟩
theorem err0 (a : Option Addr) (c : Nat) : iQ gG [⟨fT, a, c⟩] = 0 := by kernel_rfl
theorem oldF (a : Option Addr) (c : Nat) : iG gG [⟨fT, a, c⟩] Be = 0 := by kernel_rfl
theorem oldZ (a : Option Addr) (c : Nat) : eU gG [⟨fT, a, c⟩] Be = fT := by kernel_rfl
theorem townF (a : Option Addr) (c : Nat) : iG gG [⟨fT, a, c⟩] jF = 0 := by kernel_rfl
theorem townZ (a : Option Addr) (c : Nat) : eU gG [⟨fT, a, c⟩] jF = fT := by kernel_rfl
theorem newF (a : Option Addr) (c : Nat) : iG gG [⟨fT, a, c⟩] newB = 5 := by kernel_rfl
theorem ends0 : fu fT.eras = [-2840141400] := by kernel_rfl
theorem at0 : atL 0 1585443600 gG.rules fT = ⟨7200, 3600, [67, 69, 83, 84]⟩ := by kernel_rfl
theorem at0b : atL 0 1585443599 gG.rules fT = ⟨3600, 0, [67, 69, 84]⟩ := by kernel_rfl
theorem atE0 : atE 0 1585443600 = 0 ∧ atE 0 1585443599 = 0 ∧ atE 5 0 = 5 := ⟨by kernel_rfl, by kernel_rfl, by kernel_rfl⟩
theorem Ky {xs : List ZV} (h : xs.map ZV.z = gG.zones) : ∃ a c, xs = [⟨fT, a, c⟩] := Jz h
/- what zone's functions answer of the parsed text -/
structure Made (w : World) (r z l : Value) : Prop where
 src : ∃ B, fV w B r z l gG
 max : ∃ m, w.cell? ⟨0, 0, none⟩ = some (.int .i64 m)
 pos : 0 < w.heap.size
theorem l6 {w : World} {r z l : Value} (h : Made w r z l) : ∃ ra za la rcap zcap lcap a c m, r = .slice ra gG.rules.length rcap ∧ z = .slice za [(⟨fT, a, c⟩ : ZV)].length zcap ∧ l = .slice la gG.links.length lcap ∧ kF gG [⟨fT, a, c⟩] ra za la rcap zcap lcap m w := by
 obtain ⟨⟨B, hB⟩, ⟨m, hm⟩, h0⟩ := h
 obtain ⟨ra, za, la, rcap, zcap, lcap, xs, rfl, rfl, rfl, hx, hs⟩ := GX hB BQ hm h0
 obtain ⟨a, c, rfl⟩ := Ky hx
 exact ⟨ra, za, la, rcap, zcap, lcap, a, c, m, rfl, rfl, rfl, hs⟩
theorem LP {w : World} {r z l : Value} (h : Made w r z l) : Calls Tryz.prog 16 #[.agg #[r, z, l], ag Be] w fun e w' => ∃ v, e = .returned (.tuple #[.agg #[ag jF, v], .int .i64 0]) ∧ eG w' w.heap.size v fT.eras ∧ Below w.heap.size w w' := by
 obtain ⟨ra, za, la, rcap, zcap, lcap, a, c, m, rfl, rfl, rfl, hs⟩ := l6 h
 have q := rU gG [⟨fT, a, c⟩] ra za la rcap zcap lcap m Be w hs w (q4B _ _)
 rw [oldF, oldZ] at q
 exact q
theorem LM {w : World} {r z l : Value} (h : Made w r z l) : Calls Tryz.prog 17 #[.agg #[r, z, l], ag jF] w fun e w' => ∃ v, e = .returned (.tuple #[v, .int .i64 0]) ∧ pO w' w.heap.size v [-2840141400] ∧ Below w.heap.size w w' := by
 obtain ⟨ra, za, la, rcap, zcap, lcap, a, c, m, rfl, rfl, rfl, hs⟩ := l6 h
 have q := Ht gG [⟨fT, a, c⟩] ra za la rcap zcap lcap m jF w hs
 rw [townF, townZ, ends0] at q
 exact q
theorem zAt0 {w : World} {r z l : Value} (h : Made w r z l) : Calls Tryz.prog 15 #[.agg #[r, z, l], ag Be, .int .i64 1585443600] w fun e w' => e = .returned (.tuple #[lcV ⟨7200, 3600, [67, 69, 83, 84]⟩, .int .i64 0]) ∧ Below w.heap.size w w' := by
 obtain ⟨ra, za, la, rcap, zcap, lcap, a, c, m, rfl, rfl, rfl, hs⟩ := l6 h
 have q := qX gG [⟨fT, a, c⟩] ra za la rcap zcap lcap m 1585443600 Be w hs
 rw [oldF, oldZ, at0, atE0.1] at q
 exact q
theorem zAt0b {w : World} {r z l : Value} (h : Made w r z l) : Calls Tryz.prog 15 #[.agg #[r, z, l], ag Be, .int .i64 1585443599] w fun e w' => e = .returned (.tuple #[lcV ⟨3600, 0, [67, 69, 84]⟩, .int .i64 0]) ∧ Below w.heap.size w w' := by
 obtain ⟨ra, za, la, rcap, zcap, lcap, a, c, m, rfl, rfl, rfl, hs⟩ := l6 h
 have q := qX gG [⟨fT, a, c⟩] ra za la rcap zcap lcap m 1585443599 Be w hs
 rw [oldF, oldZ, at0b, atE0.2.1] at q
 exact q
theorem zAtN {w : World} {r z l : Value} (h : Made w r z l) : Calls Tryz.prog 15 #[.agg #[r, z, l], ag newB, .int .i64 0] w fun e w' => e = .returned (.tuple #[lcV lc0, .int .i64 5]) ∧ Below w.heap.size w w' := by
 obtain ⟨ra, za, la, rcap, zcap, lcap, a, c, m, rfl, rfl, rfl, hs⟩ := l6 h
 have q := qX gG [⟨fT, a, c⟩] ra za la rcap zcap lcap m 0 newB w hs
 rw [newF, atE0.2.2] at q
 exact q
theorem KF {w : World} {r z l : Value} (h : Made w r z l) : Calls Tryz.prog 14 #[.agg #[r, z, l]] w fun e w' => e = .returned (.int .i64 0) ∧ Below w.heap.size w w' := by
 obtain ⟨ra, za, la, rcap, zcap, lcap, a, c, m, rfl, rfl, rfl, hs⟩ := l6 h
 have q := wJ gG [⟨fT, a, c⟩] ra za la rcap zcap lcap m w hs
 rw [err0] at q
 exact q
end
section
open Go.RowKit Go.Shelf

theorem og {w w0 W w1 : World} {B : Nat} {r z l : Value} {m : Int} (hm : w.cell? ⟨0, 0, none⟩ = some (.int .i64 m)) (h0 : 0 < w.heap.size) (hb : Below w.heap.size w w1) (h : fV w1 B r z l gG) : Made w1 r z l :=
 ⟨⟨B, h⟩, ⟨m, (hb.cell (p := ⟨0, 0, none⟩) h0).trans hm⟩, q4N h0 hb.size⟩
theorem iV {w : World} {r z l : Value} (h : Made w r z l) : ∃ ra rc za n zc la lc, r = .slice ra 2 rc ∧ z = .slice za n zc ∧ l = .slice la 1 lc := by
 obtain ⟨ra, za, la, rcap, zcap, lcap, a, c, m, rfl, rfl, rfl, hs⟩ := l6 h
 exact ⟨ra, rcap, za, 1, zcap, la, lcap, rfl, rfl, rfl⟩
theorem Ab (m : Int) (w : World) (hm : w.cell? ⟨0, 0, none⟩ = some (.int .i64 m)) (h0 : 0 < w.heap.size) : Calls Tryz.prog 13 #[] w fun e w' => e = .returned (.bool true) ∧ Below w.heap.size w w' := by
 have HM := hid hm
 have H0 := hid h0
 clear hm h0
 have BW0 := hid (q4B w.heap.size w)
 go_enter Tryz.func13, Tryz.ntmps13
 go_wp2_with fail
 refine (ja _).mono ?_
 rintro e p0 ⟨r, z, l, rfl, hown, hb⟩
 have C0 : Hid (Below w.heap.size w p0) := BW0.out.trans (hb.mono BW0.out.size)
 have M0 := hid (og (w0 := w) (W := w) HM.out H0.out C0.out hown)
 obtain ⟨ra, rc, za, zn, zc, la, lc, rfl, rfl, rfl⟩ := iV M0.out
 clear hown hb 
 go_wp2_with fail
 refine (LP M0.out).mono ?_
 rintro e x0 ⟨v0, rfl, hO, hb⟩
 obtain ⟨za, zc, rfl⟩ := aQ hO
 have D0 : Hid (Below w.heap.size w x0) := C0.out.trans (hb.mono C0.out.size)
 clear hb C0 M0 hO BW0
 obtain ⟨y0, hy0⟩ : ∃ y0, x0.alloc (.cells ([ag jF, .slice za fT.eras.length zc] : List Value).toArray 44) = y0 := ⟨_, rfl⟩
 have ZC : Hid (ak y0 x0.heap.size [ag jF, .slice za fT.eras.length zc]) := by show ak _ _ _; rw [← hy0]; exact aD x0 [ag jF, .slice za fT.eras.length zc] 44
 have E0 : Hid (Below w.heap.size w y0) := by show Below _ _ _; rw [← hy0]; exact D0.out.alloc D0.out.size _
 have gy0 : x0.alloc (.cells #[ag jF, .slice za fT.eras.length zc] 44) = y0 := hy0
 simp only [ag] at gy0
 clear D0
 clear hy0
 go_wp2_with fail
 refine (ja _).mono ?_
 rintro e p1 ⟨r, z, l, rfl, hown, hb⟩
 have C1 : Hid (Below w.heap.size w p1) := E0.out.trans (hb.mono E0.out.size)
 have M1 := hid (og (w0 := w) (W := w) HM.out H0.out C1.out hown)
 obtain ⟨ra, rc, za, zn, zc, la, lc, rfl, rfl, rfl⟩ := iV M1.out
 have ZCp := hid (ai ZC.out hb)
 clear hown hb ZC
 go_wp2_with fail
 refine (LM M1.out).mono ?_
 rintro e x1 ⟨v1, rfl, hO, hb⟩
 have RL := hid (vM hO)
 obtain ⟨ea, ec, rfl⟩ := aQ hO
 have D1 : Hid (Below w.heap.size w x1) := C1.out.trans (hb.mono C1.out.size)
 have ZC := hid (ai ZCp.out hb)
 clear ZCp hb C1 M1 hO E0
 go_wp2_with fail
 refine (ja _).mono ?_
 rintro e p2 ⟨r, z, l, rfl, hown, hb⟩
 have C2 : Hid (Below w.heap.size w p2) := D1.out.trans (hb.mono D1.out.size)
 have M2 := hid (og (w0 := w) (W := w) HM.out H0.out C2.out hown)
 obtain ⟨ra, rc, za, zn, zc, la, lc, rfl, rfl, rfl⟩ := iV M2.out
 have ZCp := hid (ai ZC.out hb)
 have RLp := hid (au RL.out hb)
 clear hown hb ZC RL
 go_wp2_with fail
 refine (zAt0 M2.out).mono ?_
 rintro e x2 ⟨rfl, hb⟩
 have D2 : Hid (Below w.heap.size w x2) := C2.out.trans (hb.mono C2.out.size)
 have ZC := hid (ai ZCp.out hb)
 have RL := hid (au RLp.out hb)
 clear ZCp RLp hb C2 M2 D1
 obtain ⟨y2, hy2⟩ : ∃ y2, x2.alloc (.cells ([.int .i64 7200, .int .i64 3600, ag [67, 69, 83, 84]] : List Value).toArray 31) = y2 := ⟨_, rfl⟩
 have LA : Hid (ak y2 x2.heap.size [.int .i64 7200, .int .i64 3600, ag [67, 69, 83, 84]]) := by show ak _ _ _; rw [← hy2]; exact aD x2 [.int .i64 7200, .int .i64 3600, ag [67, 69, 83, 84]] 31
 have ZCq := hid (ai ZC.out (show Below x2.heap.size x2 y2 by rw [← hy2]; exact (q4B _ _).alloc (Nat.le_refl _) _))
 clear ZC
 have ZC := ZCq
 clear ZCq
 have RLq := hid (au RL.out (show Below x2.heap.size x2 y2 by rw [← hy2]; exact (q4B _ _).alloc (Nat.le_refl _) _))
 clear RL
 have RL := RLq
 clear RLq
 have E2 : Hid (Below w.heap.size w y2) := by show Below _ _ _; rw [← hy2]; exact D2.out.alloc D2.out.size _
 have gy2 : x2.alloc (.cells #[.int .i64 7200, .int .i64 3600, ag [67, 69, 83, 84]] 31) = y2 := hy2
 simp only [ag] at gy2
 clear D2
 clear hy2
 go_wp2_with fail
 refine (ja _).mono ?_
 rintro e p3 ⟨r, z, l, rfl, hown, hb⟩
 have C3 : Hid (Below w.heap.size w p3) := E2.out.trans (hb.mono E2.out.size)
 have M3 := hid (og (w0 := w) (W := w) HM.out H0.out C3.out hown)
 obtain ⟨ra, rc, za, zn, zc, la, lc, rfl, rfl, rfl⟩ := iV M3.out
 have ZCp := hid (ai ZC.out hb)
 have RLp := hid (au RL.out hb)
 have LAp := hid (ai LA.out hb)
 clear hown hb ZC RL LA
 go_wp2_with fail
 refine (zAt0b M3.out).mono ?_
 rintro e x3 ⟨rfl, hb⟩
 have D3 : Hid (Below w.heap.size w x3) := C3.out.trans (hb.mono C3.out.size)
 have ZC := hid (ai ZCp.out hb)
 have RL := hid (au RLp.out hb)
 have LA := hid (ai LAp.out hb)
 clear ZCp RLp LAp hb C3 M3 E2
 obtain ⟨y3, hy3⟩ : ∃ y3, x3.alloc (.cells ([.int .i64 3600, .int .i64 0, ag [67, 69, 84]] : List Value).toArray 31) = y3 := ⟨_, rfl⟩
 have LB : Hid (ak y3 x3.heap.size [.int .i64 3600, .int .i64 0, ag [67, 69, 84]]) := by show ak _ _ _; rw [← hy3]; exact aD x3 [.int .i64 3600, .int .i64 0, ag [67, 69, 84]] 31
 have ZCq := hid (ai ZC.out (show Below x3.heap.size x3 y3 by rw [← hy3]; exact (q4B _ _).alloc (Nat.le_refl _) _))
 clear ZC
 have ZC := ZCq
 clear ZCq
 have RLq := hid (au RL.out (show Below x3.heap.size x3 y3 by rw [← hy3]; exact (q4B _ _).alloc (Nat.le_refl _) _))
 clear RL
 have RL := RLq
 clear RLq
 have LAq := hid (ai LA.out (show Below x3.heap.size x3 y3 by rw [← hy3]; exact (q4B _ _).alloc (Nat.le_refl _) _))
 clear LA
 have LA := LAq
 clear LAq
 have E3 : Hid (Below w.heap.size w y3) := by show Below _ _ _; rw [← hy3]; exact D3.out.alloc D3.out.size _
 have gy3 : x3.alloc (.cells #[.int .i64 3600, .int .i64 0, ag [67, 69, 84]] 31) = y3 := hy3
 simp only [ag] at gy3
 clear D3
 clear hy3
 go_wp2_with fail
 refine (ja _).mono ?_
 rintro e p4 ⟨r, z, l, rfl, hown, hb⟩
 have C4 : Hid (Below w.heap.size w p4) := E3.out.trans (hb.mono E3.out.size)
 have M4 := hid (og (w0 := w) (W := w) HM.out H0.out C4.out hown)
 obtain ⟨ra, rc, za, zn, zc, la, lc, rfl, rfl, rfl⟩ := iV M4.out
 have ZCp := hid (ai ZC.out hb)
 have RLp := hid (au RL.out hb)
 have LAp := hid (ai LA.out hb)
 have LBp := hid (ai LB.out hb)
 clear hown hb ZC RL LA LB
 go_wp2_with fail
 refine (zAtN M4.out).mono ?_
 rintro e x4 ⟨rfl, hb⟩
 rw [show lcV lc0 = .agg #[.int .i64 0, .int .i64 0, .string ⟨#[]⟩] from rfl]
 have D4 : Hid (Below w.heap.size w x4) := C4.out.trans (hb.mono C4.out.size)
 have ZC := hid (ai ZCp.out hb)
 have RL := hid (au RLp.out hb)
 have LA := hid (ai LAp.out hb)
 have LB := hid (ai LBp.out hb)
 clear ZCp RLp LAp LBp hb C4 M4 E3
 go_wp2_with fail
 obtain ⟨y4, hy4⟩ : ∃ y4, x4.alloc (.cells ([.int .i64 0, .int .i64 0, .string ⟨#[]⟩] : List Value).toArray 31) = y4 := ⟨_, rfl⟩
 have LN : Hid (ak y4 x4.heap.size [.int .i64 0, .int .i64 0, .string ⟨#[]⟩]) := by show ak _ _ _; rw [← hy4]; exact aD x4 [.int .i64 0, .int .i64 0, .string ⟨#[]⟩] 31
 have ZCq := hid (ai ZC.out (show Below x4.heap.size x4 y4 by rw [← hy4]; exact (q4B _ _).alloc (Nat.le_refl _) _))
 clear ZC
 have ZC := ZCq
 clear ZCq
 have RLq := hid (au RL.out (show Below x4.heap.size x4 y4 by rw [← hy4]; exact (q4B _ _).alloc (Nat.le_refl _) _))
 clear RL
 have RL := RLq
 clear RLq
 have LAq := hid (ai LA.out (show Below x4.heap.size x4 y4 by rw [← hy4]; exact (q4B _ _).alloc (Nat.le_refl _) _))
 clear LA
 have LA := LAq
 clear LAq
 have LBq := hid (ai LB.out (show Below x4.heap.size x4 y4 by rw [← hy4]; exact (q4B _ _).alloc (Nat.le_refl _) _))
 clear LB
 have LB := LBq
 clear LBq
 have E4 : Hid (Below w.heap.size w y4) := by show Below _ _ _; rw [← hy4]; exact D4.out.alloc D4.out.size _
 rw [show x4.alloc (.cells #[.int .i64 0, .int .i64 0, .string ⟨#[]⟩] 31) = y4 from hy4]
 clear D4
 refine (ja _).mono ?_
 rintro e p5 ⟨r, z, l, rfl, hown, hb⟩
 have C5 : Hid (Below w.heap.size w p5) := E4.out.trans (hb.mono E4.out.size)
 have M5 := hid (og (w0 := w) (W := w) HM.out H0.out C5.out hown)
 obtain ⟨ra, rc, za, zn, zc, la, lc, rfl, rfl, rfl⟩ := iV M5.out
 have ZCp := hid (ai ZC.out hb)
 have RLp := hid (au RL.out hb)
 have LAp := hid (ai LA.out hb)
 have LBp := hid (ai LB.out hb)
 have LNp := hid (ai LN.out hb)
 clear hown hb ZC RL LA LB LN
 go_wp2_with fail
 refine (KF M5.out).mono ?_
 rintro e x5 ⟨rfl, hb⟩
 have D5 : Hid (Below w.heap.size w x5) := C5.out.trans (hb.mono C5.out.size)
 have ZC := hid (ai ZCp.out hb)
 have RL := hid (au RLp.out hb)
 have LA := hid (ai LAp.out hb)
 have LB := hid (ai LBp.out hb)
 have LN := hid (ai LNp.out hb)
 clear ZCp RLp LAp LBp LNp hb C5 M5 E4
 obtain ⟨z0, _⟩ := aa ZC.out 0 rfl
 obtain ⟨⟨a0, _⟩, ⟨a1, _⟩, ⟨a2, _⟩, -⟩ := cp3 LA.out
 obtain ⟨⟨b0, _⟩, ⟨b1, _⟩, ⟨b2, _⟩, -⟩ := cp3 LB.out
 have sz := ZC.out.1
 have sa := LA.out.1
 have sb := LB.out.1
 obtain ⟨rb, ro, rfl, hrb, hc⟩ := dx RL.out (i := 0) (x := (-2840141400 : Int)) rfl
 have c0 : x5.cell? ⟨rb, ro, none⟩ = some (.int .i64 (-2840141400)) := by have := hc 0 _ rfl; simpa using this
 clear hc RL ZC LA LB LN
 simp only [ag, jF] at z0 a2 b2
 go_wp2
 go_ret
 exact ⟨rfl, D5.out⟩
end
section
open Go.RowKit Go.Shelf
theorem qC {ls : List Sx.Lk} {nm : Tx.Bs} (h : nm ∉ ls.map Sx.Lk.name) : dE ls nm = nm := by
 unfold dE
 rw [if_neg]
 intro q
 obtain ⟨l, hl, e⟩ := List.any_eq_true.1 q
 exact h (by have e' : l.name = nm := by simpa using e
             rw [← e']; exact List.mem_map_of_mem hl)
end
section
open Go.RowKit Go.Shelf
theorem Cm {a b : List Sx.Rl} {nm : Tx.Bs} (h : ∀ r ∈ b, r.name ≠ nm) : Sx.turnsOf (a ++ b) nm = Sx.turnsOf a nm := by
 unfold Sx.turnsOf
 have e : b.filter (fun r => r.name == nm) = [] := by
  rw [List.filter_eq_nil_iff]
  intro r hr; simpa using h r hr
 rw [List.filter_append, e, List.append_nil]
theorem G8 {a b : List Sx.Rl} {nm : Tx.Bs} {sh : Int} (h : ∀ r ∈ b, r.name ≠ nm) (h1 : Sx.bM a nm sh = 0) (h2 : Sx.bM (a ++ b) nm sh = 0) : Sx.times (a ++ b) nm sh = Sx.times a nm sh := by
 rw [(Sx.qO h1).is, (Sx.qO h2).is, Cm h]
theorem Jb {s : Sx.Sr} {xs : List ZV} (h : iQ s xs = 0) : (dF s.zones s.links).Nodup := by
 have c1 : nN (dF s.zones s.links) = 0 := jQ h 1 (by omega)
 unfold nN at c1
 split at c1
 ·assumption
 ·cases c1
theorem Ce {s : Sx.Sr} {xs : List ZV} (h : iQ s xs = 0) {e : Sx.Er} (he : e ∈ aS xs) (hr : e.rules ≠ []) : ∃ r ∈ s.rules, r.name = e.rules := by
 have c2 : wB s.rules s.links xs = 0 := jQ h 2 (by omega)
 unfold wB at c2
 split at c2
 ·cases c2
 rename_i q
 simp only [Bool.or_eq_true, not_or] at q
 have q2 : l5 s.rules e = false := by
  cases ee : l5 s.rules e
  ·rfl
  ·exact absurd (List.any_eq_true.2 ⟨e, he, ee⟩) q.2
 unfold l5 at q2
 have : e.rules.isEmpty = false := by simpa using hr
 rw [this] at q2
 simp only [Bool.not_false, Bool.true_and, Bool.not_eq_false'] at q2
 obtain ⟨r, h1, h2⟩ := List.any_eq_true.1 q2
 exact ⟨r, h1, by simpa using h2⟩
theorem tL {s : Sx.Sr} {xs : List ZV} (h : iQ s xs = 0) {e : Sx.Er} (he : e ∈ aS xs) (hr : e.rules ≠ []) : Sx.bM s.rules e.rules e.shift = 0 := by
 have c3 : iR s.rules (aS xs) = 0 := jQ h 3 (by omega)
 rcases uB c3 e he with q | q
 ·exact absurd q hr
 ·exact q
theorem nP {s : Sx.Sr} {xs : List ZV} {nm : Tx.Bs} (h : iG s xs nm = 0) : eU s xs nm = (mF xs (dE s.links nm)).z := by
 unfold eU mZ
 rw [show mH (iQ s xs) xs s.links nm = 0 from h]
 rfl
theorem Fj {xs : List ZV} {n : Tx.Bs} (h : lF xs n = true) : mF xs n ∈ xs ∧ (mF xs n).z.name = n := by
 unfold lF at h
 obtain ⟨p, hp, e⟩ := List.any_eq_true.1 h
 unfold mF
 cases hf : xs.find? (fun p => p.z.name == n) with
 | none => rw [List.find?_eq_none] at hf; exact absurd e (hf p hp)
 | some y =>
   have h1 := List.mem_of_find?_eq_some hf
   have h2 := List.find?_some hf
   exact ⟨h1, by simpa using h2⟩
theorem Ij {xs : List ZV} {n : Tx.Bs} (h : lF xs n = true) {e : Sx.Er} (he : e ∈ (mF xs n).z.eras) : e ∈ aS xs := List.mem_flatMap.2 ⟨_, (Fj h).1, he⟩
theorem Dx {s t b : Sx.Sr} {xs yt xb : List ZV} {nm : Tx.Bs} (hr : b.rules = s.rules ++ t.rules) (hz : xb = yt ++ xs) (hl : b.links = s.links ++ t.links) (hxs : xs.map ZV.z = s.zones) (hxb : xb.map ZV.z = b.zones)
  (h1 : iG s xs nm = 0) (h2 : iG b xb nm = 0) (hn : ∀ r ∈ s.rules, ∀ q ∈ t.rules, ¬ r.name = q.name) (at_ : Int) : nu b.rules (eU b xb nm) at_ = nu s.rules (eU s xs nm) at_ := by
 obtain ⟨e1, f1⟩ := oC h1
 obtain ⟨e2, f2⟩ := oC h2
 have nd := Jb e2
 unfold dF at nd
 rw [List.nodup_append] at nd
 obtain ⟨nd1, nd2, nd3⟩ := nd
 obtain ⟨i1, i2⟩ := Fj f1
 have inb : dE s.links nm ∈ b.zones.map Sx.Zn.name := by
  rw [← i2, ← hxb, hz]
  exact List.mem_map_of_mem (List.mem_map_of_mem (List.mem_append_right _ i1))
 have eN : dE b.links nm = dE s.links nm := by
  by_cases q : nm ∈ s.links.map Sx.Lk.name
  ·obtain ⟨l, hl1, hl2⟩ := List.mem_map.1 q
   have a1 : (s.links.any fun l => l.name == nm) = true := List.any_eq_true.2 ⟨l, hl1, by simpa using hl2⟩
   have a2 : (b.links.any fun l => l.name == nm) = true := List.any_eq_true.2 ⟨l, by rw [hl]; exact List.mem_append_left _ hl1, by simpa using hl2⟩
   unfold dE
   rw [if_pos a1, if_pos a2, hl, List.find?_append]
   cases hf : s.links.find? (fun l => l.name == nm) with
   | none => rw [List.find?_eq_none] at hf; exact absurd (by simpa using hl2) (hf l hl1)
   | some y => rfl
  ·have e := qC q
   rw [e] at inb ⊢
   exact qC fun w => nd3 _ inb _ w rfl
 have eZ : mF xb (dE s.links nm) = mF xs (dE s.links nm) := by
  unfold mF
  rw [hz, List.find?_append]
  have : yt.find? (fun p => p.z.name == dE s.links nm) = none := by
   rw [List.find?_eq_none]
   intro p hp w
   have w' : p.z.name = dE s.links nm := by simpa using w
   rw [← hxb, hz, List.map_append, List.map_append, List.nodup_append] at nd1
   refine nd1.2.2 _ (List.mem_map_of_mem (List.mem_map_of_mem hp)) _ (List.mem_map_of_mem (List.mem_map_of_mem i1)) ?_
   rw [i2]; exact w'
  rw [this]; rfl
 have eQ : eU b xb nm = eU s xs nm := by rw [nP h1, nP h2, eN, eZ]
 rw [eQ]
 have eS : fA b.rules (dD (eU s xs nm) at_) at_ = fA s.rules (dD (eU s xs nm) at_) at_ := by
  unfold fA
  by_cases q : (dD (eU s xs nm) at_).rules = []
  ·rw [if_pos q, if_pos q]
  ·rw [if_neg q, if_neg q]
   rcases Aq (eU s xs nm) at_ with w | w
   ·rw [w] at q; exact absurd rfl q
   ·have w1 := w
    rw [nP h1] at w1
    have m1 : dD (eU s xs nm) at_ ∈ aS xs := Ij f1 (nP h1 ▸ w)
    have w2 : dD (eU s xs nm) at_ ∈ (eU b xb nm).eras := by rw [eQ]; exact w
    have m2 : dD (eU s xs nm) at_ ∈ aS xb := Ij f2 ((nP h2) ▸ w2)
    have t1 := tL e1 m1 q
    have t2 := tL e2 m2 q
    obtain ⟨r, hr1, hr2⟩ := Ce e1 m1 q
    rw [hr] at t2 ⊢
    rw [G8 (fun x hx w => hn r hr1 x hx (hr2.trans w.symm)) t1 t2]
 unfold nu
 rw [eS]
end
section
open Go.ChangeShapes Go.WideShapes Go.ChangeAt Go.RowKit Go.Joins

theorem own : ownKnob Tryz.prog.godebug = none := by kernel_rfl
theorem laidOut : laidOutB Tryz.prog = true := by kernel_rfl
theorem jV : Tryz.prog.cellsOf 3 = 1 := by kernel_rfl
theorem lK : Tryz.prog.cellsOf 9 = 1 := by kernel_rfl
theorem xE : Tryz.prog.cellsOf 38 = 3 := by kernel_rfl
theorem xH : Tryz.prog.cellsOf 40 = 11 := by kernel_rfl

section
variable {H : Type} {enc : TypeId × Value → H} {w : World} {sp : Nat → Bool} {held : Bool} {fuel : Nat} {cs : List Value} {x : DataW H × List MemPlace}
theorem xy (b o i : Nat) : (⟨b, o, none⟩ : Addr).add i = ⟨b, o + i, none⟩ := by simp [Addr.add]
theorem uC {a : Addr} {v : Value} (h : w.cell? a = some v) : a.block < w.heap.size := by
 unfold World.cell? at h
 split at h
 ·rename_i hb; exact (q4A.1 hb).1
 ·cases h
theorem qN (s : ByteArray) : ag s.data.toList = .string s := by unfold ag; congr 1
theorem Gm (h : DataW.trod enc Tryz.prog w 0 sp held fuel 38 cs = some x) : ∃ a b c : Int, cs = [.int .i64 a, .int .i64 b, .int .i64 c] := by
 cases fuel with
 | zero => simp [DataW.trod] at h
 | succ n =>
   unfold DataW.trod at h
   rw [Tryz.underlying38] at h
   simp [xE, jV, List.mapM_cons, Option.bind_eq_some_iff] at h
   obtain ⟨hlen, a1, b1, h1, l, ⟨a2, b2, h2, l3, ⟨a3, b3, h3, _⟩, _⟩, _⟩ := h
   match cs, hlen with
   | [u, v, z], _ =>
     simp at h1 h2 h3
     obtain ⟨k1, e1, _⟩ := DataW.trod_int Tryz.underlying3 h1
     obtain ⟨k2, e2, _⟩ := DataW.trod_int Tryz.underlying3 h2
     obtain ⟨k3, e3, _⟩ := DataW.trod_int Tryz.underlying3 h3
     simp at e1 e2 e3
     subst e1 e2 e3
     exact ⟨k1, k2, k3, rfl⟩
theorem Gp (h : DataW.trod enc Tryz.prog w 0 sp held fuel 40 cs = some x) : ∃ r : Sx.Rl, cs = ah r ∧ r.name.length ≤ maxLen ∧ r.letter.length ≤ maxLen := by
 cases fuel with
 | zero => simp [DataW.trod] at h
 | succ n =>
   unfold DataW.trod at h
   rw [Tryz.underlying40] at h
   simp [xH, jV, lK, xE, List.mapM_cons, Option.bind_eq_some_iff] at h
   obtain ⟨hlen, a1, b1, h1, _, ⟨a2, b2, h2, _, ⟨a3, b3, h3, _, ⟨a4, b4, h4, _, ⟨a5, b5, h5, _, ⟨a6, b6, h6, _, ⟨a7, b7, h7, _, ⟨a8, b8, h8, _, ⟨a9, b9, h9, _⟩, _⟩, _⟩, _⟩, _⟩, _⟩, _⟩, _⟩, _⟩ := h
   match cs, hlen with
   | [c0, c1, c2, c3, c4, c5, c6, c7, c8, c9, c10], _ =>
     simp at h1 h2 h3 h4 h5 h6 h7 h8 h9
     obtain ⟨s1, e1, _, hs1⟩ := DataW.trod_string Tryz.underlying9 h1
     obtain ⟨k2, e2, _⟩ := DataW.trod_int Tryz.underlying3 h2
     obtain ⟨k3, e3, _⟩ := DataW.trod_int Tryz.underlying3 h3
     obtain ⟨k4, e4, _⟩ := DataW.trod_int Tryz.underlying3 h4
     obtain ⟨fa, fb, fc, e5⟩ := Gm h5
     obtain ⟨k6, e6, _⟩ := DataW.trod_int Tryz.underlying3 h6
     obtain ⟨k7, e7, _⟩ := DataW.trod_int Tryz.underlying3 h7
     obtain ⟨k8, e8, _⟩ := DataW.trod_int Tryz.underlying3 h8
     obtain ⟨s9, e9, _, hs9⟩ := DataW.trod_string Tryz.underlying9 h9
     simp at e1 e2 e3 e4 e5 e6 e7 e8 e9
     obtain ⟨rfl, rfl, rfl⟩ := e5
     subst e1 e2 e3 e4 e6 e7 e8 e9
     exact ⟨⟨s1.data.toList, k2, k3, k4, fa, fb, fc, k6, k7, k8, s9.data.toList⟩, by simp only [ah, qN], by simpa using hs1, by simpa using hs9⟩
end
end
section
open Go.ChangeShapes Go.WideShapes Go.ChangeAt Go.RowKit Go.Joins Go.Shelf

theorem Aj : Tryz.prog.cellsOf 4 = 1 := by kernel_rfl
theorem xC : Tryz.prog.cellsOf 63 = 3 := by kernel_rfl
theorem xI : Tryz.prog.cellsOf 65 = 5 := by kernel_rfl
theorem xD : Tryz.prog.cellsOf 67 = 10 := by kernel_rfl
theorem Cy : Tryz.prog.cellsOf 42 = 1 := by kernel_rfl
theorem xJ : Tryz.prog.cellsOf 44 = 2 := by kernel_rfl
theorem xG : Tryz.prog.cellsOf 35 = 2 := by kernel_rfl
theorem uF : Tryz.prog.cellsOf 22 = 1 := by kernel_rfl
theorem uG : Tryz.prog.cellsOf 23 = 1 := by kernel_rfl
theorem uD : Tryz.prog.cellsOf 24 = 1 := by kernel_rfl
theorem o9 : Tryz.prog.cellsOf 26 = 3 := by kernel_rfl

section
variable {H : Type} {enc : TypeId × Value → H} {w : World} {sp : Nat → Bool} {held : Bool} {fuel : Nat} {cs : List Value} {x : DataW H × List MemPlace}
/- a list whose elements lie cell by cell -/
theorem open_list {α : Type} (dflt : α) {T e : TypeId} {z : Nat} {cells : α → List Value} {Pr : α → Prop} (hT : Tryz.prog.underlying T = some (.slice e)) (hz : Tryz.prog.cellsOf e = z) (hz0 : 0 < z) (hcl : ∀ c, (cells c).length = z)
  (hel : ∀ (n : Nat) (cs : List Value) (y : DataW H × List MemPlace), DataW.trod enc Tryz.prog w 0 sp held n e cs = some y → ∃ c, cs = cells c ∧ Pr c)
  (h : DataW.trod enc Tryz.prog w 0 sp held fuel T cs = some x) : ∃ a n cap l, cs = [.slice a n cap] ∧ n = l.length ∧ Rd z cells w (.slice a n cap) l ∧ n ≤ cap ∧ cap ≤ maxLen ∧ ∀ c ∈ l, Pr c := by
 rcases Deep.open_slice hT h with ⟨rfl, _⟩ | ⟨a, len, cap, m, n, D, Pl, rfl, _, hl, hm, hmm, _, hc⟩
 ·exact ⟨none, 0, 0, [], rfl, rfl, Ji, Nat.le_refl _, Nat.zero_le _, by simp⟩
 ·have hlm : len ≤ m := by rw [hmm]; split <;> omega
  rw [hz] at hc
  have key : ∀ i, i < len → ∃ c : α, Pr c ∧ w.cells? 0 (a.add (i * z)) z = some (cells c) := by
   intro i hi
   obtain ⟨cs', h1, h2⟩ := hc i (by omega)
   obtain ⟨c, rfl, hs⟩ := hel _ _ _ h2
   exact ⟨c, hs, h1⟩
  have : Inhabited α := ⟨dflt⟩
  obtain ⟨L, hL⟩ := Deep.choose_lt key
  refine ⟨some a, len, cap, (List.range len).map L, rfl, by simp, ⟨some a, cap, by simp, fun hn => ?_⟩, by omega, by omega, ?_⟩
  ·have h0 : 0 < len := by
    rcases Nat.eq_zero_or_pos len with q | q
    ·subst q; simp at hn
    ·exact q
   obtain ⟨b, off, spot⟩ := a
   obtain ⟨_, _, g0⟩ := World.cells?_some (hL 0 h0).2
   have c0 : w.cell? (((⟨b, off, spot⟩ : Addr).add (0 * z)).add 0) = some ((cells (L 0))[0]'(by rw [hcl]; exact hz0)) := (g0 0 hz0).trans (q4G _)
   have hs : spot = none := by simpa [Addr.add] using World.cell?_spot c0
   subst hs
   simp only [xy] at c0 hL
   refine ⟨b, off, rfl, uC c0, fun i c hi k u hu => ?_⟩
   have hi' : i < len := by
    have := (q4L.1 hi).1
    simpa using this
   simp [hi'] at hi
   subst hi
   obtain ⟨_, _, gi⟩ := World.cells?_some (hL i hi').2
   have hk := (q4L.1 hu).1
   have := gi k (by rw [← hcl (L i)]; exact hk)
   rw [xy] at this
   rw [this]
   exact hu
  ·intro c hc'
   simp at hc'
   obtain ⟨i, hi, rfl⟩ := hc'
   exact (hL i hi).1
theorem Dt (h : DataW.trod enc Tryz.prog w 0 sp held fuel 63 cs = some x) : ∃ a b c : Int, cs = [.int .i64 a, .int .i64 b, .int .i64 c] := by
 cases fuel with
 | zero => simp [DataW.trod] at h
 | succ n =>
   unfold DataW.trod at h
   rw [Tryz.underlying63] at h
   simp [xC, jV, List.mapM_cons, Option.bind_eq_some_iff] at h
   obtain ⟨hlen, a1, b1, h1, l, ⟨a2, b2, h2, l3, ⟨a3, b3, h3, _⟩, _⟩, _⟩ := h
   match cs, hlen with
   | [u, v, z], _ =>
     simp at h1 h2 h3
     obtain ⟨k1, e1, _⟩ := DataW.trod_int Tryz.underlying3 h1
     obtain ⟨k2, e2, _⟩ := DataW.trod_int Tryz.underlying3 h2
     obtain ⟨k3, e3, _⟩ := DataW.trod_int Tryz.underlying3 h3
     simp at e1 e2 e3
     subst e1 e2 e3
     exact ⟨k1, k2, k3, rfl⟩
theorem Du (h : DataW.trod enc Tryz.prog w 0 sp held fuel 65 cs = some x) : ∃ a b c d e : Int, cs = [.int .i64 a, .int .i64 b, .int .i64 c, .int .i64 d, .int .i64 e] := by
 cases fuel with
 | zero => simp [DataW.trod] at h
 | succ n =>
   unfold DataW.trod at h
   rw [Tryz.underlying65] at h
   simp [xI, xC, jV, List.mapM_cons, Option.bind_eq_some_iff] at h
   obtain ⟨hlen, a1, b1, h1, l, ⟨a2, b2, h2, l3, ⟨a3, b3, h3, _⟩, _⟩, _⟩ := h
   match cs, hlen with
   | [u, v, z, y, s], _ =>
     simp at h1 h2 h3
     obtain ⟨a, b, c, e1⟩ := Dt h1
     obtain ⟨k2, e2, _⟩ := DataW.trod_int Tryz.underlying3 h2
     obtain ⟨k3, e3, _⟩ := DataW.trod_int Tryz.underlying3 h3
     simp at e1 e2 e3
     obtain ⟨rfl, rfl, rfl⟩ := e1
     subst e2 e3
     exact ⟨a, b, c, k2, k3, rfl⟩
theorem Jd (h : DataW.trod enc Tryz.prog w 0 sp held fuel 67 cs = some x) : ∃ r : Sx.Er, cs = ax r ∧ r.rules.length ≤ maxLen ∧ r.format.length ≤ maxLen := by
 cases fuel with
 | zero => simp [DataW.trod] at h
 | succ n =>
   unfold DataW.trod at h
   rw [Tryz.underlying67] at h
   simp [xD, jV, lK, Aj, xI, List.mapM_cons, Option.bind_eq_some_iff] at h
   obtain ⟨hlen, a1, b1, h1, _, ⟨a2, b2, h2, _, ⟨a3, b3, h3, _, ⟨a4, b4, h4, _, ⟨a5, b5, h5, _, ⟨a6, b6, h6, _⟩, _⟩, _⟩, _⟩, _⟩, _⟩ := h
   match cs, hlen with
   | [c0, c1, c2, c3, c4, c5, c6, c7, c8, c9], _ =>
     simp at h1 h2 h3 h4 h5 h6
     obtain ⟨k1, e1, _⟩ := DataW.trod_int Tryz.underlying3 h1
     obtain ⟨s2, e2, _, hs2⟩ := DataW.trod_string Tryz.underlying9 h2
     obtain ⟨k3, e3, _⟩ := DataW.trod_int Tryz.underlying3 h3
     obtain ⟨s4, e4, _, hs4⟩ := DataW.trod_string Tryz.underlying9 h4
     obtain ⟨b5, e5, _⟩ := DataW.trod_bool Tryz.underlying4 h5
     obtain ⟨ua, ub, uc, ud, ue, e6⟩ := Du h6
     simp at e1 e2 e3 e4 e5 e6
     obtain ⟨rfl, rfl, rfl, rfl, rfl⟩ := e6
     subst e1 e2 e3 e4 e5
     exact ⟨⟨k1, s2.data.toList, k3, s4.data.toList, b5, ua, ub, uc, ud, ue⟩, by simp only [ax, qN], by simpa using hs2, by simpa using hs4⟩
theorem Gn (h : DataW.trod enc Tryz.prog w 0 sp held fuel 35 cs = some x) : ∃ r : Sx.Lk, cs = aH r ∧ r.to.length ≤ maxLen ∧ r.name.length ≤ maxLen := by
 cases fuel with
 | zero => simp [DataW.trod] at h
 | succ n =>
   unfold DataW.trod at h
   rw [Tryz.underlying35] at h
   simp [xG, lK, List.mapM_cons, Option.bind_eq_some_iff] at h
   obtain ⟨hlen, a1, b1, h1, _, ⟨a2, b2, h2, _⟩, _⟩ := h
   match cs, hlen with
   | [c0, c1], _ =>
     simp at h1 h2
     obtain ⟨s1, e1, _, hs1⟩ := DataW.trod_string Tryz.underlying9 h1
     obtain ⟨s2, e2, _, hs2⟩ := DataW.trod_string Tryz.underlying9 h2
     simp at e1 e2
     subst e1 e2
     exact ⟨⟨s1.data.toList, s2.data.toList⟩, by simp only [aH, qN], by simpa using hs1, by simpa using hs2⟩
/- a zone: its eras can be read, and are no more than there is room for -/
structure ZvOk (w : World) (p : ZV) : Prop where
 eras : gQ w (.slice p.a p.z.eras.length p.c) p.z.eras
 cap : p.z.eras.length ≤ p.c
 most : p.c ≤ maxLen
 name : p.z.name.length ≤ maxLen
 texts : ∀ x ∈ p.z.eras, x.rules.length ≤ maxLen ∧ x.format.length ≤ maxLen
theorem Dv (h : DataW.trod enc Tryz.prog w 0 sp held fuel 44 cs = some x) : ∃ p : ZV, cs = aJ p ∧ ZvOk w p := by
 cases fuel with
 | zero => simp [DataW.trod] at h
 | succ n =>
   unfold DataW.trod at h
   rw [Tryz.underlying44] at h
   simp [xJ, lK, Cy, List.mapM_cons, Option.bind_eq_some_iff] at h
   obtain ⟨hlen, a1, b1, h1, _, ⟨a2, b2, h2, _⟩, _⟩ := h
   match cs, hlen with
   | [c0, c1], _ =>
     simp at h1 h2
     obtain ⟨s1, e1, _, hs1⟩ := DataW.trod_string Tryz.underlying9 h1
     obtain ⟨a, k, cap, l, e2, hk, hr, hc, hm, hp⟩ := open_list (⟨0, [], 0, [], false, 0, 0, 0, 0, 0⟩ : Sx.Er) (z := 10) (cells := ax) (Pr := fun x : Sx.Er => x.rules.length ≤ maxLen ∧ x.format.length ≤ maxLen) Tryz.underlying42 xD (by decide) gJ (fun n cs y q => Jd q) h2
     simp at e1 e2
     subst e1 e2
     subst hk
     exact ⟨⟨⟨s1.data.toList, l⟩, a, cap⟩, by simp only [aJ, qN], hr, hc, hm, by simpa using hs1, hp⟩
end
/- what is read one way can be read the other -/
theorem JO : ∀ ps : List ZV, ((ps.map ZV.z).zip (ps.map zvS)).map (fun p => (p.1.name, p.2)) = ps.map fun p => (p.z.name, zvS p)
 | [] => rfl
 | a :: r => by rw [List.map_cons, List.map_cons, List.map_cons, List.zip_cons_cons, List.map_cons, JO r]
theorem vZ {w : World} {v : Value} {zs : List Sx.Zn} {ps : List ZV} (h : jr w v zs ps) : fE w v zs := by
 obtain ⟨h1, h2, h3, h4⟩ := h
 subst h1
 have e := JO ps
 refine ⟨ps.map zvS, by simp, ?_, ?_⟩
 ·rw [e]
  obtain ⟨a, cap, q1, q2⟩ := h2
  refine ⟨a, cap, by simpa using q1, fun hn => ?_⟩
  obtain ⟨b, o, q3, q4, q5⟩ := q2 (by intro q; rw [q] at hn; simp at hn)
  refine ⟨b, o, q3, q4, fun i x hx k u hu => ?_⟩
  rw [List.getElem?_map] at hx
  cases hp : ps[i]? with
  | none => rw [hp] at hx; cases hx
  | some p =>
    rw [hp] at hx
    simp at hx
    subst hx
    exact q5 i p hp k u hu
 ·intro i ev x hv hx
  rw [List.getElem?_map] at hv hx
  cases hp : ps[i]? with
  | none => rw [hp] at hx; cases hx
  | some p =>
    rw [hp] at hx hv
    simp at hx hv
    subst hx hv
    exact h3 p (List.mem_of_getElem? hp)
theorem Ai {w : World} {v : Value} {zs : List Sx.Zn} {ps : List ZV} (h : jr w v zs ps) : oL w v zs := by
 obtain ⟨h1, h2, h3, h4⟩ := h
 subst h1
 intro i x b o cap hx hv ev he
 rw [List.getElem?_map] at hx
 cases hp : ps[i]? with
 | none => rw [hp] at hx; cases hx
 | some p =>
   rw [hp] at hx
   simp at hx
   subst hx
   rw [hv] at h2
   obtain ⟨b', o', e, _, hc⟩ := dx h2 hp
   simp only [Option.some.injEq, Addr.mk.injEq] at e
   obtain ⟨rfl, rfl, _⟩ := e
   have := hc 1 (zvS p) rfl
   rw [this] at he
   simp at he
   exact ⟨p.a, p.c, he.symm, h4 p (List.mem_of_getElem? hp)⟩
structure yM (s : Sx.Sr) (xs : List ZV) (ra za la : Option Addr) (rcap zcap lcap : Nat) (w : World) : Prop where
 rmost : rcap ≤ maxLen
 zmost : zcap ≤ maxLen
 lmost : lcap ≤ maxLen
 rules : bY w (.slice ra s.rules.length rcap) s.rules
 zv : jr w (.slice za xs.length zcap) s.zones xs
 links : fe w (.slice la s.links.length lcap) s.links
 size : mO s
 rcap : s.rules.length ≤ rcap
 zcap : xs.length ≤ zcap
 lcap : s.links.length ≤ lcap
theorem yx {s : Sx.Sr} {xs : List ZV} {ra za la : Option Addr} {rcap zcap lcap : Nat} {m : Int} {w : World} (h : yM s xs ra za la rcap zcap lcap w) (hm : w.cell? ⟨0, 0, none⟩ = some (.int .i64 m)) (h0 : 0 < w.heap.size) : kF s xs ra za la rcap zcap lcap m w :=
 ⟨h.rules, vZ h.zv, Ai h.zv, h.zv, h.links, h.size, hm, h0⟩
section
variable {H : Type} {enc : TypeId × Value → H}
theorem mJ {W : World} {base : Nat} {v : Value} {d : DataW H} {p : List MemPlace} (hv : Value.okWide Tryz.prog W .any base 26 v) (h : DataW.Trod enc Tryz.prog W 0 (fun _ => true) true 26 v d p) :
  (∃ (s : Sx.Sr) (xs : List ZV) (ra za la : Option Addr) (rcap zcap lcap : Nat), v = .agg #[.slice ra s.rules.length rcap, .slice za xs.length zcap, .slice la s.links.length lcap] ∧ yM s xs ra za la rcap zcap lcap W) ∧ ∀ x ∈ p, x.block < W.heap.size := by
 obtain ⟨cs, rfl, hsz⟩ := okWide_struct Tryz.underlying26 hv
 obtain ⟨c0, c1, c2, rfl⟩ := array3 (hsz.trans o9)
 obtain ⟨fuel, hf⟩ := h
 refine ⟨?_, DataW.trod_lt fuel _ _ _ hf⟩
 cases fuel with
 | zero => simp [DataW.trod] at hf
 | succ n =>
   unfold DataW.trod at hf
   rw [Tryz.underlying26] at hf
   simp [Value.cells, o9, uF, uG, uD, List.mapM_cons, Option.bind_eq_some_iff] at hf
   obtain ⟨a1, b1, h1, l, ⟨a2, b2, h2, _, ⟨a3, b3, h3, _⟩, _⟩, _⟩ := hf
   obtain ⟨ra, k1, rc, rs, e1, hk1, hr1, hc1, hm1, hp1⟩ := open_list (⟨[], 0, 0, 0, 0, 0, 0, 0, 0, 0, []⟩ : Sx.Rl) (z := 11) (cells := ah) (Pr := fun x : Sx.Rl => x.name.length ≤ maxLen ∧ x.letter.length ≤ maxLen) Tryz.underlying22 xH (by decide) oV (fun n cs y q => Gp q) h1
   obtain ⟨za, k2, zc, xs, e2, hk2, hr2, hc2, hm2, hp2⟩ := open_list (⟨⟨[], []⟩, none, 0⟩ : ZV) (z := 2) (cells := aJ) (Pr := ZvOk W) Tryz.underlying23 xJ (by decide) (fun _ => rfl) (fun n cs y q => Dv q) h2
   obtain ⟨la, k3, lc, ls, e3, hk3, hr3, hc3, hm3, hp3⟩ := open_list (⟨[], []⟩ : Sx.Lk) (z := 2) (cells := aH) (Pr := fun x : Sx.Lk => x.to.length ≤ maxLen ∧ x.name.length ≤ maxLen) Tryz.underlying24 xG (by decide) oP (fun n cs y q => Gn q) h3
   simp at e1 e2 e3
   subst e1 e2 e3 hk1 hk2 hk3
   refine ⟨⟨rs, xs.map ZV.z, ls⟩, xs, ra, za, la, rc, zc, lc, rfl, hm1, hm2, hm3, hr1, ⟨rfl, hr2, fun p hp => (hp2 p hp).eras, fun p hp => (hp2 p hp).cap⟩, hr3, ⟨hp1, ?_, hp3⟩, hc1, hc2, hc3⟩
   intro z hz
   obtain ⟨p, hp, rfl⟩ := List.mem_map.1 hz
   exact ⟨(hp2 p hp).name, (hp2 p hp).texts⟩
theorem qL {W W' : World} {v : Value} {d : DataW H} {p : List MemPlace} (h : DataW.Trod enc Tryz.prog W 0 (fun _ => true) true 26 v d p) (bel : Below W.heap.size W W') (lt0 : ∀ x ∈ p, x.block < W.heap.size) : DataW.Trod enc Tryz.prog W' 0 (fun b => decide (b < W.heap.size)) true 26 v d p :=
 Below.trod laidOut (by kernel_rfl) (of_decide_eq_true (by kernel_rfl)) h bel lt0
end
end
section
open Go.RowKit
theorem oh (w : World) (a : Array Value) (t : TypeId) : ∃ y, w.alloc (.cells a t) = y ∧ ak y w.heap.size a.toList ∧ Below w.heap.size w y ∧ y.heap.size = w.heap.size + 1 :=
 ⟨_, rfl, by have := aD w a.toList t; simpa using this, (q4B _ w).alloc (Nat.le_refl _) _, by simp⟩
theorem jh {N : Nat} {w a b : World} (h : Below N w a) (hN : N ≤ a.heap.size) (hb : Below a.heap.size a b) : Below N w b := h.trans (hb.mono hN)
end
end Go.Proofs.YtkhlkohlccndgaaGreat
