/- Proved: Compile answers just what the document says, errors too (the law TableCompiles), for every source and name; no condition. -/
import Derived.Test.YtkhlkohlccndgaaGreatQz
import Derived.Test.YtkhlkohlccndgaaGreatQar
import Derived.Test.YtkhlkohlccndgaaGreatQaq
import Derived.Test.YtkhlkohlccndgaaGreatQap
import Derived.Test.YtkhlkohlccndgaaGreatQaa
import Derived.ProofKit
import Derived.OpenShut
import Derived.Lib.SmallJoins
import Derived.Carry
import Derived.HandedShaped
set_option linter.unusedVariables false
set_option linter.unusedSimpArgs false
set_option maxRecDepth 100000
set_option maxHeartbeats 16000000
namespace Go.Proofs.YtkhlkohlccndgaaGreat
section
open Go.RowKit

def smA : Tb.Lc := ⟨3600, 0, [65]⟩
def smB : Tb.Lc := ⟨7200, 3600, [66]⟩
def sm : Tb.Tbl := ⟨smA, [⟨100, smB⟩, ⟨90000, smA⟩]⟩
theorem GX : Tb.EG sm := ⟨by unfold maxLen; decide, by unfold maxLen; decide, by intro c hc; unfold maxLen; simp [sm, smA, smB] at hc; rcases hc with rfl | rfl <;> decide⟩
theorem NL (w : World) : Calls Tryz.prog 70 #[] w fun e w' => ∃ v, e = .returned (tbV sm.first v) ∧ mF w' v sm.ch ∧ Below w.heap.size w w' := by
 go_enter Tryz.func70, Tryz.ntmps70
 go_wp2
 refine bodyPost_ret (v := tbV sm.first (.slice (some ⟨w.heap.size + 1 + 1 + 1, 0, none⟩) 2 2)) (by simp [results, Tryz.results70, go_sem, sm, smA, *]) rfl ⟨_, rfl, ?_, ?_⟩
 ·have := World.ownsRow_lit (base := 0) (e := 86) (size := 4) (((w.alloc (.cells #[.int .i64 3600, .int .i64 0, .string ⟨#[65]⟩, .slice (some ⟨w.heap.size + 1 + 1 + 1, 0, none⟩) 2 2] 76)).alloc (.cells #[.int .i64 3600, .int .i64 0, .string ⟨#[65]⟩] 31)).alloc (.cells #[.int .i64 7200, .int .i64 3600, .string ⟨#[66]⟩] 31)) #[.int .i64 100, .int .i64 7200, .int .i64 3600, .string ⟨#[66]⟩, .int .i64 90000, .int .i64 3600, .int .i64 0, .string ⟨#[65]⟩] 2 (Nat.zero_le _) (by unfold maxLen; decide) rfl
  simp only [World.size_alloc] at this
  exact jD wB (xs := sm.ch) this
 ·exact ((((q4B _ _).alloc (Nat.le_refl _) _).alloc (by simp) _).alloc (by simp; omega) _).alloc (by simp; omega) _
end
section
open Go.RowKit Go.Shelf
attribute [local go_sem] Oper.semAt_some
attribute [local go_sem ↓] Go.wp_at_zero Go.wp_at_succ

def ch0 : List Tb.Cg := (ic kL [⟨xq, none, 0⟩] Qj).ch
def lmt : Tb.Lc := ⟨600, 0, [76, 77, 84]⟩
set_option maxRecDepth 1000000 in
theorem Tq (a : Option Addr) (c : Nat) : mf kL [⟨xq, a, c⟩] Qj = 0 := by kernel_rfl
set_option maxRecDepth 1000000 in
theorem Tt (a : Option Addr) (c : Nat) : ic kL [⟨xq, a, c⟩] Qj = ⟨lmt, ch0⟩ := by kernel_rfl
set_option maxRecDepth 1000000 in
theorem KQ : ch0.length = 211 := by kernel_rfl
set_option maxRecDepth 1000000 in
theorem Oy : Tb.oD ⟨lmt, ch0⟩ = 0 := by kernel_rfl
set_option maxRecDepth 1000000 in
theorem LP : ch0.all (fun c => decide (c.lc.name.length ≤ 24)) = true := by kernel_rfl
theorem NK {f : Tb.Lc} {ch : List Tb.Cg} {n : Nat} (h1 : ch.length = n) (hn : n ≤ 1000) (h2 : ch.all (fun c => decide (c.lc.name.length ≤ 24)) = true) (h3 : f.name.length ≤ 24) : Tb.EG ⟨f, ch⟩ := by
 refine ⟨by simp only; unfold maxLen; omega, by simp only; unfold maxLen; omega, fun c hc => ?_⟩
 have := List.all_eq_true.1 h2 c hc
 simp at this
 unfold maxLen
 omega
theorem LU : Tb.EG ⟨lmt, ch0⟩ := NK KQ (by omega) LP (by decide)
theorem OG {w : World} {r z l : Value} (h : Made w r z l) : Calls Tryz.prog 30 #[.agg #[r, z, l], af Qj] w fun e w' => ∃ cv, e = .returned (.tuple #[.agg #[.int .i64 600, .int .i64 0, .string ⟨#[76, 77, 84]⟩, cv], .int .i64 0]) ∧ ma w' w.heap.size cv ch0 ∧ Below w.heap.size w w' := by
 obtain ⟨ra, za, la, rcap, zcap, lcap, a, c, m, rfl, rfl, rfl, hs⟩ := RH h
 have q := wF kL [⟨xq, a, c⟩] ra za la rcap zcap lcap m Qj w hs
 rw [Tq, Tt] at q
 dsimp only [lmt, af] at q
 exact q
theorem qM (w : World) : Calls Tryz.prog 70 #[] w fun e w' => ∃ b o c, e = .returned (.agg #[.int .i64 3600, .int .i64 0, .string ⟨#[65]⟩, .slice (some ⟨b, o, none⟩) 2 c]) ∧ mF w' (.slice (some ⟨b, o, none⟩) 2 c) sm.ch ∧
  (b < w'.heap.size ∧ w'.cell? ⟨b, o + 1, none⟩ = some (.int .i64 7200) ∧ w'.cell? ⟨b, o + 2, none⟩ = some (.int .i64 3600) ∧ w'.cell? ⟨b, o + 3, none⟩ = some (.string ⟨#[66]⟩)) ∧ Below w.heap.size w w' := by
 refine (NL w).mono ?_
 rintro e w' ⟨v, rfl, r, hb⟩
 obtain ⟨b, o, c, rfl, h, c0, c1, c2, c3⟩ := qK r (show sm.ch[0]? = some ⟨100, smB⟩ from rfl)
 exact ⟨b, o, c, rfl, r, ⟨h, by simpa [smB] using c1, by simpa [smB] using c2, by simpa [smB] using c3⟩, hb⟩
theorem Lg : Tb.qG sm 100 = 0 ∧ Tb.lookO sm 100 = smB := by decide
theorem P9 : Tb.qG sm 99 = 0 ∧ Tb.lookO sm 99 = smA := by decide
theorem Qb {w w1 : World} {B : Nat} {r z l : Value} {m : Int} (hm : w.cell? ⟨0, 0, none⟩ = some (.int .i64 m)) (h0 : 0 < w.heap.size) (hb : Below w.heap.size w w1) (h : gN w1 B r z l kL) : Made w1 r z l :=
 ⟨⟨B, h⟩, ⟨m, (hb.cell (p := ⟨0, 0, none⟩) h0).trans hm⟩, q4N h0 hb.size⟩
theorem mO (m : Int) (w : World) (hm : w.cell? ⟨0, 0, none⟩ = some (.int .i64 m)) (h0 : 0 < w.heap.size) : Calls Tryz.prog 29 #[] w fun e w' => e = .returned (.bool true) ∧ Below w.heap.size w w' := by
 have HM := hid hm
 have H0 := hid h0
 clear hm h0
 go_enter Tryz.func29, Tryz.ntmps29
 go_wp2_with fail
 refine (JJ _).mono ?_
 rintro e w1 ⟨r, z, l, rfl, hown, hb⟩
 have B : Hid (Below w.heap.size w w1) := hb
 have MD := hid (Qb HM.out H0.out B.out hown)
 clear hown hb
 have CP := hid (OG MD.out)
 go_wp2_with fail
 refine CP.out.mono ?_
 rintro e w2 ⟨cv, rfl, hO, hb⟩
 replace B := hid (aL B.out B.out.size hb)
 have RC := hid (pQ hO)
 obtain ⟨ca, cc, rfl⟩ := aF hO
 clear hO hb CP MD
 rw [KQ] at *
 obtain ⟨w3, g3, TT0, hb, sz⟩ := aR w2 #[.int .i64 600, .int .i64 0, .string ⟨#[76, 77, 84]⟩, .slice ca 211 cc] 76
 obtain ⟨bT, hbT⟩ : ∃ b, w2.heap.size = b := ⟨_, rfl⟩
 have TT : Hid (ag w3 bT [.int .i64 600, .int .i64 0, .string ⟨#[76, 77, 84]⟩, .slice ca 211 cc]) := hbT ▸ TT0
 replace B := hid (aL B.out B.out.size hb)
 replace RC := hid (aO RC.out hb)
 clear hb sz TT0
 go_wp2_with fail
 refine (qM _).mono ?_
 rintro e w4 ⟨b4, o4, k4, rfl, r4, _, hb⟩
 replace B := hid (aL B.out B.out.size hb)
 replace RC := hid (aO RC.out hb)
 replace TT := hid (ah TT.out hb)
 have CL := Cn sm _ 100 w4 r4 GX
 rw [Lg.1, Lg.2] at CL
 have CLH : Hid (Calls Tryz.prog 32 #[.agg #[.int .i64 3600, .int .i64 0, .string ⟨#[65]⟩, .slice (some ⟨b4, o4, none⟩) 2 k4], .int .i64 100] w4 fun e w' => e = .returned (.tuple #[.agg #[.int .i64 7200, .int .i64 3600, .string ⟨#[66]⟩], .int .i64 0]) ∧ Below w4.heap.size w4 w') := CL
 clear hb r4 CL g3 hbT
 go_wp2_with fail
 refine CLH.out.mono ?_
 rintro e w5 ⟨rfl, hb⟩
 replace B := hid (aL B.out B.out.size hb)
 replace RC := hid (aO RC.out hb)
 replace TT := hid (ah TT.out hb)
 clear CLH hb
 obtain ⟨w6, g6, L30, hb, sz⟩ := aR w5 #[.int .i64 7200, .int .i64 3600, .string ⟨#[66]⟩] 31
 obtain ⟨b3, hb3⟩ : ∃ b, w5.heap.size = b := ⟨_, rfl⟩
 have LL3 : Hid (ag w6 b3 [.int .i64 7200, .int .i64 3600, .string ⟨#[66]⟩]) := hb3 ▸ L30
 replace B := hid (aL B.out B.out.size hb)
 replace RC := hid (aO RC.out hb)
 replace TT := hid (ah TT.out hb)
 clear hb sz L30
 go_wp2_with fail
 refine (qM _).mono ?_
 rintro e w7 ⟨b7, o7, k7, rfl, r7, _, hb⟩
 replace B := hid (aL B.out B.out.size hb)
 replace RC := hid (aO RC.out hb)
 replace TT := hid (ah TT.out hb)
 replace LL3 := hid (ah LL3.out hb)
 have CL := Cn sm _ 99 w7 r7 GX
 rw [P9.1, P9.2] at CL
 have CLH : Hid (Calls Tryz.prog 32 #[.agg #[.int .i64 3600, .int .i64 0, .string ⟨#[65]⟩, .slice (some ⟨b7, o7, none⟩) 2 k7], .int .i64 99] w7 fun e w' => e = .returned (.tuple #[.agg #[.int .i64 3600, .int .i64 0, .string ⟨#[65]⟩], .int .i64 0]) ∧ Below w7.heap.size w7 w') := CL
 clear hb r7 CL g6 hb3
 go_wp2_with fail
 refine CLH.out.mono ?_
 rintro e w8 ⟨rfl, hb⟩
 replace B := hid (aL B.out B.out.size hb)
 replace RC := hid (aO RC.out hb)
 replace TT := hid (ah TT.out hb)
 replace LL3 := hid (ah LL3.out hb)
 clear CLH hb
 obtain ⟨W, g9, L50, hb, sz⟩ := aR w8 #[.int .i64 3600, .int .i64 0, .string ⟨#[65]⟩] 31
 obtain ⟨b5, hb5⟩ : ∃ b, w8.heap.size = b := ⟨_, rfl⟩
 have LL5 : Hid (ag W b5 [.int .i64 3600, .int .i64 0, .string ⟨#[65]⟩]) := hb5 ▸ L50
 replace B := hid (aL B.out B.out.size hb)
 replace RC := hid (aO RC.out hb)
 replace TT := hid (ah TT.out hb)
 replace LL3 := hid (ah LL3.out hb)
 clear hb sz L50
 have SS : Hid (W.cell? ⟨bT, 0, none⟩ = some (.int .i64 600) ∧ W.cell? ⟨bT, 1, none⟩ = some (.int .i64 0) ∧ W.cell? ⟨bT, 2, none⟩ = some (.string ⟨#[76, 77, 84]⟩) ∧ W.cell? ⟨bT, 3, none⟩ = some (.slice ca 211 cc) ∧ W.cell? ⟨b3, 0, none⟩ = some (.int .i64 7200) ∧ W.cell? ⟨b3, 1, none⟩ = some (.int .i64 3600) ∧ W.cell? ⟨b3, 2, none⟩ = some (.string ⟨#[66]⟩) ∧ W.cell? ⟨b5, 0, none⟩ = some (.int .i64 3600) ∧ W.cell? ⟨b5, 1, none⟩ = some (.int .i64 0) ∧ W.cell? ⟨b5, 2, none⟩ = some (.string ⟨#[65]⟩)) := ⟨(aa TT.out 0 rfl).1, (aa TT.out 1 rfl).1, (aa TT.out 2 rfl).1, (aa TT.out 3 rfl).1, (aa LL3.out 0 rfl).1, (aa LL3.out 1 rfl).1, (aa LL3.out 2 rfl).1, (aa LL5.out 0 rfl).1, (aa LL5.out 1 rfl).1, (aa LL5.out 2 rfl).1⟩
 have KS : Hid (∀ w', Below W.heap.size W w' → w'.cell? ⟨bT, 0, none⟩ = some (.int .i64 600) ∧ w'.cell? ⟨bT, 1, none⟩ = some (.int .i64 0) ∧ w'.cell? ⟨bT, 2, none⟩ = some (.string ⟨#[76, 77, 84]⟩) ∧ w'.cell? ⟨bT, 3, none⟩ = some (.slice ca 211 cc) ∧ w'.cell? ⟨b3, 0, none⟩ = some (.int .i64 7200) ∧ w'.cell? ⟨b3, 1, none⟩ = some (.int .i64 3600) ∧ w'.cell? ⟨b3, 2, none⟩ = some (.string ⟨#[66]⟩) ∧ w'.cell? ⟨b5, 0, none⟩ = some (.int .i64 3600) ∧ w'.cell? ⟨b5, 1, none⟩ = some (.int .i64 0) ∧ w'.cell? ⟨b5, 2, none⟩ = some (.string ⟨#[65]⟩)) := fun w' hb => by
  have a := ah TT.out hb
  have b := ah LL3.out hb
  have c := ah LL5.out hb
  exact ⟨(aa a 0 rfl).1, (aa a 1 rfl).1, (aa a 2 rfl).1, (aa a 3 rfl).1, (aa b 0 rfl).1, (aa b 1 rfl).1, (aa b 2 rfl).1, (aa c 0 rfl).1, (aa c 1 rfl).1, (aa c 2 rfl).1⟩
 have HCK : Hid (∀ w', Below W.heap.size W w' → Calls Tryz.prog 31 #[.agg #[.int .i64 600, .int .i64 0, .string ⟨#[76, 77, 84]⟩, .slice ca 211 cc]] w' fun e w'' => e = .returned (.int .i64 0) ∧ Below w'.heap.size w' w'') := fun w' hb => by
  have q := zI ⟨lmt, ch0⟩ (.slice ca 211 cc) w' (aO RC.out hb) LU
  rw [Oy] at q
  exact q
 have f1 : ∀ (a b c d : Value) (w : World), (Instr.field 76 (.agg #[a, b, c, d]) 1).run Tryz.prog w = .ok d w := fun _ _ _ _ _ => by kernel_rfl
 have f0 : ∀ (a b c d : Value) (w : World), (Instr.field 76 (.agg #[a, b, c, d]) 0).run Tryz.prog w = .ok (.agg #[a, b, c]) w := fun _ _ _ _ _ => by kernel_rfl
 clear RC TT LL3 LL5
 go_upto_region 4 with fail
 clear g9 hb5
 refine wp_region_held_drew (S := fun w' => w'.cell? ⟨bT, 0, none⟩ = some (.int .i64 600) ∧ w'.cell? ⟨bT, 1, none⟩ = some (.int .i64 0) ∧ w'.cell? ⟨bT, 2, none⟩ = some (.string ⟨#[76, 77, 84]⟩) ∧ w'.cell? ⟨bT, 3, none⟩ = some (.slice ca 211 cc) ∧ w'.cell? ⟨b3, 0, none⟩ = some (.int .i64 7200) ∧ w'.cell? ⟨b3, 1, none⟩ = some (.int .i64 3600) ∧ w'.cell? ⟨b3, 2, none⟩ = some (.string ⟨#[66]⟩) ∧ w'.cell? ⟨b5, 0, none⟩ = some (.int .i64 3600) ∧ w'.cell? ⟨b5, 1, none⟩ = some (.int .i64 0) ∧ w'.cell? ⟨b5, 2, none⟩ = some (.string ⟨#[65]⟩)) (by kernel_rfl) SS.out (fun hHeld => ?_)
 refine tkA 0 rfl ?_
 refine tkA 1 rfl ?_
 refine tkA 2 rfl ?_
 refine tkA 3 rfl ?_
 refine tkA 4 rfl ?_
 refine tkA 5 rfl ?_
 refine tkA 6 rfl ?_
 refine tkA 7 rfl ?_
 refine tkA 8 rfl ?_
 refine tkA 9 rfl ?_
 refine tkA 10 rfl ?_
 refine tkA 11 rfl ?_
 refine rdH 12 rfl fun K hK => ?_
 go_simp
 refine (HCK.out _ (show Below W.heap.size W W.drew from ⟨rfl, rfl, rfl, Nat.le_refl _, fun _ _ => rfl⟩)).mono ?_
 rintro e x1 ⟨rfl, hb⟩
 have hx1 := bq hb
 have S1 := KS.out x1 hx1
 refine hK.out _ _ ?_ (fun hHeld => ?_)
 ·exact S1
 clear hK K
 try simp only [Act.put, j]
 refine tkA 13 rfl ?_
 refine tkA 14 rfl ?_
 refine tkA 15 rfl ?_
 refine tkA 16 rfl ?_
 refine tkA 17 rfl ?_
 refine tkA 18 rfl ?_
 refine tkA 19 rfl ?_
 refine tkA 20 rfl ?_
 refine tkA 21 rfl ?_
 refine tkA 22 rfl ?_
 refine tkA 23 rfl ?_
 refine tkA 24 rfl ?_
 refine tkA 25 rfl ?_
 refine tkA 26 rfl ?_
 refine tkA 27 rfl ?_
 refine tkA 28 rfl ?_
 refine rdH 29 rfl fun K hK => ?_
 go_simp
 refine (qM x1).mono ?_
 rintro e x2 ⟨sb, so, sc, rfl, r2, ⟨hsb, c1, c2, c3⟩, hb2⟩
 have hx2 := hx1.trans (hb2.mono hx1.size)
 have S2 := KS.out x2 hx2
 refine hK.out _ _ ?_ (fun hHeld => ?_)
 ·exact S2
 clear hK K
 try simp only [Act.put, j]
 refine tkA 30 rfl ?_
 refine tkA 31 rfl ?_
 refine tkA 32 rfl ?_
 refine rdH 33 rfl fun K hK => ?_
 go_simp
 have S3 := S2
 refine hK.out _ _ ?_ (fun hHeld => ?_)
 ·exact S3
 clear hK K
 try simp only [Act.put, j]
 refine tkA 34 rfl ?_
 refine tkA 35 rfl ?_
 refine tkA 36 rfl ?_
 refine tkA 37 rfl ?_
 refine rdH 38 rfl fun K hK => ?_
 go_simp
 refine (qM x2).mono ?_
 rintro e x3 ⟨sb3, so3, sc3, rfl, r3, _, hb3⟩
 have hx3 := hx2.trans (hb3.mono hx2.size)
 have S4 := KS.out x3 hx3
 refine hK.out _ _ ?_ (fun hHeld => ?_)
 ·exact S4
 clear hK K
 try simp only [Act.put, j]
 refine tkA 39 rfl ?_
 refine tkA 40 rfl ?_
 refine tkA 41 rfl ?_
 refine tkA 42 rfl ?_
 refine wpAnyH_done (by kernel_rfl) ?_ _
 go_wp2
 go_ret
 exact ⟨rfl, aL B.out B.out.size hx3⟩
end
section
open Go.RowKit Go.Shelf Go.Lib
attribute [local go_sem] Oper.semAt_some
attribute [local go_sem ↓] Go.wp_at_zero Go.wp_at_succ

theorem oG (f g : Tb.Lc) (u v : Value) (l m : List Tb.Cg) (E : Int) (w : World) (hu : mF w u l) (hv : mF w v m) (hl : l.length ≤ 1000000) (h0 : E = 0 → f = g ∧ l = m) (h1 : E ≠ 0 → f = ⟨0, 0, []⟩ ∧ l = []) :
  Calls Tryz.prog 36 #[tbV f u, .int .i64 E, .int .i64 E, tbV g v] w fun e w' => e = .returned (.bool true) ∧ Below w.heap.size w w' := by
 by_cases q : E = 0
 ·obtain ⟨rfl, rfl⟩ := h0 q
  subst q
  have hb : Below w.heap.size w ((w.alloc (.cells #[.int .i64 f.shift, .int .i64 f.save, af f.name, u] 76)).alloc (.cells #[.int .i64 f.shift, .int .i64 f.save, af f.name, v] 76)) := ((q4B _ _).alloc (Nat.le_refl _) _).alloc (by simp) _
  have HU := hid (aO hu hb)
  have HV := hid (aO hv hb)
  have HB := hid hb
  obtain ⟨ua, ucap, rfl, _⟩ := hu
  obtain ⟨va, vcap, rfl, _⟩ := hv
  clear hb h0 h1
  go_enter Tryz.func36, Tryz.ntmps36
  go_wp2_with (go_at_call 78; refine (rJ f _ _ l _ HU.out HV.out hl).mono ?_; rintro e w1 ⟨rfl, hb1⟩)
  go_ret
  exact ⟨rfl, HB.out.trans (hb1.mono HB.out.size)⟩
 ·obtain ⟨rfl, rfl⟩ := h1 q
  have q' : (E != 0) = true := by simp [q]
  clear h0 h1
  obtain ⟨ua, ucap, rfl, _⟩ := id hu
  obtain ⟨va, vcap, rfl, _⟩ := id hv
  obtain ⟨W, hW⟩ : ∃ W, ((w.alloc (.cells #[.int .i64 0, .int .i64 0, .string ⟨#[]⟩, .slice ua 0 ucap] 76)).alloc (.cells #[.int .i64 0, .int .i64 0, .string ⟨#[]⟩, .slice none 0 0] 76)) = W := ⟨_, rfl⟩
  have hb : Below w.heap.size w W := by rw [← hW]; exact ((q4B _ _).alloc (Nat.le_refl _) _).alloc (by simp) _
  have HU := hid (aO hu hb)
  have HB := hid hb
  have HW := hid hW
  have HNL : Hid (mF W (.slice none 0 0) []) := JW
  clear hb hW hu hv
  go_enter Tryz.func36, Tryz.ntmps36
  go_wp2_with fail
  rw [show (w.alloc (.cells #[.int .i64 0, .int .i64 0, .string ⟨#[]⟩, .slice ua 0 ucap] 76)).alloc (.cells #[.int .i64 0, .int .i64 0, .string ⟨#[]⟩, .slice none 0 0] 76) = W from HW.out]
  refine (rJ ⟨0, 0, []⟩ _ _ [] W HU.out HNL.out (by simp)).mono ?_
  rintro e w1 ⟨rfl, hb1⟩
  go_wp2
  go_ret
  exact ⟨rfl, HB.out.trans (hb1.mono HB.out.size)⟩
theorem TS {s : Ms} (h : mkE s = 0) : s.ch.length ≤ 1000000 := by
 unfold mkE at h
 split at h
 ·cases h
 ·split at h
  ·cases h
  ·omega
theorem KR {s : Sx.Sr} {xs : List ZV} {nm : Tx.Bs} (h : gY s xs nm = 0) : mf s xs nm = mkE (ry s.rules (dJ s xs nm)) := by
 unfold mf; rw [if_neg (by simp [h])]
theorem Uh {s : Sx.Sr} {xs : List ZV} {nm : Tx.Bs} {w : World} {e : Ending} {w' : World} (hx : xs.map ZV.z = s.zones) (h : gY s xs nm = 0) (hE : Iw s.rules (dJ s xs nm) w e w') :
  ∃ oa oc, e = .returned (.tuple #[.agg #[.int .i64 (ic s xs nm).first.shift, .int .i64 (ic s xs nm).first.save, af (ic s xs nm).first.name, .slice oa (ic s xs nm).ch.length oc], .int .i64 (mf s xs nm)]) ∧ ma w' w.heap.size (.slice oa (ic s xs nm).ch.length oc) (ic s xs nm).ch ∧ Below w.heap.size w w' := by
 obtain ⟨l, ca, cc, T, E, hp, hs, e1, e2, e3, e4, e5⟩ := hE
 obtain ⟨c1, c2⟩ := QO hx h hp hs
 have hE2 : E = mf s xs nm := by rw [KR h, e1, ← c1, c1, ← c2, ← c1]
 have hT2 : T = ic s xs nm := by
  rw [e2]; unfold ic; rw [← hE2, ← c1, c1, ← c2, ← c1]
 subst hE2
 subst hT2
 exact ⟨ca, cc, e3, e4, e5⟩
theorem vW (s : Sx.Sr) (xs : List ZV) (ra za la : Option Addr) (rcap zcap lcap : Nat) (m : Int) (nm : Tx.Bs) (w : World) (h : gG s xs ra za la rcap zcap lcap m w) :
  Calls Tryz.prog 10 #[.agg #[.slice ra s.rules.length rcap, .slice za xs.length zcap, .slice la s.links.length lcap], af nm] w fun e w' => e = .returned (.bool true) ∧ Below w.heap.size w w' := by
 obtain ⟨N, hN⟩ : ∃ N, w.heap.size = N := ⟨_, rfl⟩
 obtain ⟨V, gV, X0, hb, sz⟩ := aR w #[.slice ra s.rules.length rcap, .slice za xs.length zcap, .slice la s.links.length lcap] 26
 rw [hN] at X0
 have X : Hid (ag V N [.slice ra s.rules.length rcap, .slice za xs.length zcap, .slice la s.links.length lcap]) := X0
 have B : Hid (Below N w V) := hN ▸ hb
 have G := hid (aM h hb)
 clear h X0 sz hb
 go_enter Tryz.func10, Tryz.ntmps10
 simp only [hN]
 obtain ⟨⟨s0, _⟩, ⟨s1, _⟩, ⟨s2, _⟩, ss⟩ := cp3 X.out
 obtain ⟨T, hT⟩ : ∃ T, ic s xs nm = T := ⟨_, rfl⟩
 obtain ⟨Q, hQ⟩ : ∃ Q, mf s xs nm = Q := ⟨_, rfl⟩
 have HT := hid hT
 have HQ := hid hQ
 have CC0 := wF s xs ra za la rcap zcap lcap m nm V G.out
 rw [hT, hQ] at CC0
 have HC := hid CC0
 clear CC0 hT hQ
 go_wp2_with fail
 refine HC.out.mono ?_
 rintro e w1 ⟨cv, rfl, hO, hb⟩
 clear HC gV s0 s1 s2 ss
 have hle := Nat.le_of_lt X.out.1
 replace B := hid (aL B.out hle hb)
 replace X := hid (ah X.out hb)
 replace G := hid (aM G.out hb)
 clear hle
 clear hb
 have RC := hid (pQ hO)
 obtain ⟨ca, cap, rfl⟩ := aF hO
 clear hO
 obtain ⟨w2, g_w2, L0, hb2, sz⟩ := aR w1 #[.int .i64 T.first.shift, .int .i64 T.first.save, .string ⟨T.first.name.toArray⟩, .slice ca T.ch.length cap] 76
 obtain ⟨bT, h_bT⟩ : ∃ b, w1.heap.size = b := ⟨_, rfl⟩
 have LT : Hid (ag w2 bT [.int .i64 T.first.shift, .int .i64 T.first.save, .string ⟨T.first.name.toArray⟩, .slice ca T.ch.length cap]) := h_bT ▸ L0
 have hle := Nat.le_of_lt X.out.1
 replace B := hid (aL B.out hle hb2)
 replace X := hid (ah X.out hb2)
 replace G := hid (aM G.out hb2)
 replace RC := hid (aO RC.out hb2)
 clear hle
 clear hb2 sz L0
 obtain ⟨⟨s0, _⟩, ⟨s1, _⟩, ⟨s2, _⟩, ss⟩ := cp3 X.out
 obtain ⟨E, hE⟩ : ∃ E, jL s xs = E := ⟨_, rfl⟩
 have CK0 := yx s xs ra za la rcap zcap lcap m w2 G.out
 rw [hE] at CK0
 have HC := hid CK0
 have HE := hid hE
 clear CK0 hE
 go_wp2_with fail
 refine HC.out.mono ?_
 rintro e w4 ⟨rfl, hb⟩
 clear HC g_w2 h_bT s0 s1 s2 ss
 have hle := Nat.le_of_lt X.out.1
 replace B := hid (aL B.out hle hb)
 replace X := hid (ah X.out hb)
 replace G := hid (aM G.out hb)
 replace RC := hid (aO RC.out hb)
 replace LT := hid (ah LT.out hb)
 clear hle
 clear hb
 by_cases e0 : E = 0
 case neg =>
  have hF0 : gY s xs nm = E := by unfold gY lL; rw [HE.out, if_pos e0]
  have hQ0 : E = Q := by rw [← HQ.out]; unfold mf; rw [hF0, if_pos e0]
  have hT0 : T = ⟨⟨0, 0, []⟩, []⟩ := by rw [← HT.out]; unfold ic; rw [HQ.out, ← hQ0, if_neg e0]; rfl
  have p1 : (E == 0) = false := by simp [e0]
  subst hQ0
  subst hT0
  have LT0 : Hid (ag w4 bT [.int .i64 0, .int .i64 0, .string ⟨#[]⟩, .slice ca 0 cap]) := LT.out
  have RC0 : Hid (mF w4 (.slice ca 0 cap) []) := RC.out
  clear LT RC HT HQ
  have LT := LT0
  have RC := RC0
  clear LT0 RC0
  obtain ⟨w5, g_w5, L0, hb2, sz⟩ := aR w4 #[.int .i64 0, .int .i64 0, .string ⟨#[]⟩, .slice none 0 0] 76
  obtain ⟨bW, h_bW⟩ : ∃ b, w4.heap.size = b := ⟨_, rfl⟩
  have ZW : Hid (ag w5 bW [.int .i64 0, .int .i64 0, .string ⟨#[]⟩, .slice none 0 0]) := h_bW ▸ L0
  have hle := Nat.le_of_lt X.out.1
  replace B := hid (aL B.out hle hb2)
  replace X := hid (ah X.out hb2)
  replace G := hid (aM G.out hb2)
  replace RC := hid (aO RC.out hb2)
  replace LT := hid (ah LT.out hb2)
  clear hle
  clear hb2 sz L0
  have RW : Hid (mF w5 (.slice none 0 0) []) := ⟨none, 0, rfl, fun h => absurd rfl h⟩
  go_wp2_with fail
  refine (mO m w5 G.out.max G.out.pos).mono ?_
  rintro e n1 ⟨rfl, hb⟩
  have hle := Nat.le_of_lt X.out.1
  replace B := hid (aL B.out hle hb)
  replace X := hid (ah X.out hb)
  replace G := hid (aM G.out hb)
  replace RC := hid (aO RC.out hb)
  replace LT := hid (ah LT.out hb)
  replace ZW := hid (ah ZW.out hb)
  replace RW := hid (aO RW.out hb)
  clear hle
  clear hb
  obtain ⟨⟨l0, _⟩, ⟨l1, _⟩, ⟨l2, _⟩, ⟨l3, _⟩, sl⟩ := cp4 LT.out
  obtain ⟨⟨u0, _⟩, ⟨u1, _⟩, ⟨u2, _⟩, ⟨u3, _⟩, su⟩ := cp4 ZW.out
  have HC : Hid (Calls Tryz.prog 36 #[.agg #[.int .i64 0, .int .i64 0, .string ⟨#[]⟩, .slice ca 0 cap], .int .i64 E, .int .i64 E, .agg #[.int .i64 0, .int .i64 0, .string ⟨#[]⟩, .slice none 0 0]] n1 fun e w' => e = .returned (.bool true) ∧ Below n1.heap.size n1 w') := oG ⟨0, 0, []⟩ ⟨0, 0, []⟩ _ _ [] [] E n1 RC.out RW.out (by simp) (fun _ => ⟨rfl, rfl⟩) (fun _ => ⟨rfl, rfl⟩)
  go_wp2_with fail
  refine HC.out.mono ?_
  rintro e n2 ⟨rfl, hb⟩
  clear HC
  have hle := Nat.le_of_lt X.out.1
  replace B := hid (aL B.out hle hb)
  replace X := hid (ah X.out hb)
  replace G := hid (aM G.out hb)
  replace RC := hid (aO RC.out hb)
  replace LT := hid (ah LT.out hb)
  replace ZW := hid (ah ZW.out hb)
  replace RW := hid (aO RW.out hb)
  clear hle
  clear hb
  go_wp2
  go_ret
  exact ⟨rfl, B.out⟩
 subst e0
 obtain ⟨f2, f3, f4⟩ : xs.length ≤ 20 ∧ s.links.length ≤ 20 ∧ Sx.EH s := by
  have ok := Sx.ow (ll HE.out 0 (by omega))
  obtain ⟨f1, f2, f3, f4⟩ := nk ok.many
  have hl := lY G.out.zv
  exact ⟨by omega, by omega, ok⟩
 obtain ⟨n', hn'⟩ : ∃ n', eY s.links nm = n' := ⟨_, rfl⟩
 have HN' := hid hn'
 have CL0 := Jq nm s.zones s.links xs ra za la s.rules.length rcap zcap lcap w4 G.out.zv G.out.links (by omega) (by omega)
 rw [hn'] at CL0
 obtain ⟨H, hH⟩ : ∃ H, gZ xs n' = H := ⟨_, rfl⟩
 have HH := hid hH
 clear hn' hH f4
 obtain ⟨⟨s0, _⟩, ⟨s1, _⟩, ⟨s2, _⟩, ss⟩ := cp3 X.out
 cases H
 case false =>
  have hF0 : gY s xs nm = 5 := by unfold gY lL; rw [HE.out, HN'.out, HH.out]; rfl
  have hQ0 : 5 = Q := by rw [← HQ.out]; unfold mf; rw [hF0]; rfl
  have hT0 : T = ⟨⟨0, 0, []⟩, []⟩ := by rw [← HT.out]; unfold ic; rw [HQ.out, ← hQ0]; rfl
  subst hQ0
  subst hT0
  rw [qx xs 0 HH.out] at CL0
  have HC := hid CL0
  clear CL0
  go_wp2_with fail
  refine HC.out.mono ?_
  rintro e w5 ⟨rfl, hb⟩
  clear HC s0 s1 s2 ss
  have hle := Nat.le_of_lt X.out.1
  replace B := hid (aL B.out hle hb)
  replace X := hid (ah X.out hb)
  replace G := hid (aM G.out hb)
  replace RC := hid (aO RC.out hb)
  replace LT := hid (ah LT.out hb)
  clear hle
  clear hb
  have LT0 : Hid (ag w5 bT [.int .i64 0, .int .i64 0, .string ⟨#[]⟩, .slice ca 0 cap]) := LT.out
  have RC0 : Hid (mF w5 (.slice ca 0 cap) []) := RC.out
  clear LT RC HT HQ
  have LT := LT0
  have RC := RC0
  clear LT0 RC0
  obtain ⟨w6, g_w6, L0, hb2, sz⟩ := aR w5 #[.int .i64 0, .int .i64 0, .string ⟨#[]⟩, .slice none 0 0] 76
  obtain ⟨bW, h_bW⟩ : ∃ b, w5.heap.size = b := ⟨_, rfl⟩
  have ZW : Hid (ag w6 bW [.int .i64 0, .int .i64 0, .string ⟨#[]⟩, .slice none 0 0]) := h_bW ▸ L0
  have hle := Nat.le_of_lt X.out.1
  replace B := hid (aL B.out hle hb2)
  replace X := hid (ah X.out hb2)
  replace G := hid (aM G.out hb2)
  replace RC := hid (aO RC.out hb2)
  replace LT := hid (ah LT.out hb2)
  clear hle
  clear hb2 sz L0
  have RW : Hid (mF w6 (.slice none 0 0) []) := ⟨none, 0, rfl, fun h => absurd rfl h⟩
  go_wp2_with fail
  refine (mO m w6 G.out.max G.out.pos).mono ?_
  rintro e n1 ⟨rfl, hb⟩
  have hle := Nat.le_of_lt X.out.1
  replace B := hid (aL B.out hle hb)
  replace X := hid (ah X.out hb)
  replace G := hid (aM G.out hb)
  replace RC := hid (aO RC.out hb)
  replace LT := hid (ah LT.out hb)
  replace ZW := hid (ah ZW.out hb)
  replace RW := hid (aO RW.out hb)
  clear hle
  clear hb
  obtain ⟨⟨l0, _⟩, ⟨l1, _⟩, ⟨l2, _⟩, ⟨l3, _⟩, sl⟩ := cp4 LT.out
  obtain ⟨⟨u0, _⟩, ⟨u1, _⟩, ⟨u2, _⟩, ⟨u3, _⟩, su⟩ := cp4 ZW.out
  have HC : Hid (Calls Tryz.prog 36 #[.agg #[.int .i64 0, .int .i64 0, .string ⟨#[]⟩, .slice ca 0 cap], .int .i64 5, .int .i64 5, .agg #[.int .i64 0, .int .i64 0, .string ⟨#[]⟩, .slice none 0 0]] n1 fun e w' => e = .returned (.bool true) ∧ Below n1.heap.size n1 w') := oG ⟨0, 0, []⟩ ⟨0, 0, []⟩ _ _ [] [] 5 n1 RC.out RW.out (by simp) (fun _ => ⟨rfl, rfl⟩) (fun _ => ⟨rfl, rfl⟩)
  go_wp2_with fail
  refine HC.out.mono ?_
  rintro e n2 ⟨rfl, hb⟩
  clear HC
  have hle := Nat.le_of_lt X.out.1
  replace B := hid (aL B.out hle hb)
  replace X := hid (ah X.out hb)
  replace G := hid (aM G.out hb)
  replace RC := hid (aO RC.out hb)
  replace LT := hid (ah LT.out hb)
  replace ZW := hid (ah ZW.out hb)
  replace RW := hid (aO RW.out hb)
  clear hle
  clear hb
  go_wp2
  go_ret
  exact ⟨rfl, B.out⟩
 have HF : Hid (gY s xs nm = 0) := by show _ = _; unfold gY lL; rw [HE.out, HN'.out, HH.out]; rfl
 obtain ⟨j, hj1, hj2⟩ := tC xs 0 HH.out
 rw [hj1, Nat.zero_add] at CL0
 obtain ⟨p, hp⟩ : ∃ p, lh xs n' = p := ⟨_, rfl⟩
 have hZ : dJ s xs nm = p.z := by rw [← hp, ← HN'.out]; exact Ap HF.out
 rw [hp] at hj2
 have TA0 := Sv G.out.zv HF.out
 rw [hZ] at TA0
 have TA := hid TA0
 have TE0 : ∀ x ∈ p.z.eras, x.rules ≠ [] → Sx.aY s.rules x.rules x.shift = 0 := fun x hx hr => by
  obtain ⟨u1, u2⟩ := qR HF.out
  refine xn u1 ?_ hr
  exact OX u2 (by rw [← Ap HF.out, hZ]; exact hx)
 obtain ⟨_, zin, _, h4⟩ := uX G.out.zv HF.out
 rw [hZ] at zin h4
 have TILL := hid (show ∀ e ∈ p.z.eras, e.opn = true ∨ lC e from fun e he => (h4 e he).till)
 have TE := hid TE0
 have hpin : p ∈ xs := List.mem_of_getElem? hj2
 have hjl : j < xs.length := (q4L.1 hj2).1
 have HJ2 := hid hj2
 have HPIN := hid hpin
 have HZZ := hid hZ
 have HC := hid CL0
 have hj3 : (j : Int) < (xs.length : Int) := by omega
 have TFEW : Hid (T.ch.length ≤ 1000000 ∧ (Q ≠ 0 → T.first = ⟨0, 0, []⟩ ∧ T.ch = [])) := by
  show _ ∧ _
  have hm := KR HF.out
  rw [HQ.out] at hm
  by_cases q : Q = 0
  ·refine ⟨?_, fun h => absurd q h⟩
   rw [← HT.out]; unfold ic; rw [HQ.out, if_pos q]
   exact TS (hm.symm.trans q)
  ·have e : T = ⟨lc0, []⟩ := by rw [← HT.out]; unfold ic; rw [HQ.out, if_neg q]
   rw [e]
   exact ⟨by simp, fun _ => ⟨rfl, rfl⟩⟩
 clear CL0 hp zin h4 hj2 hj1 hpin TA0 TE0 hZ
 go_wp2_with fail
 refine HC.out.mono ?_
 rintro e w5 ⟨rfl, hb⟩
 clear HC s0 s1 s2 ss
 have hle := Nat.le_of_lt X.out.1
 replace B := hid (aL B.out hle hb)
 replace X := hid (ah X.out hb)
 replace G := hid (aM G.out hb)
 replace RC := hid (aO RC.out hb)
 replace LT := hid (ah LT.out hb)
 clear hle
 clear hb
 obtain ⟨w6, g_w6, L0, hb2, sz⟩ := aR w5 #[.int .i64 0, .int .i64 0, .string ⟨#[]⟩, .slice none 0 0] 76
 obtain ⟨bW, h_bW⟩ : ∃ b, w5.heap.size = b := ⟨_, rfl⟩
 have ZW : Hid (ag w6 bW [.int .i64 0, .int .i64 0, .string ⟨#[]⟩, .slice none 0 0]) := h_bW ▸ L0
 have BWD : Below w5.heap.size w5 w6.drew := hb2.trans ((show Below w6.heap.size w6 w6.drew from ⟨rfl, rfl, rfl, Nat.le_refl _, fun _ _ => rfl⟩).mono hb2.size)
 have HBW := hid BWD
 have hNb : w5.heap.size ≤ bW := by omega
 have HNB := hid hNb
 have hNw : bW < w6.drew.heap.size := by show bW < w6.heap.size; omega
 have HNW := hid hNw
 obtain ⟨zb, zo, e1, hzb, hc⟩ := aN G.out.zv.rd HJ2.out
 subst e1
 have a0 : w5.cell? ⟨zb, zo + j * 2, none⟩ = some (af p.z.name) := by have := hc 0 _ rfl; simpa using this
 have a1 : w5.cell? ⟨zb, zo + j * 2 + 1, none⟩ = some (.slice p.a p.z.eras.length p.c) := hc 1 _ rfl
 obtain ⟨⟨s0, _⟩, ⟨s1, _⟩, ⟨s2, _⟩, sx⟩ := cp3 X.out
 have KS : Hid (∀ wz, Below w5.heap.size w5 wz → (wz.cell? ⟨N, 0, none⟩ = some (.slice ra s.rules.length rcap) ∧ wz.cell? ⟨N, 1, none⟩ = some (.slice (some ⟨zb, zo, none⟩) xs.length zcap) ∧ wz.cell? ⟨N, 2, none⟩ = some (.slice la s.links.length lcap) ∧ wz.cell? ⟨zb, zo + j * 2, none⟩ = some (af p.z.name) ∧ wz.cell? ⟨zb, zo + j * 2 + 1, none⟩ = some (.slice p.a p.z.eras.length p.c))) := fun wz hb => ⟨(hb.cell (p := ⟨N, 0, none⟩) sx).trans s0, (hb.cell (p := ⟨N, 1, none⟩) sx).trans s1, (hb.cell (p := ⟨N, 2, none⟩) sx).trans s2, (hb.cell (p := ⟨zb, zo + j * 2, none⟩) hzb).trans a0, (hb.cell (p := ⟨zb, zo + j * 2 + 1, none⟩) hzb).trans a1⟩
 have SS := hid (KS.out _ hb2)
 have CT : Hid (∀ W, Below w5.heap.size w5 W → Calls Tryz.prog 35 #[.agg #[.slice ra s.rules.length rcap, .slice (some ⟨zb, zo, none⟩) xs.length zcap, .slice la s.links.length lcap], .agg #[af p.z.name, .slice p.a p.z.eras.length p.c]] W fun e w' => ∃ oa oc, e = .returned (.tuple #[.agg #[.int .i64 T.first.shift, .int .i64 T.first.save, af T.first.name, .slice oa T.ch.length oc], .int .i64 Q]) ∧ ma w' W.heap.size (.slice oa T.ch.length oc) T.ch ∧ Below W.heap.size W w') := fun W hW => by
  refine (Ho s.rules p.z.name p.z.eras ra p.a rcap p.c _ _ W (au G.out.rules hW) G.out.size.rules (au (G.out.zv.eras p HPIN.out) hW) TA.out TILL.out TE.out).mono ?_
  intro e w' hE
  obtain ⟨oa, oc, e1, h2, h3⟩ := Uh G.out.zv.fst HF.out (by rw [HZZ.out]; exact hE)
  rw [HT.out, HQ.out] at e1
  rw [HT.out] at h2
  exact ⟨oa, oc, e1, h2, h3⟩
 clear s0 s1 s2 sx a0 a1 hc hzb L0 sz hb2 BWD hNb hNw HT HQ
 go_upto_region 10 with fail
 clear g_w6 h_bW
 have BWD := HBW.out
 have hNb := HNB.out
 have hNw := HNW.out
 refine wp_region_held_drew (S := fun w' => w'.cell? ⟨N, 0, none⟩ = some (.slice ra s.rules.length rcap) ∧ w'.cell? ⟨N, 1, none⟩ = some (.slice (some ⟨zb, zo, none⟩) xs.length zcap) ∧ w'.cell? ⟨N, 2, none⟩ = some (.slice la s.links.length lcap) ∧ w'.cell? ⟨zb, zo + j * 2, none⟩ = some (af p.z.name) ∧ w'.cell? ⟨zb, zo + j * 2 + 1, none⟩ = some (.slice p.a p.z.eras.length p.c)) (by kernel_rfl) SS.out (fun hHeld => ?_)
 refine tkA 0 rfl ?_
 refine tkA 1 rfl ?_
 refine tkA 2 rfl ?_
 refine tkA 3 rfl ?_
 refine tkA 4 rfl ?_
 refine tkA 5 rfl ?_
 refine rdH 6 rfl fun K hK => ?_
 go_simp
 refine (CT.out w6.drew BWD).mono ?_
 rintro e w10 ⟨oa, oc, rfl, hR, hb10⟩
 have hb := BWD.trans (hb10.mono BWD.size)
 have S7 := KS.out w10 hb
 have T7 : ag w10 bW [.int .i64 0, .int .i64 0, .string ⟨#[]⟩, .slice none 0 0] := ah (qB ZW.out) hb10
 obtain ⟨⟨q0, k0⟩, ⟨q1, k1⟩, ⟨q2, k2⟩, ⟨q3, k3⟩, sT⟩ := cp4 T7
 have B9 := ax (ax (ax (ax (hb) hNb 0 (.int .i64 T.first.shift)) hNb 1 (.int .i64 T.first.save)) hNb 2 (af T.first.name)) hNb 3 (.slice oa T.ch.length oc)
 have S9 := KS.out _ B9
 have T9 := aS (aS (aS (aS (T7) 0 (.int .i64 T.first.shift) (by simp)) 1 (.int .i64 T.first.save) (by simp)) 2 (af T.first.name) (by simp)) 3 (.slice oa T.ch.length oc) (by simp)
 simp only [List.set_cons_zero, List.set_cons_succ] at T9
 refine hK.out _ _ ?_ (fun hHeld => ?_)
 ·exact S7
 clear hK K
 try simp only [Act.put, j]
 refine tkA 7 rfl ?_
 refine tkA 8 rfl ?_
 refine tkA 9 rfl ?_
 refine rdH 10 rfl fun K hK => ?_
 go_simp
 refine hK.out _ _ ?_ (fun hHeld => ?_)
 ·exact S9
 clear hK K
 try simp only [Act.put, j]
 refine tkA 11 rfl ?_
 refine wpAnyH_done (by kernel_rfl) ?_ _
 obtain ⟨wS, hwS⟩ : ∃ y, (((w10.setCell ⟨bW, 0, none⟩ (.int .i64 T.first.shift)).setCell ⟨bW, 1, none⟩ (.int .i64 T.first.save)).setCell ⟨bW, 2, none⟩ (af T.first.name)).setCell ⟨bW, 3, none⟩ (.slice oa T.ch.length oc) = y := ⟨_, rfl⟩
 have R9 : mF ((((w10.setCell ⟨bW, 0, none⟩ (.int .i64 T.first.shift)).setCell ⟨bW, 1, none⟩ (.int .i64 T.first.save)).setCell ⟨bW, 2, none⟩ (af T.first.name)).setCell ⟨bW, 3, none⟩ (.slice oa T.ch.length oc)) (.slice oa T.ch.length oc) T.ch := pQ (dY (dY (dY (dY hR hNw) hNw) hNw) hNw)
 rw [hwS] at B9 T9 R9 ⊢
 have ZW := hid T9
 have HB9 := hid B9
 have RW := hid R9
 clear S7 S9 hHeld T7 q0 q1 q2 q3 k0 k1 k2 k3 sT T9 B9 R9 hwS hb hR hb10 KS SS CT BWD hNb HBW HNB hNw HNW
 have hle := Nat.le_of_lt X.out.1
 replace B := hid (aL B.out hle HB9.out)
 replace X := hid (ah X.out HB9.out)
 replace G := hid (aM G.out HB9.out)
 replace RC := hid (aO RC.out HB9.out)
 replace LT := hid (ah LT.out HB9.out)
 clear hle
 go_wp2_with fail
 refine (mO m wS G.out.max G.out.pos).mono ?_
 rintro e n1 ⟨rfl, hb⟩
 have hle := Nat.le_of_lt X.out.1
 replace B := hid (aL B.out hle hb)
 replace X := hid (ah X.out hb)
 replace G := hid (aM G.out hb)
 replace RC := hid (aO RC.out hb)
 replace LT := hid (ah LT.out hb)
 replace ZW := hid (ah ZW.out hb)
 replace RW := hid (aO RW.out hb)
 clear hle
 clear hb
 obtain ⟨⟨l0, _⟩, ⟨l1, _⟩, ⟨l2, _⟩, ⟨l3, _⟩, sl⟩ := cp4 LT.out
 obtain ⟨⟨u0, _⟩, ⟨u1, _⟩, ⟨u2, _⟩, ⟨u3, _⟩, su⟩ := cp4 ZW.out
 have HC : Hid (Calls Tryz.prog 36 #[.agg #[.int .i64 T.first.shift, .int .i64 T.first.save, .string ⟨T.first.name.toArray⟩, .slice ca T.ch.length cap], .int .i64 Q, .int .i64 Q, .agg #[.int .i64 T.first.shift, .int .i64 T.first.save, .string ⟨T.first.name.toArray⟩, .slice oa T.ch.length oc]] n1 fun e w' => e = .returned (.bool true) ∧ Below n1.heap.size n1 w') := oG T.first T.first _ _ T.ch T.ch Q n1 RC.out RW.out TFEW.out.1 (fun _ => ⟨rfl, rfl⟩) TFEW.out.2
 go_wp2_with fail
 refine HC.out.mono ?_
 rintro e n2 ⟨rfl, hb⟩
 clear HC
 have hle := Nat.le_of_lt X.out.1
 replace B := hid (aL B.out hle hb)
 replace X := hid (ah X.out hb)
 replace G := hid (aM G.out hb)
 replace RC := hid (aO RC.out hb)
 replace LT := hid (ah LT.out hb)
 replace ZW := hid (ah ZW.out hb)
 replace RW := hid (aO RW.out hb)
 clear hle
 clear hb
 go_wp2
 go_ret
 exact ⟨rfl, B.out⟩
theorem uM (s : Sx.Sr) (xs : List ZV) (ra za la : Option Addr) (rcap zcap lcap : Nat) (a1 : ByteArray) (w : World) (g : Iu s xs ra za la rcap zcap lcap w) (m : Int) (hm : w.cell? ⟨0, 0, none⟩ = some (.int .i64 m)) (h0 : 0 < w.heap.size) :
  Calls Tryz.prog 10 #[.agg #[.slice ra s.rules.length rcap, .slice za xs.length zcap, .slice la s.links.length lcap], .string a1] w fun e w' => e = .returned (.bool true) ∧ Below w.heap.size w w' := by
 have q := vW s xs ra za la rcap zcap lcap m a1.data.toList w (NS g hm h0)
 rw [uL] at q
 exact q
end
section
open Go.ChangeShapes Go.WideShapes Go.ChangeAt Go.RowKit

theorem int_of_shape {P : Program} {w : World} {g : Nat} {t : TypeId} {zero : Array Value} (h : w.ShapedOpen P) (hg : g < P.globals.size)
  (h0 : ((begin P (fun _ _ => 0) default).world.heap[g]?).bind Obj.row? = some (zero, t)) (hz : zero.size = 1)
  (hb : P.buildable t = true) (hc : P.cellTypes P.depth t = some [t]) (hu : P.underlying t = some (.int .i64)) : ∃ m, w.cell? ⟨g, 0, none⟩ = some (.int .i64 m) := by
 obtain ⟨cs, hh, hs, hr⟩ := h.1 g zero t hg h0
 obtain ⟨ts, hts, _, hall⟩ := hr hb
 rw [hc] at hts
 cases hts
 have h1 : 0 < cs.size := by omega
 obtain ⟨u, hu', hok⟩ := hall 0 cs[0] (by simp [h1])
 have : u = t := by simpa using hu'.symm
 subst this
 have hcell : w.cell? ⟨g, 0, none⟩ = some cs[0] := by simp [World.cell?, hh, h1]
 rw [hcell]
 unfold Cell.ok at hok
 rw [hu] at hok
 cases hv : cs[0] <;> rw [hv] at hok <;> simp at hok ⊢
 rename_i k n
 cases k <;> simp_all
theorem Fz : decide (0 < Tryz.prog.globals.size) = true := by kernel_rfl
theorem MN {w : World} (h : w.ShapedOpen Tryz.prog) : ∃ m, w.cell? ⟨0, 0, none⟩ = some (.int .i64 m) :=
 int_of_shape (t := 3) (zero := #[.int .i64 0]) h (of_decide_eq_true Fz) (by kernel_rfl) rfl (by kernel_rfl) (by kernel_rfl) Tryz.underlying3
theorem Pz {w : World} {m : Int} (h : w.cell? ⟨0, 0, none⟩ = some (.int .i64 m)) : 0 < w.heap.size := by
 unfold World.cell? at h
 split at h
 ·rename_i hb; exact (q4A.1 hb).1
 ·cases h
end
section
open Go.ChangeShapes Go.WideShapes Go.ChangeAt Go.RowKit Go.Joins Go.ChangeMaps

theorem qi (os : Os) (started : os.Started) (H : Type) (enc : TypeId × Value → H) :
  ReturnsInHanded {} Tryz.checked os 10 .any (Rows.tableCompilesSpec.pre6 enc Tryz.prog Tryz.f10 Rows.tableCompilesRow.domain false) (Rows.tableCompilesSpec.post enc Tryz.prog Tryz.f10 false true false false) := by
 refine returnsInHanded_of_change_shaped (C := Tryz.checked) own started (by kernel_rfl) Tryz.func10
  (ChangeSpec.witness6 (enc := enc) (C := Tryz.checked) false ⟨#[], #[.agg #[.slice none 0 0, .slice none 0 0, .slice none 0 0], .string ⟨#[]⟩], []⟩ 8 (by kernel_rfl) (by kernel_rfl) (by kernel_rfl) (by kernel_rfl)) ?_
 intro W base args ds gs before hval0 hW hcnd hsz hsh _
 have hval : ∀ (j : Nat) t v, Tryz.f10.params[j]? = some t → args[j]? = some v → Value.okWide Tryz.prog W .any base t v := hval0
 have hW' := hW
 obtain ⟨p, q, hA0, hV, rfl, hfz, hnd⟩ := hW
 have hA : DataW.TrodAll enc Tryz.prog W 0 (fun _ => true) true Tryz.f10.params.toList args.toList ds p := hA0
 rw [Tryz.params10] at hA hval
 obtain ⟨v0, v1, d0, d1, p0, p1, rfl, rfl, rfl, h0, h1⟩ := trodAll_two hA
 obtain ⟨rfl, rfl⟩ := trodVars_none hV
 obtain ⟨⟨s0, xs0, ra0, za0, la0, rc0, zc0, lc0, rfl, g0⟩, lt0⟩ := xD (hval 0 26 v0 rfl rfl) h0
 obtain ⟨a1, rfl, rfl, rfl, w1⟩ := open_string Tryz.underlying9 (hval 1 9 v1 rfl rfl) h1
 obtain ⟨m, hm⟩ := MN hsh
 clear hA0 hval0
 refine (uM s0 xs0 ra0 za0 la0 rc0 zc0 lc0 a1 W g0 m hm (Pz hm)).mono fun e W' ⟨he, bel⟩ => ?_
 subst he
 exact ⟨_, rfl, _, _, _, [], _, [], hW', trodAll_mk1 (shut_bool Tryz.underlying4 _), trodAll_mk2 (Ef h0 bel lt0) (shut_string Tryz.underlying9 w1), rfl, bel.frame _, fun h => by cases h⟩

theorem tableCompiles_holds : Rows.TableCompilesSaid :=
 OpenClaim.holds_of_wide 10 Tryz.f10 rfl rfl rfl rfl rfl rfl rfl ⟨rfl, rfl, rfl, rfl, rfl⟩ rfl rfl rfl rfl rfl (by kernel_rfl) Tryz.func10 (by kernel_rfl)
  (of_decide_eq_true (by kernel_rfl)) (by unfold Func.isWrapper; first | (rw [if_pos (by decide +kernel)]; kernel_rfl) | (rw [if_neg (by decide +kernel)]; exact ⟨rfl, rfl⟩))
  (fun os started H enc _ => qi os started H enc)
#print axioms tableCompiles_holds
end
end Go.Proofs.YtkhlkohlccndgaaGreat
