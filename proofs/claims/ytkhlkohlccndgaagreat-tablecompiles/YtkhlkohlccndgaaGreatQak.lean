/- Part of the proof: ZeC ZeD Iv SkE SkL Zt SkZ Zf Wl Ed Bz ItA ItC ShT So RtP TmP Tms TmM. -/
import Derived.Test.YtkhlkohlccndgaaGreatQz
import Derived.Test.YtkhlkohlccndgaaGreatQai
import Derived.Test.YtkhlkohlccndgaaGreatQah
import Derived.Test.YtkhlkohlccndgaaGreatQaj
import Derived.Test.YtkhlkohlccndgaaGreatQaa
import Derived.RangeFuncCalls
import Derived.OrdersIn
import Derived.OrdersHeld
import Derived.OwnWalkIn
import Derived.OwnWalk
import Derived.Deep.RegionHeld3
import Derived.Maps.AppendAt
import Derived.Shelf.SlSortCmp.NoneTotal
import Derived.Test.YtkhlkohlccndgaaGreatProg
set_option linter.unusedVariables false
set_option linter.unusedSimpArgs false
set_option maxRecDepth 100000
set_option maxHeartbeats 16000000
namespace Go.Proofs.YtkhlkohlccndgaaGreat
section
open Go.RowKit
attribute [local go_sem ↓] Go.wp_at_zero Go.wp_at_succ

theorem Sc {α : Type} {z : Nat} {cells : α → List Value} {w : World} {a : Option Addr} {n cap k : Nat} {xs : List α} (h : Rd z cells w (.slice a n cap) xs) (hk : k ≤ xs.length) (c : Nat) : Rd z cells w (.slice a k c) (xs.take k) := by
 obtain ⟨a', cap', h1, h2⟩ := h
 simp at h1
 obtain ⟨rfl, _, _⟩ := h1
 have hl : (xs.take k).length = k := by simp; omega
 refine ⟨a, c, by rw [hl], fun hn => ?_⟩
 have hx : xs ≠ [] := by rintro rfl; simp at hn
 obtain ⟨b, o, e, hb, hc⟩ := h2 hx
 refine ⟨b, o, e, hb, fun i x hi q u hu => hc i x ?_ q u hu⟩
 have := (q4L.1 hi).1
 rw [List.getElem?_take_of_lt (by omega)] at hi
 exact hi
theorem wH : ∀ (l : List Sx.Er) (x : Sx.Er), Sx.iW (l ++ [x]) = Sx.aA id [Sx.aA (fun e => Sx.dS e false) l, Sx.dS x true]
 | [], x => by simp [Sx.iW, Sx.aA]
 | y :: r, x => by
   have ih := wH r x
   have e : Sx.iW (y :: r ++ [x]) = if Sx.dS y false ≠ 0 then Sx.dS y false else Sx.iW (r ++ [x]) := by
    cases r <;> rfl
   rw [e, ih]
   simp only [Sx.aA, id]
   by_cases q : Sx.dS y false = 0 <;> simp [q]
theorem yw (x : Sx.Er) (m : Int) (w : World) (hr : x.rules.length ≤ maxLen) (hf : x.format.length ≤ maxLen) (hm : w.cell? ⟨0, 0, none⟩ = some (.int .i64 m)) (h0 : 0 < w.heap.size) :
  Calls Tryz.prog 155 #[iF x] w fun e w' => e = .returned (.int .i64 (Sx.dS x false)) ∧ Below w.heap.size w w' := by
 have BV := hid ((q4B w.heap.size w).alloc (Nat.le_refl _) (.cells (ay x).toArray 67))
 have XV := hid (aC w (ay x) 67)
 have C := hid (rF x false m (w.alloc (.cells (ay x).toArray 67)) hr hf ((BV.out.cell (p := ⟨0, 0, none⟩) h0).trans hm) (q4N h0 BV.out.size))
 obtain ⟨⟨x0, _⟩, ⟨x1, _⟩, ⟨x2, _⟩, ⟨x3, _⟩, ⟨x4, _⟩, ⟨x5, _⟩, ⟨x6, _⟩, ⟨x7, _⟩, ⟨x8, _⟩, ⟨x9, _⟩, -⟩ := cp10 XV.out
 clear hr hf hm h0 x0 x1 x2 x3 x4 x5 x6 x7 x8 x9
 go_enter Tryz.func155, Tryz.ntmps155
 go_wp2_with fail
 refine C.out.mono ?_
 rintro e w1 ⟨rfl, hb⟩
 go_wp2
 go_ret
 exact ⟨rfl, BV.out.trans (hb.mono BV.out.size)⟩
theorem Dv (xs : List Sx.Er) (rv : Value) (m : Int) (w : World) (h : fA w rv xs) (hs : ∀ x ∈ xs, x.rules.length ≤ maxLen ∧ x.format.length ≤ maxLen) (hl : xs.length ≤ 1000) (hm : w.cell? ⟨0, 0, none⟩ = some (.int .i64 m)) (h0 : 0 < w.heap.size) :
  Calls Tryz.prog 154 #[rv, .func (.func 155) #[] #[]] w fun e w' => e = .returned (.int .i64 (Sx.aA (fun e => Sx.dS e false) xs)) ∧ Below w.heap.size w w' := by
 obtain ⟨R, hR⟩ : ∃ R, Sx.aA (fun e => Sx.dS e false) xs = R := ⟨_, rfl⟩
 rw [hR]
 have HR : Hid (R = Sx.aA (fun e => Sx.dS e false) (xs.drop 0)) := hR.symm
 obtain ⟨ra, rcap, rfl⟩ := bQ h
 have H := hid h
 have HS := hid hs
 have HM := hid hm
 have H0 := hid h0
 clear hR h hs hm h0
 have eg : ∀ args w, (callFunc 155 args).run Tryz.prog w = .ok (.enter 155 args) w := enters_of Tryz.func155 (by kernel_rfl) rfl
 go_enter Tryz.func154, Tryz.ntmps154
 go_wp2_with fail
 go_loopw [10] (fun a wr => ∃ k : Nat, k ≤ xs.length ∧ a = .int .i64 k ∧ Hid (Below w.heap.size w wr) ∧ Hid (R = Sx.aA (fun e => Sx.dS e false) (xs.drop k))) (fun a _ => xs.length - (intOf a).toNat)
 case atStart => exact ⟨0, by omega, rfl, q4B _ _, HR⟩
 case round =>
  clear HR
  obtain ⟨k, hk, rfl, B0, HR⟩ := hrel
  by_cases hlt : k < xs.length
  case neg =>
   have HR2 : Hid (R = 0) := by show _ = _; rw [HR.out]; exact Sx.fH _ hlt
   go_wp2
   go_ret
   exact ⟨ai (by rw [HR2.out]), B0.out⟩
  obtain ⟨x, hx⟩ : ∃ x, xs[k]? = some x := ⟨_, q4G hlt⟩
  obtain ⟨rb, ro, rfl, hrb, hc⟩ := aN (au H.out B0.out) hx
  obtain ⟨c0, c1, c2, c3, c4, c5, c6, c7, c8, c9⟩ := sI hc
  have HX := hid hx
  have SX := hid (HS.out x (List.mem_of_getElem? hx))
  have HM2 : Hid (wr.cell? ⟨0, 0, none⟩ = some (.int .i64 m)) := (B0.out.cell (p := ⟨0, 0, none⟩) H0.out).trans HM.out
  have H02 : Hid (0 < wr.heap.size) := q4N H0.out B0.out.size
  clear hx hc
  have BW := hid ((q4B wr.heap.size wr).alloc (Nat.le_refl _) (.cells #[.int .i64 x.shift, af x.rules, .int .i64 x.save, af x.format, .bool x.opn, .int .i64 x.uy, .int .i64 x.um, .int .i64 x.ud, .int .i64 x.uat, .int .i64 x.uclock] 67))
  have BV := hid (B0.out.alloc B0.out.size (.cells #[.int .i64 x.shift, af x.rules, .int .i64 x.save, af x.format, .bool x.opn, .int .i64 x.uy, .int .i64 x.um, .int .i64 x.ud, .int .i64 x.uat, .int .i64 x.uclock] 67))
  have HM3 : Hid ((wr.alloc (.cells #[.int .i64 x.shift, af x.rules, .int .i64 x.save, af x.format, .bool x.opn, .int .i64 x.uy, .int .i64 x.um, .int .i64 x.ud, .int .i64 x.uat, .int .i64 x.uclock] 67)).cell? ⟨0, 0, none⟩ = some (.int .i64 m)) := (BW.out.cell (p := ⟨0, 0, none⟩) H02.out).trans HM2.out
  have H03 : Hid (0 < (wr.alloc (.cells #[.int .i64 x.shift, af x.rules, .int .i64 x.save, af x.format, .bool x.opn, .int .i64 x.uy, .int .i64 x.um, .int .i64 x.ud, .int .i64 x.uat, .int .i64 x.uclock] 67)).heap.size) := q4N H02.out BW.out.size
  go_wp2_with fail
  refine (yw x m _ SX.out.1 SX.out.2 HM3.out H03.out).mono ?_
  rintro e w1 ⟨rfl, hb⟩
  have B1 : Hid (Below w.heap.size w w1) := BV.out.trans (hb.mono BV.out.size)
  clear hb B0 BV BW HM2 HM3 H02 H03 c0 c1 c2 c3 c4 c5 c6 c7 c8 c9 hrb
  obtain ⟨E, hE⟩ : ∃ E, (fun e => Sx.dS e false) x = E := ⟨_, rfl⟩
  try simp only [] at hE
  rw [hE]
  by_cases h0 : E = 0
  case neg =>
   have HR2 : Hid (R = E) := by show _ = _; rw [← hE]; exact Sx.jV (fun e => Sx.dS e false) HX.out HR.out (by rw [hE]; exact h0)
   have h0' : (E != 0) = true := by simp [h0]
   clear hE
   go_wp2
   go_ret
   exact ⟨ai (by rw [HR2.out]), B1.out⟩
  have HR2 : Hid (R = Sx.aA (fun e => Sx.dS e false) (xs.drop (k + 1))) := Sx.jo (fun e => Sx.dS e false) HX.out HR.out (by rw [hE]; exact h0)
  clear hE HR
  subst h0
  go_wp2
  go_roundw
  case rel => exact ⟨k + 1, by omega, by go_num, B1, HR2⟩
  case measure => simp [intOf]; omega
theorem Re (z : Sx.Zn) (l : List Sx.Er) (x : Sx.Er) (h : z.eras = l ++ [x]) (hn : Sx.aW z.name = true) : Sx.dm z = Sx.aA id [Sx.aA (fun e => Sx.dS e false) l, Sx.dS x true] := by
 unfold Sx.dm
 rw [hn, h, wH]
 simp
/- slices that do not outgrow their room -/
def CapE (ev : Value) (n : Nat) : Prop := ∃ a c, ev = .slice a n c ∧ n ≤ c
def rq (w : World) (v : Value) (zs : List Sx.Zn) : Prop := ∀ (i : Nat) (x : Sx.Zn) (b o cap : Nat), zs[i]? = some x → v = .slice (some ⟨b, o, none⟩) zs.length cap → ∀ ev, w.cell? ⟨b, o + i * 2 + 1, none⟩ = some ev → CapE ev x.eras.length
theorem pu {w w' : World} {v : Value} {zs : List Sx.Zn} (h : rq w v zs) (hr : fU w v zs) (hb : Below w.heap.size w w') : rq w' v zs := by
 intro i x b o cap hx hv ev he
 subst hv
 obtain ⟨b', o', ea, ecap, e, hlt, _⟩ := l5 hr hx
 simp only [Option.some.injEq, Addr.mk.injEq] at e
 obtain ⟨rfl, rfl, _⟩ := e
 exact h i x b o cap hx rfl ev ((hb.cell (p := ⟨b, o + i * 2 + 1, none⟩) hlt).symm.trans he)
structure ZnH (B eb off : Nat) (nm : Tx.Bs) (sl : Value) (x : Sx.Er) (w : World) : Prop where
 c0 : w.cell? ⟨B, 0, none⟩ = some (af nm)
 c1 : w.cell? ⟨B, 1, none⟩ = some sl
 e0 : w.cell? ⟨eb, off, none⟩ = some (.int .i64 x.shift)
 e1 : w.cell? ⟨eb, off + 1, none⟩ = some (af x.rules)
 e2 : w.cell? ⟨eb, off + 2, none⟩ = some (.int .i64 x.save)
 e3 : w.cell? ⟨eb, off + 3, none⟩ = some (af x.format)
 e4 : w.cell? ⟨eb, off + 4, none⟩ = some (.bool x.opn)
 e5 : w.cell? ⟨eb, off + 5, none⟩ = some (.int .i64 x.uy)
 e6 : w.cell? ⟨eb, off + 6, none⟩ = some (.int .i64 x.um)
 e7 : w.cell? ⟨eb, off + 7, none⟩ = some (.int .i64 x.ud)
 e8 : w.cell? ⟨eb, off + 8, none⟩ = some (.int .i64 x.uat)
 e9 : w.cell? ⟨eb, off + 9, none⟩ = some (.int .i64 x.uclock)
theorem wo {B eb off : Nat} {nm : Tx.Bs} {sl : Value} {x : Sx.Er} {w w' : World} (h : ZnH B eb off nm sl x w) (hb : Below w.heap.size w w') (hB : B < w.heap.size) (he : eb < w.heap.size) : ZnH B eb off nm sl x w' := by
 have e := fun k => hb.cell (p := ⟨B, k, none⟩) hB
 have f := fun k => hb.cell (p := ⟨eb, k, none⟩) he
 exact ⟨(e 0).trans h.c0, (e 1).trans h.c1, (f _).trans h.e0, (f _).trans h.e1, (f _).trans h.e2, (f _).trans h.e3, (f _).trans h.e4, (f _).trans h.e5, (f _).trans h.e6, (f _).trans h.e7, (f _).trans h.e8, (f _).trans h.e9⟩
theorem zH (z : Sx.Zn) (ev : Value) (m : Int) (w : World) (h : fA w ev z.eras) (hcp : CapE ev z.eras.length) (hs : z.name.length ≤ maxLen ∧ ∀ x ∈ z.eras, x.rules.length ≤ maxLen ∧ x.format.length ≤ maxLen) (hl : z.eras.length ≤ 1000) (hm : w.cell? ⟨0, 0, none⟩ = some (.int .i64 m)) (h0 : 0 < w.heap.size) :
  Calls Tryz.prog 93 #[.agg #[af z.name, ev]] w fun e w' => e = .returned (.int .i64 (Sx.dm z)) ∧ Below w.heap.size w w' := by
 obtain ⟨a, cap, rfl, hcp⟩ := hcp
 have BV := hid ((q4B w.heap.size w).alloc (Nat.le_refl _) (.cells [af z.name, .slice a z.eras.length cap].toArray 44))
 have XV := hid (aC w [af z.name, .slice a z.eras.length cap] 44)
 have HM : Hid ((w.alloc (.cells [af z.name, .slice a z.eras.length cap].toArray 44)).cell? ⟨0, 0, none⟩ = some (.int .i64 m)) := (BV.out.cell (p := ⟨0, 0, none⟩) h0).trans hm
 have H0 : Hid (0 < (w.alloc (.cells [af z.name, .slice a z.eras.length cap].toArray 44)).heap.size) := q4N h0 BV.out.size
 have HR := hid (au h BV.out)
 obtain ⟨⟨x0, _⟩, ⟨x1, _⟩, sx⟩ := cp2 XV.out
 have HS := hid hs
 have NM := hid hs.1
 have HL := hid hl
 clear hm h0 h hs hl
 obtain ⟨N, hN⟩ : ∃ N, Sx.aW z.name = N := ⟨_, rfl⟩
 have HN := hid hN
 cases N
 case false =>
  have HE : Hid (Sx.dm z = 1) := by show _ = _; unfold Sx.dm; rw [hN]; rfl
  clear hN
  go_enter Tryz.func93, Tryz.ntmps93
  go_wp2_with (go_at_call 151; refine (fO z.name _ HS.out.1 HN.out).mono ?_; rintro e w1 ⟨rfl, rfl⟩)
  go_ret
  exact ⟨ai HE.out.symm, BV.out⟩
 rcases List.eq_nil_or_concat z.eras with he | ⟨l, x, he⟩
 ·have HE : Hid (Sx.dm z = 1) := by show _ = _; unfold Sx.dm; rw [hN, he]; rfl
  have hz : z.eras.length = 0 := by rw [he]; rfl
  rw [hz] at x1 ⊢
  rw [hz] at BV
  clear hN XV HR HM H0
  go_enter Tryz.func93, Tryz.ntmps93
  go_wp2_with (go_at_call 151; refine (fO z.name _ HS.out.1 HN.out).mono ?_; rintro e w1 ⟨rfl, rfl⟩)
  go_ret
  exact ⟨ai HE.out.symm, BV.out⟩
 rw [List.concat_eq_append] at he
 have HE : Hid (Sx.dm z = Sx.aA id [Sx.aA (fun e => Sx.dS e false) l, Sx.dS x true]) := Re z l x he hN
 have hz : z.eras.length = l.length + 1 := by rw [he]; simp
 have htk : z.eras.take l.length = l := by rw [he]; simp
 have hgt : z.eras[l.length]? = some x := by rw [he]; simp
 have H1 := hid (HS.out.2 x (by rw [he]; simp))
 have H2 : Hid (∀ y ∈ l, y.rules.length ≤ maxLen ∧ y.format.length ≤ maxLen) := fun y hy => HS.out.2 y (by rw [he]; simp [hy])
 have hll : l.length + 1 ≤ 1000 := by have := HL.out; omega
 have hcc : l.length ≤ cap := by omega
 have hidx : (l.length : Int) < (l.length : Int) + 1 := by omega
 rw [hz] at x0 x1 HM HR BV H0 XV sx ⊢
 obtain ⟨eb, eo, rfl, heb, hc⟩ := aN HR.out hgt
 obtain ⟨f0, f1, f2, f3, f4, f5, f6, f7, f8, f9⟩ := sI hc
 have HRT : Hid (∀ c, fA (w.alloc (.cells [af z.name, .slice (some ⟨eb, eo, none⟩) (l.length + 1) cap].toArray 44)) (.slice (some ⟨eb, eo, none⟩) l.length c) l) := by
  intro c
  have := Sc (k := l.length) HR.out (by omega) c
  rw [htk] at this
  exact this
 clear hN he hz htk hgt hc HL HS
 obtain ⟨V, hV⟩ : ∃ V, w.alloc (.cells [af z.name, .slice (some ⟨eb, eo, none⟩) (l.length + 1) cap].toArray 44) = V := ⟨_, rfl⟩
 obtain ⟨B, hB⟩ : ∃ B, w.heap.size = B := ⟨_, rfl⟩
 have SS : Hid (ZnH B eb (eo + l.length * 10) z.name (.slice (some ⟨eb, eo, none⟩) (l.length + 1) cap) x V.drew) := by
  rw [← hB, ← hV]; exact ⟨x0, x1, f0, f1, f2, f3, f4, f5, f6, f7, f8, f9⟩
 have BVV : Hid (Below w.heap.size w V) := by rw [← hV]; exact BV.out
 have HMV : Hid (V.cell? ⟨0, 0, none⟩ = some (.int .i64 m)) := by rw [← hV]; exact HM.out
 have H0V : Hid (0 < V.heap.size) := by rw [← hV]; exact H0.out
 have HRV : Hid (∀ c, fA V (.slice (some ⟨eb, eo, none⟩) l.length c) l) := by rw [← hV]; exact HRT.out
 have SB : Hid (B < V.heap.size ∧ eb < V.heap.size) := by rw [← hB, ← hV]; exact ⟨sx, heb⟩
 rw [hV] at x0 x1 sx
 rw [hB] at x0 x1 sx
 clear f0 f1 f2 f3 f4 f5 f6 f7 f8 f9 heb BV HM H0 HR HRT XV
 go_enter Tryz.func93, Tryz.ntmps93
 go_upto_region 4 with (go_at_call 151; refine (fO z.name _ NM.out HN.out).mono ?_; rintro e w1 ⟨rfl, rfl⟩)
 have SD : ZnH B eb (eo + l.length * 10) z.name (.slice (some ⟨eb, eo, none⟩) (l.length + 1) cap) x w1.drew := SS.out
 have HRD : Hid (∀ c, fA w1.drew (.slice (some ⟨eb, eo, none⟩) l.length c) l) := fun c => au (HRV.out c) ⟨rfl, rfl, rfl, Nat.le_refl _, fun _ _ => rfl⟩
 refine wp_region_held_drew (S := fun w' => ZnH B eb (eo + l.length * 10) z.name (.slice (some ⟨eb, eo, none⟩) (l.length + 1) cap) x w') (by kernel_rfl) SD (fun hHeld => ?_)
 refine tkH 0 ?vz1 rfl ?z1 ?_
 case z1 => (intro w hSw; obtain ⟨s0, s1, s2, s3, s4, s5, s6, s7, s8, s9, s10, s11⟩ := hSw; go_simp; try with_reducible rfl)
 try simp only [Act.put, j]
 refine tkH 1 ?vz2 rfl ?z2 ?_
 case z2 => (intro w hSw; obtain ⟨s0, s1, s2, s3, s4, s5, s6, s7, s8, s9, s10, s11⟩ := hSw; go_simp; try with_reducible rfl)
 try simp only [Act.put, j]
 refine tkH 2 ?vz3 rfl ?z3 ?_
 case z3 => (intro w hSw; obtain ⟨s0, s1, s2, s3, s4, s5, s6, s7, s8, s9, s10, s11⟩ := hSw; go_simp; try with_reducible rfl)
 try simp only [Act.put, j]
 refine tkH 3 ?vz4 rfl ?z4 ?_
 case z4 => (intro w hSw; obtain ⟨s0, s1, s2, s3, s4, s5, s6, s7, s8, s9, s10, s11⟩ := hSw; go_simp; try with_reducible rfl)
 try simp only [Act.put, j]
 refine tkH 5 ?vz5 rfl ?z5 ?_
 case z5 => (intro w hSw; obtain ⟨s0, s1, s2, s3, s4, s5, s6, s7, s8, s9, s10, s11⟩ := hSw; go_simp; try with_reducible rfl)
 try simp only [Act.put, j]
 refine tkH 6 ?vz6 rfl ?z6 ?_
 case z6 => (intro w hSw; obtain ⟨s0, s1, s2, s3, s4, s5, s6, s7, s8, s9, s10, s11⟩ := hSw; go_simp; try with_reducible rfl)
 try simp only [Act.put, j]
 refine tkH 7 ?vz7 rfl ?z7 ?_
 case z7 => (intro w hSw; obtain ⟨s0, s1, s2, s3, s4, s5, s6, s7, s8, s9, s10, s11⟩ := hSw; go_simp; try with_reducible rfl)
 try simp only [Act.put, j]
 refine tkH 8 ?vz8 rfl ?z8 ?_
 case z8 => (intro w hSw; obtain ⟨s0, s1, s2, s3, s4, s5, s6, s7, s8, s9, s10, s11⟩ := hSw; go_simp; try with_reducible rfl)
 try simp only [Act.put, j]
 refine tkH 9 ?vz9 rfl ?z9 ?_
 case z9 => (intro w hSw; obtain ⟨s0, s1, s2, s3, s4, s5, s6, s7, s8, s9, s10, s11⟩ := hSw; go_simp; try with_reducible rfl)
 try simp only [Act.put, j]
 refine rdH 4 rfl fun K hK => ?_
 go_simp
 refine (Dv l _ m _ (HRD.out _) H2.out (by omega) HMV.out H0V.out).mono ?_
 rintro e w3 ⟨rfl, hb3⟩
 have S3 : ZnH B eb (eo + l.length * 10) z.name (.slice (some ⟨eb, eo, none⟩) (l.length + 1) cap) x w3 := wo hHeld hb3 SB.out.1 SB.out.2
 have B3 : Hid (Below w1.heap.size w1 w3) := bq hb3
 have M3 : w3.cell? ⟨0, 0, none⟩ = some (.int .i64 m) := (B3.out.cell (p := ⟨0, 0, none⟩) H0V.out).trans HMV.out
 have Z3 : 0 < w3.heap.size := q4N H0V.out B3.out.size
 have L3 : B < w3.heap.size ∧ eb < w3.heap.size := ⟨q4N SB.out.1 B3.out.size, q4N SB.out.2 B3.out.size⟩
 clear hb3
 refine hK.out _ _ ?_ (fun hHeld => ?_)
 ·exact S3
 clear hK K
 try simp only [Act.put, j]
 refine rdH 10 rfl fun K hK => ?_
 go_simp
 refine (rF x true m _ H1.out.1 H1.out.2 M3 Z3).mono ?_
 rintro e w4 ⟨rfl, hb4⟩
 have S4 : ZnH B eb (eo + l.length * 10) z.name (.slice (some ⟨eb, eo, none⟩) (l.length + 1) cap) x w4 := wo S3 hb4 L3.1 L3.2
 have B4 : Hid (Below w1.heap.size w1 w4) := B3.out.trans (hb4.mono B3.out.size)
 have L4 : B < w4.heap.size ∧ eb < w4.heap.size := ⟨q4N L3.1 hb4.size, q4N L3.2 hb4.size⟩
 have CN := hid (aC w4 ([Sx.aA (fun e => Sx.dS e false) l, Sx.dS x true].map (Value.int .i64)) 28)
 clear hb4
 refine hK.out _ _ ?_ (fun hHeld => ?_)
 ·exact S4
 clear hK K
 try simp only [Act.put, j]
 refine rdH 11 rfl fun K hK => ?_
 go_simp
 refine hK.out _ _ ?_ (fun hHeld => ?_)
 ·exact wo S4 ((q4B _ _).alloc (Nat.le_refl _) _) L4.1 L4.2
 clear hK K
 try simp only [Act.put, j]
 refine rdH 12 rfl fun K hK => ?_
 go_simp
 refine (jX [Sx.aA (fun e => Sx.dS e false) l, Sx.dS x true] w4.heap.size 2 _ CN.out (by simp)).mono ?_
 rintro e w2 ⟨rfl, rfl⟩
 refine hK.out _ _ ?_ (fun hHeld => ?_)
 ·exact hHeld
 clear hK K
 try simp only [Act.put, j]
 refine tkH 13 ?vz10 rfl ?z10 ?_
 case z10 => (intro w hSw; obtain ⟨s0, s1, s2, s3, s4, s5, s6, s7, s8, s9, s10, s11⟩ := hSw; go_simp; try with_reducible rfl)
 try simp only [Act.put, j]
 refine wpAnyH_done (by kernel_rfl) ?_ _
 have BF : Below w.heap.size w (w4.alloc (.cells ([Sx.aA (fun e => Sx.dS e false) l, Sx.dS x true].map (Value.int .i64)).toArray 28)) := BVV.out.trans ((B4.out.alloc B4.out.size _).mono BVV.out.size)
 go_wp2
 go_ret
 exact ⟨ai (by rw [HE.out]), BF⟩
theorem AL (xs : List Sx.Zn) (rv : Value) (m : Int) (w : World) (h : fU w rv xs) (hs : ∀ x ∈ xs, x.name.length ≤ maxLen ∧ (∀ y ∈ x.eras, y.rules.length ≤ maxLen ∧ y.format.length ≤ maxLen) ∧ x.eras.length ≤ 1000) (hcp : rq w rv xs) (hl : xs.length ≤ 1000) (hm : w.cell? ⟨0, 0, none⟩ = some (.int .i64 m)) (h0 : 0 < w.heap.size) :
  Calls Tryz.prog 92 #[rv, .func (.func 93) #[] #[]] w fun e w' => e = .returned (.int .i64 (Sx.aA Sx.dm xs)) ∧ Below w.heap.size w w' := by
 obtain ⟨R, hR⟩ : ∃ R, Sx.aA Sx.dm xs = R := ⟨_, rfl⟩
 rw [hR]
 have HR : Hid (R = Sx.aA Sx.dm (xs.drop 0)) := hR.symm
 obtain ⟨ra, rcap, rfl⟩ := ja h
 have H := hid h
 have HS := hid hs
 have HCP := hid hcp
 clear hcp
 have HM := hid hm
 have H0 := hid h0
 clear hR h hs hm h0
 have eg : ∀ args w, (callFunc 93 args).run Tryz.prog w = .ok (.enter 93 args) w := enters_of Tryz.func93 (by kernel_rfl) rfl
 go_enter Tryz.func92, Tryz.ntmps92
 go_wp2_with fail
 go_loopw [10] (fun a wr => ∃ k : Nat, k ≤ xs.length ∧ a = .int .i64 k ∧ Hid (Below w.heap.size w wr) ∧ Hid (R = Sx.aA Sx.dm (xs.drop k))) (fun a _ => xs.length - (intOf a).toNat)
 case atStart => exact ⟨0, by omega, rfl, q4B _ _, HR⟩
 case round =>
  clear HR
  obtain ⟨k, hk, rfl, B0, HR⟩ := hrel
  by_cases hlt : k < xs.length
  case neg =>
   have HR2 : Hid (R = 0) := by show _ = _; rw [HR.out]; exact Sx.fH _ hlt
   go_wp2
   go_ret
   exact ⟨ai (by rw [HR2.out]), B0.out⟩
  obtain ⟨x, hx⟩ : ∃ x, xs[k]? = some x := ⟨_, q4G hlt⟩
  obtain ⟨rb, ro, ea, ecap, rfl, hrb, c0, c1, hre⟩ := l5 (eH H.out B0.out) hx
  have hcap : CapE (.slice ea x.eras.length ecap) x.eras.length := pu HCP.out H.out B0.out k x rb ro rcap hx rfl _ c1
  have HX := hid hx
  have SX := hid (HS.out x (List.mem_of_getElem? hx))
  have HM2 : Hid (wr.cell? ⟨0, 0, none⟩ = some (.int .i64 m)) := (B0.out.cell (p := ⟨0, 0, none⟩) H0.out).trans HM.out
  have H02 : Hid (0 < wr.heap.size) := q4N H0.out B0.out.size
  have HRE := hid hre
  have HCAP := hid hcap
  clear hx hre hcap
  have BW := hid ((q4B wr.heap.size wr).alloc (Nat.le_refl _) (.cells #[af x.name, .slice ea x.eras.length ecap] 44))
  have BV := hid (B0.out.alloc B0.out.size (.cells #[af x.name, .slice ea x.eras.length ecap] 44))
  have HM3 : Hid ((wr.alloc (.cells #[af x.name, .slice ea x.eras.length ecap] 44)).cell? ⟨0, 0, none⟩ = some (.int .i64 m)) := (BW.out.cell (p := ⟨0, 0, none⟩) H02.out).trans HM2.out
  have H03 : Hid (0 < (wr.alloc (.cells #[af x.name, .slice ea x.eras.length ecap] 44)).heap.size) := q4N H02.out BW.out.size
  go_wp2_with fail
  refine (zH x _ m _ (au HRE.out BW.out) HCAP.out ⟨SX.out.1, SX.out.2.1⟩ SX.out.2.2 HM3.out H03.out).mono ?_
  rintro e w1 ⟨rfl, hb⟩
  have B1 : Hid (Below w.heap.size w w1) := BV.out.trans (hb.mono BV.out.size)
  clear hb B0 BV BW HM2 HM3 H02 H03 c0 c1 hrb HRE HCAP
  obtain ⟨E, hE⟩ : ∃ E, Sx.dm x = E := ⟨_, rfl⟩
  try simp only [] at hE
  rw [hE]
  by_cases h0 : E = 0
  case neg =>
   have HR2 : Hid (R = E) := by show _ = _; rw [← hE]; exact Sx.jV Sx.dm HX.out HR.out (by rw [hE]; exact h0)
   have h0' : (E != 0) = true := by simp [h0]
   clear hE
   go_wp2
   go_ret
   exact ⟨ai (by rw [HR2.out]), B1.out⟩
  have HR2 : Hid (R = Sx.aA Sx.dm (xs.drop (k + 1))) := Sx.jo Sx.dm HX.out HR.out (by rw [hE]; exact h0)
  clear hE HR
  subst h0
  go_wp2
  go_roundw
  case rel => exact ⟨k + 1, by omega, by go_num, B1, HR2⟩
  case measure => simp [intOf]; omega
theorem zF (x : Sx.Lk) (w : World) (h1 : x.to.length ≤ maxLen) (h2 : x.name.length ≤ maxLen) :
  Calls Tryz.prog 95 #[kS x] w fun e w' => e = .returned (.int .i64 (Sx.eU x)) ∧ Below w.heap.size w w' := by
 have HE : Hid (Sx.eU x = uE (Sx.aW x.to && Sx.aW x.name) 1) := by show _ = _; unfold Sx.eU uE; cases Sx.aW x.to && Sx.aW x.name <;> rfl
 have BV := hid ((q4B w.heap.size w).alloc (Nat.le_refl _) (.cells (aZ x).toArray 35))
 obtain ⟨A, hA⟩ : ∃ A, Sx.aW x.to = A := ⟨_, rfl⟩
 obtain ⟨B, hB⟩ : ∃ B, Sx.aW x.name = B := ⟨_, rfl⟩
 rw [hA, hB] at HE
 have N1 := hid (fun w' => fO x.to w' h1 hA)
 have N2 := hid (fun w' => fO x.name w' h2 hB)
 clear hA hB h1 h2
 cases A
 case false =>
  go_enter Tryz.func95, Tryz.ntmps95
  go_wp2_with (first | (go_at_call 151; refine (N1.out _).mono ?_; rintro e w1 ⟨rfl, rfl⟩) | (go_at_call 150; refine (aD _ _ _).mono ?_; rintro e w1 ⟨rfl, rfl⟩))
  go_ret
  exact ⟨ai (by rw [HE.out]; rfl), BV.out⟩
 case true =>
  go_enter Tryz.func95, Tryz.ntmps95
  go_wp2_with (first | (go_at_call 151; (first | (with_reducible refine (N1.out _).mono ?_) | (with_reducible refine (N2.out _).mono ?_)); rintro e w1 ⟨rfl, rfl⟩) | (go_at_call 150; refine (aD _ _ _).mono ?_; rintro e w1 ⟨rfl, rfl⟩))
  go_ret
  exact ⟨ai (by rw [HE.out]; rfl), BV.out⟩
theorem AC (xs : List Sx.Lk) (rv : Value) (m : Int) (w : World) (h : fJ w rv xs) (hs : ∀ x ∈ xs, x.to.length ≤ maxLen ∧ x.name.length ≤ maxLen) (hl : xs.length ≤ 1000) (hm : w.cell? ⟨0, 0, none⟩ = some (.int .i64 m)) (h0 : 0 < w.heap.size) :
  Calls Tryz.prog 94 #[rv, .func (.func 95) #[] #[]] w fun e w' => e = .returned (.int .i64 (Sx.aA Sx.eU xs)) ∧ Below w.heap.size w w' := by
 obtain ⟨R, hR⟩ : ∃ R, Sx.aA Sx.eU xs = R := ⟨_, rfl⟩
 rw [hR]
 have HR : Hid (R = Sx.aA Sx.eU (xs.drop 0)) := hR.symm
 obtain ⟨ra, rcap, rfl⟩ := bQ h
 have H := hid h
 have HS := hid hs
 have HM := hid hm
 have H0 := hid h0
 clear hR h hs hm h0
 have eg : ∀ args w, (callFunc 95 args).run Tryz.prog w = .ok (.enter 95 args) w := enters_of Tryz.func95 (by kernel_rfl) rfl
 go_enter Tryz.func94, Tryz.ntmps94
 go_wp2_with fail
 go_loopw [10] (fun a wr => ∃ k : Nat, k ≤ xs.length ∧ a = .int .i64 k ∧ Hid (Below w.heap.size w wr) ∧ Hid (R = Sx.aA Sx.eU (xs.drop k))) (fun a _ => xs.length - (intOf a).toNat)
 case atStart => exact ⟨0, by omega, rfl, q4B _ _, HR⟩
 case round =>
  clear HR
  obtain ⟨k, hk, rfl, B0, HR⟩ := hrel
  by_cases hlt : k < xs.length
  case neg =>
   have HR2 : Hid (R = 0) := by show _ = _; rw [HR.out]; exact Sx.fH _ hlt
   go_wp2
   go_ret
   exact ⟨ai (by rw [HR2.out]), B0.out⟩
  obtain ⟨x, hx⟩ : ∃ x, xs[k]? = some x := ⟨_, q4G hlt⟩
  obtain ⟨rb, ro, rfl, hrb, hc⟩ := aN (au H.out B0.out) hx
  obtain ⟨c0, c1⟩ := og hc
  have HX := hid hx
  have SX := hid (HS.out x (List.mem_of_getElem? hx))
  have HM2 : Hid (wr.cell? ⟨0, 0, none⟩ = some (.int .i64 m)) := (B0.out.cell (p := ⟨0, 0, none⟩) H0.out).trans HM.out
  have H02 : Hid (0 < wr.heap.size) := q4N H0.out B0.out.size
  clear hx hc
  have BW := hid ((q4B wr.heap.size wr).alloc (Nat.le_refl _) (.cells #[af x.to, af x.name] 35))
  have BV := hid (B0.out.alloc B0.out.size (.cells #[af x.to, af x.name] 35))
  have HM3 : Hid ((wr.alloc (.cells #[af x.to, af x.name] 35)).cell? ⟨0, 0, none⟩ = some (.int .i64 m)) := (BW.out.cell (p := ⟨0, 0, none⟩) H02.out).trans HM2.out
  have H03 : Hid (0 < (wr.alloc (.cells #[af x.to, af x.name] 35)).heap.size) := q4N H02.out BW.out.size
  go_wp2_with fail
  refine (zF x _ SX.out.1 SX.out.2).mono ?_
  rintro e w1 ⟨rfl, hb⟩
  have B1 : Hid (Below w.heap.size w w1) := BV.out.trans (hb.mono BV.out.size)
  clear hb B0 BV BW HM2 HM3 H02 H03 c0 c1 hrb
  obtain ⟨E, hE⟩ : ∃ E, Sx.eU x = E := ⟨_, rfl⟩
  try simp only [] at hE
  rw [hE]
  by_cases h0 : E = 0
  case neg =>
   have HR2 : Hid (R = E) := by show _ = _; rw [← hE]; exact Sx.jV Sx.eU HX.out HR.out (by rw [hE]; exact h0)
   have h0' : (E != 0) = true := by simp [h0]
   clear hE
   go_wp2
   go_ret
   exact ⟨ai (by rw [HR2.out]), B1.out⟩
  have HR2 : Hid (R = Sx.aA Sx.eU (xs.drop (k + 1))) := Sx.jo Sx.eU HX.out HR.out (by rw [hE]; exact h0)
  clear hE HR
  subst h0
  go_wp2
  go_roundw
  case rel => exact ⟨k + 1, by omega, by go_num, B1, HR2⟩
  case measure => simp [intOf]; omega
end
section
open Go.RowKit
attribute [local go_sem ↓] Go.wp_at_zero Go.wp_at_succ

theorem ND (s : Sx.Sr) (ra la : Option Addr) (rcap lcap : Nat) (zv : Value) (w : World) (h : fU w zv s.zones) :
  Calls Tryz.prog 88 #[.agg #[.slice ra s.rules.length rcap, zv, .slice la s.links.length lcap]] w fun e w' => e = .returned (.bool (!Sx.fw s)) ∧ Below w.heap.size w w' := by
 obtain ⟨za, zcap, rfl⟩ := ja h
 have BV := hid ((q4B w.heap.size w).alloc (Nat.le_refl _) (.cells #[.slice ra s.rules.length rcap, .slice za s.zones.length zcap, .slice la s.links.length lcap] 26))
 have H := hid h
 clear h
 by_cases h1 : 40 < s.rules.length
 ·have HB : Hid (false = !Sx.fw s) := by show _ = _; simp [Sx.fw, h1]
  go_enter Tryz.func88, Tryz.ntmps88
  go_wp2
  go_ret
  exact ⟨az HB.out, BV.out⟩
 by_cases h2 : 20 < s.zones.length
 ·have HB : Hid (false = !Sx.fw s) := by show _ = _; simp [Sx.fw, h2]
  go_enter Tryz.func88, Tryz.ntmps88
  go_wp2
  go_ret
  exact ⟨az HB.out, BV.out⟩
 by_cases h3 : 20 < s.links.length
 ·have HB : Hid (false = !Sx.fw s) := by show _ = _; simp [Sx.fw, h3]
  go_enter Tryz.func88, Tryz.ntmps88
  go_wp2
  go_ret
  exact ⟨az HB.out, BV.out⟩
 have HN := hid (Sx.DT h1 h2 h3)
 have HY := hid (fun (i : Nat) (z : Sx.Zn) => @Sx.Ce s i z)
 have HV := hid (eH H.out BV.out)
 obtain ⟨n, hn⟩ : ∃ n, s.zones.length = n := ⟨_, rfl⟩
 rw [hn] at h2 BV HV ⊢
 have HL := hid hn
 clear hn H
 go_enter Tryz.func88, Tryz.ntmps88
 go_wp2_with fail
 obtain ⟨V, hV⟩ : ∃ V, w.alloc (.cells #[.slice ra s.rules.length rcap, .slice za n zcap, .slice la s.links.length lcap] 26) = V := ⟨_, rfl⟩
 rw [hV] at BV HV ⊢
 clear hV
 go_loopw [24] (fun a wr => ∃ k : Nat, k ≤ n ∧ a = .int .i64 k ∧ Hid (Below V.heap.size V wr) ∧ Hid (∀ (j : Nat) (z : Sx.Zn), j < k → s.zones[j]? = some z → ¬ 8 < z.eras.length)) (fun a _ => n - (intOf a).toNat)
 case atStart => exact ⟨0, by omega, rfl, q4B _ _, fun j z q => absurd q (Nat.not_lt_zero _)⟩
 case round =>
  obtain ⟨k, hk, rfl, B0, HK⟩ := hrel
  by_cases hlt : k < n
  case neg =>
   have HR : Hid (Sx.fw s = false) := HN.out fun j z a b => HK.out j z (by have := HL.out; omega) b
   go_wp2
   go_ret
   exact ⟨az (by rw [HR.out]; rfl), BV.out.trans (B0.out.mono BV.out.size)⟩
  obtain ⟨x, hx⟩ : ∃ x, s.zones[k]? = some x := ⟨_, q4G (by have := HL.out; omega)⟩
  obtain ⟨rb, ro, ea, ecap, rfl, hrb, c0, c1, hre⟩ := l5 (eH HV.out B0.out) hx
  have HX := hid hx
  have B1 := hid (B0.out.alloc B0.out.size (.cells #[af x.name, .slice ea x.eras.length ecap] 44))
  obtain ⟨L, hL⟩ : ∃ L, x.eras.length = L := ⟨_, rfl⟩
  have HLL := hid hL
  rw [hL] at c1 B1
  clear hx hre hL B0
  by_cases h8 : 8 < L
  ·have HR : Hid (Sx.fw s = true) := HY.out k x HX.out (by rw [HLL.out]; exact h8)
   go_wp2
   go_ret
   exact ⟨az (by rw [HR.out]; rfl), BV.out.trans (B1.out.mono BV.out.size)⟩
  ·have HK2 : Hid (∀ (j : Nat) (z : Sx.Zn), j < k + 1 → s.zones[j]? = some z → ¬ 8 < z.eras.length) := by
    intro j z hj hz
    by_cases q : j < k
    ·exact HK.out j z q hz
    ·have : j = k := by omega
     subst this
     rw [HX.out] at hz
     cases hz
     rw [HLL.out]; exact h8
   clear HK
   go_wp2
   go_roundw
   case rel => exact ⟨k + 1, by omega, by go_num, B1, HK2⟩
   case measure => simp [intOf]; omega
theorem Sq (s : Sx.Sr) (h : Sx.fw s = false) : Sx.eB s = Sx.aA id [Sx.aA Sx.dz s.rules, Sx.aA Sx.dm s.zones, Sx.aA Sx.eU s.links] := by
 rw [Sx.xQ h]
 simp only [Sx.orE, Sx.aA, id]
 split
 ·rfl
 ·split
  ·rfl
  ·split <;> simp_all
theorem nk {s : Sx.Sr} (h : Sx.fw s = false) : s.rules.length ≤ 40 ∧ s.zones.length ≤ 20 ∧ s.links.length ≤ 20 ∧ ∀ z ∈ s.zones, z.eras.length ≤ 8 := by
 simp [Sx.fw] at h
 obtain ⟨⟨⟨h1, h2⟩, h3⟩, h4⟩ := h
 exact ⟨by omega, by omega, by omega, fun z hz => by have := h4 z hz; omega⟩
structure SrH (B : Nat) (r z l : Value) (w : World) : Prop where
 c0 : w.cell? ⟨B, 0, none⟩ = some r
 c1 : w.cell? ⟨B, 1, none⟩ = some z
 c2 : w.cell? ⟨B, 2, none⟩ = some l
theorem qN {B : Nat} {r z l : Value} {w w' : World} (h : SrH B r z l w) (hb : Below w.heap.size w w') (hB : B < w.heap.size) : SrH B r z l w' :=
 ⟨(hb.cell (p := ⟨B, 0, none⟩) hB).trans h.c0, (hb.cell (p := ⟨B, 1, none⟩) hB).trans h.c1, (hb.cell (p := ⟨B, 2, none⟩) hB).trans h.c2⟩
structure Ot (r z l : Value) (rs : List Sx.Rl) (zs : List Sx.Zn) (ls : List Sx.Lk) (m : Int) (w : World) : Prop where
 rules : bN w r rs
 zones : fU w z zs
 links : fJ w l ls
 cap : rq w z zs
 max : w.cell? ⟨0, 0, none⟩ = some (.int .i64 m)
 pos : 0 < w.heap.size
theorem QM {r z l : Value} {rs : List Sx.Rl} {zs : List Sx.Zn} {ls : List Sx.Lk} {m : Int} {w w' : World} (hb : Below w.heap.size w w') (h1 : bN w r rs) (h2 : fU w z zs) (h3 : fJ w l ls) (h4 : rq w z zs) (h5 : w.cell? ⟨0, 0, none⟩ = some (.int .i64 m)) (h6 : 0 < w.heap.size) : Ot r z l rs zs ls m w' :=
 ⟨au h1 hb, eH h2 hb, au h3 hb, pu h4 h2 hb, (hb.cell (p := ⟨0, 0, none⟩) h6).trans h5, q4N h6 hb.size⟩
theorem Em {r z l : Value} {rs : List Sx.Rl} {zs : List Sx.Zn} {ls : List Sx.Lk} {m : Int} {w w' : World} (h : Ot r z l rs zs ls m w) (hb : Below w.heap.size w w') : Ot r z l rs zs ls m w' :=
 QM hb h.rules h.zones h.links h.cap h.max h.pos
theorem J7 (s : Sx.Sr) (r z l : Value) (m : Int) (w : World) (h : Oq w r z l s) (hcp : rq w z s.zones) (hs : rT s) (hm : w.cell? ⟨0, 0, none⟩ = some (.int .i64 m)) (h0 : 0 < w.heap.size) :
  Calls Tryz.prog 42 #[.agg #[r, z, l]] w fun e w' => e = .returned (.int .i64 (Sx.eB s)) ∧ Below w.heap.size w w' := by
 obtain ⟨rs, zs, ls⟩ := s
 obtain ⟨h1, h2, h3⟩ := h
 dsimp only at h1 h2 h3 hcp
 obtain ⟨ra, rcap, rfl⟩ := bQ h1
 obtain ⟨za, zcap, rfl⟩ := ja h2
 obtain ⟨la, lcap, rfl⟩ := bQ h3
 have BV := hid ((q4B w.heap.size w).alloc (Nat.le_refl _) (.cells [.slice ra rs.length rcap, .slice za zs.length zcap, .slice la ls.length lcap].toArray 26))
 have XV := hid (aC w [.slice ra rs.length rcap, .slice za zs.length zcap, .slice la ls.length lcap] 26)
 have FT := hid (ND ⟨rs, zs, ls⟩ ra la rcap lcap (.slice za zs.length zcap) _ (eH h2 BV.out))
 obtain ⟨M, hM⟩ : ∃ M, Sx.fw ⟨rs, zs, ls⟩ = M := ⟨_, rfl⟩
 rw [hM] at FT
 have HM := hid hM
 have H1 := hid h1
 have H2 := hid h2
 have H3 := hid h3
 have HS := hid hs
 have HC := hid hcp
 have HMM := hid hm
 have H0 := hid h0
 clear h1 h2 h3 hs hcp hm h0 hM
 cases M
 case true =>
  have HR : Hid (Sx.eB ⟨rs, zs, ls⟩ = 2) := Sx.kM HM.out
  go_enter Tryz.func42, Tryz.ntmps42
  go_wp2_with fail
  refine FT.out.mono ?_
  rintro e w1 ⟨rfl, hb⟩
  have B1 : Hid (Below w.heap.size w w1) := BV.out.trans (hb.mono BV.out.size)
  go_wp2
  go_ret
  exact ⟨ai HR.out.symm, B1.out⟩
 have HR := hid (Sq ⟨rs, zs, ls⟩ HM.out)
 have HF := hid (nk HM.out)
 dsimp only at HF
 obtain ⟨B, hB⟩ : ∃ B, w.heap.size = B := ⟨_, rfl⟩
 have HB := hid hB
 rw [hB] at XV
 clear hB
 go_enter Tryz.func42, Tryz.ntmps42
 go_wp2_with fail
 refine FT.out.mono ?_
 rintro e w1 ⟨rfl, hb⟩
 have B1 : Hid (Below w.heap.size w w1) := BV.out.trans (hb.mono BV.out.size)
 have X1 := hid (ah XV.out hb)
 clear hb XV BV FT
 go_upto_region 3 with fail
 rw [HB.out]
 have sB : B < w1.heap.size := X1.out.1
 have SD : SrH B (.slice ra rs.length rcap) (.slice za zs.length zcap) (.slice la ls.length lcap) w1.drew := ⟨(aa X1.out 0 rfl).1, (aa X1.out 1 rfl).1, (aa X1.out 2 rfl).1⟩
 have BD : Below w.heap.size w w1.drew := ⟨B1.out.os, B1.out.tape, B1.out.output, B1.out.size, B1.out.block⟩
 have P1 := QM BD H1.out H2.out H3.out HC.out HMM.out H0.out
 refine wp_region_held_drew (S := fun w' => SrH B (.slice ra rs.length rcap) (.slice za zs.length zcap) (.slice la ls.length lcap) w') (by kernel_rfl) SD (fun hHeld => ?_)
 refine tkH 0 ?vz1 rfl ?z1 ?_
 case z1 => (intro w hSw; obtain ⟨s0, s1, s2⟩ := hSw; go_simp; try with_reducible rfl)
 try simp only [Act.put, j]
 refine tkH 1 ?vz2 rfl ?z2 ?_
 case z2 => (intro w hSw; obtain ⟨s0, s1, s2⟩ := hSw; go_simp; try with_reducible rfl)
 try simp only [Act.put, j]
 refine tkH 3 ?vz3 rfl ?z3 ?_
 case z3 => (intro w hSw; obtain ⟨s0, s1, s2⟩ := hSw; go_simp; try with_reducible rfl)
 try simp only [Act.put, j]
 refine tkH 4 ?vz4 rfl ?z4 ?_
 case z4 => (intro w hSw; obtain ⟨s0, s1, s2⟩ := hSw; go_simp; try with_reducible rfl)
 try simp only [Act.put, j]
 refine tkH 6 ?vz5 rfl ?z5 ?_
 case z5 => (intro w hSw; obtain ⟨s0, s1, s2⟩ := hSw; go_simp; try with_reducible rfl)
 try simp only [Act.put, j]
 refine tkH 7 ?vz6 rfl ?z6 ?_
 case z6 => (intro w hSw; obtain ⟨s0, s1, s2⟩ := hSw; go_simp; try with_reducible rfl)
 try simp only [Act.put, j]
 refine rdH 2 rfl fun K hK => ?_
 go_simp
 refine (rC rs _ _ P1.rules HS.out.rules HF.out.1).mono ?_
 rintro e v1 ⟨rfl, hb⟩
 have S1 : SrH B (.slice ra rs.length rcap) (.slice za zs.length zcap) (.slice la ls.length lcap) v1 := qN SD hb sB
 have L1 : B < v1.heap.size := q4N sB hb.size
 have BB1 : Hid (Below w.heap.size w v1) := Below.trans BD (hb.mono (Below.size BD))
 have P2 := Em P1 hb
 clear hb
 refine hK.out _ _ ?_ (fun hHeld => ?_)
 ·exact S1
 clear hK K
 try simp only [Act.put, j]
 refine rdH 5 rfl fun K hK => ?_
 go_simp
 refine (AL zs _ m _ P2.zones (fun x hx => ⟨(HS.out.zones x hx).1, (HS.out.zones x hx).2, by have := HF.out.2.2.2 x hx; omega⟩) P2.cap (by have := HF.out.2.1; omega) P2.max P2.pos).mono ?_
 rintro e v2 ⟨rfl, hb⟩
 have S2 : SrH B (.slice ra rs.length rcap) (.slice za zs.length zcap) (.slice la ls.length lcap) v2 := qN S1 hb L1
 have L2 : B < v2.heap.size := q4N L1 hb.size
 have BB2 : Hid (Below w.heap.size w v2) := Below.trans BB1.out (hb.mono (Below.size BB1.out))
 have P3 := Em P2 hb
 clear hb
 refine hK.out _ _ ?_ (fun hHeld => ?_)
 ·exact S2
 clear hK K
 try simp only [Act.put, j]
 refine rdH 8 rfl fun K hK => ?_
 go_simp
 refine (AC ls _ m _ P3.links HS.out.links (by have := HF.out.2.2.1; omega) P3.max P3.pos).mono ?_
 rintro e v3 ⟨rfl, hb⟩
 have S3 : SrH B (.slice ra rs.length rcap) (.slice za zs.length zcap) (.slice la ls.length lcap) v3 := qN S2 hb L2
 have L3 : B < v3.heap.size := q4N L2 hb.size
 have BB3 : Hid (Below w.heap.size w v3) := Below.trans BB2.out (hb.mono (Below.size BB2.out))
 have P4 := Em P3 hb
 clear hb
 have CN := hid (aC v3 ([Sx.aA Sx.dz rs, Sx.aA Sx.dm zs, Sx.aA Sx.eU ls].map (Value.int .i64)) 28)
 refine hK.out _ _ ?_ (fun hHeld => ?_)
 ·exact S3
 clear hK K
 try simp only [Act.put, j]
 refine rdH 9 rfl fun K hK => ?_
 go_simp
 refine hK.out _ _ ?_ (fun hHeld => ?_)
 ·exact qN S3 ((q4B _ _).alloc (Nat.le_refl _) _) L3
 clear hK K
 try simp only [Act.put, j]
 refine rdH 10 rfl fun K hK => ?_
 go_simp
 refine (jX [Sx.aA Sx.dz rs, Sx.aA Sx.dm zs, Sx.aA Sx.eU ls] v3.heap.size 3 _ CN.out (by simp)).mono ?_
 rintro e w2 ⟨rfl, rfl⟩
 refine hK.out _ _ ?_ (fun hHeld => ?_)
 ·exact hHeld
 clear hK K
 try simp only [Act.put, j]
 refine tkH 11 ?vz7 rfl ?z7 ?_
 case z7 => (intro w hSw; obtain ⟨s0, s1, s2⟩ := hSw; go_simp; try with_reducible rfl)
 try simp only [Act.put, j]
 refine wpAnyH_done (by kernel_rfl) ?_ _
 have BF : Below w.heap.size w (v3.alloc (.cells ([Sx.aA Sx.dz rs, Sx.aA Sx.dm zs, Sx.aA Sx.eU ls].map (Value.int .i64)).toArray 28)) := BB3.out.alloc BB3.out.size _
 go_wp2
 go_ret
 exact ⟨ai (by rw [HR.out]), BF⟩
end
section
open Go.RowKit Go.Shelf
attribute [local go_sem] Oper.semAt_some

/- zones with the slices of their eras -/
structure ZV where
 z : Sx.Zn
 a : Option Addr
 c : Nat
abbrev zvS (p : ZV) : Value := .slice p.a p.z.eras.length p.c
def bL (p : ZV) : List Value := [af p.z.name, .slice p.a p.z.eras.length p.c]
abbrev zvV (p : ZV) : Value := .agg #[af p.z.name, .slice p.a p.z.eras.length p.c]
structure kC (w : World) (v : Value) (zs : List Sx.Zn) (ps : List ZV) : Prop where
 fst : ps.map ZV.z = zs
 rd : Rd 2 bL w v ps
 eras : ∀ p ∈ ps, fA w (.slice p.a p.z.eras.length p.c) p.z.eras
 cap : ∀ p ∈ ps, p.z.eras.length ≤ p.c
def Ez (p : Sx.Zn × Value) : ZV := match p.2 with
 | .slice a _ c => ⟨p.1, a, c⟩
 | _ => ⟨p.1, none, 0⟩
theorem Uq (p : Sx.Zn × Value) : (Ez p).z = p.1 := by unfold Ez; split <;> rfl
theorem Sa {w : World} {v : Value} {zs : List Sx.Zn} (h : fU w v zs) (hc : rq w v zs) : ∃ ps, kC w v zs ps := by
 obtain ⟨vs, h1, h2, h3⟩ := h
 obtain ⟨a, cap, e1, e2⟩ := h2
 have hl : ((zs.zip vs).map fun p => (p.1.name, p.2)).length = zs.length := by simp [h1]
 have hpl : ((zs.zip vs).map Ez).length = zs.length := by simp [h1]
 have at_ : ∀ (i : Nat) (p : ZV), ((zs.zip vs).map Ez)[i]? = some p → ∃ ev, vs[i]? = some ev ∧ zs[i]? = some p.z ∧ ev = .slice p.a p.z.eras.length p.c := by
  intro i p hp
  rw [List.getElem?_map] at hp
  cases q : (zs.zip vs)[i]? with
  | none => rw [q] at hp; cases hp
  | some zv =>
    rw [q] at hp
    obtain ⟨z, ev⟩ := zv
    obtain ⟨a1, a2⟩ := List.getElem?_zip_eq_some.1 q
    obtain ⟨ea, ec, rfl⟩ := bQ (h3 i ev z a2 a1)
    simp [Ez] at hp
    subst hp
    exact ⟨_, a2, a1, rfl⟩
 have ne_of : ∀ {i : Nat} {p : ZV}, ((zs.zip vs).map Ez)[i]? = some p → (zs.zip vs).map (fun p => (p.1.name, p.2)) ≠ [] := by
  intro i p hp q
  have h0 := congrArg List.length q
  have h1' := (q4L.1 hp).1
  rw [hl, List.length_nil] at h0
  rw [hpl, h0] at h1'
  exact absurd h1' (Nat.not_lt_zero _)
 have cell : ∀ (i : Nat) (p : ZV), ((zs.zip vs).map Ez)[i]? = some p → ((zs.zip vs).map fun p => (p.1.name, p.2))[i]? = some (p.z.name, .slice p.a p.z.eras.length p.c) := by
  intro i p hp
  obtain ⟨ev, a1, a2, rfl⟩ := at_ i p hp
  rw [List.getElem?_map, (List.getElem?_zip_eq_some (z := (p.z, .slice p.a p.z.eras.length p.c))).2 ⟨a2, a1⟩]; rfl
 refine ⟨(zs.zip vs).map Ez, ?_, ⟨a, cap, by rw [e1, hl, hpl], fun hn => ?_⟩, fun p hp => ?_, fun p hp => ?_⟩
 ·rw [List.map_map]
  have : (ZV.z ∘ Ez) = Prod.fst := by funext p; exact Uq p
  rw [this]
  exact List.map_fst_zip (by omega)
 ·obtain ⟨b, o, q1, q2, q3⟩ := e2 (by intro q; apply hn; have h0 := congrArg List.length q; rw [hl] at h0; exact List.length_eq_zero_iff.1 (by rw [hpl]; simpa using h0))
  exact ⟨b, o, q1, q2, fun i x hx k u hu => q3 i _ (cell i x hx) k u hu⟩
 ·obtain ⟨i, hi⟩ := List.mem_iff_getElem?.1 hp
  obtain ⟨ev, a1, a2, rfl⟩ := at_ i p hi
  exact h3 i _ _ a1 a2
 ·obtain ⟨i, hi⟩ := List.mem_iff_getElem?.1 hp
  obtain ⟨ev, a1, a2, rfl⟩ := at_ i p hi
  obtain ⟨b, o, q1, q2, q3⟩ := e2 (ne_of hi)
  obtain ⟨a', c', q4, q5⟩ := hc i p.z b o cap a2 (by rw [e1, q1, hl]) (.slice p.a p.z.eras.length p.c) (q3 i _ (cell i p hi) 1 _ rfl)
  simp at q4
  omega
theorem dP {w w' : World} {v : Value} {zs : List Sx.Zn} {ps : List ZV} (h : kC w v zs ps) (hb : Below w.heap.size w w') : kC w' v zs ps :=
 ⟨h.fst, au h.rd hb, fun p hp => au (h.eras p hp) hb, h.cap⟩
theorem lY {w : World} {v : Value} {zs : List Sx.Zn} {ps : List ZV} (h : kC w v zs ps) : ps.length = zs.length := by rw [← h.fst]; simp
theorem qA {β : Type} {J : β → World → Prop} (h : o6 J) {s : β} {W : World} (hs : J s W) (o : Obj) : J s (W.alloc o) := h s W o hs
theorem Q8 (Kp : World → World → Prop) (n l Bo : Nat) (hn : 1 ≤ n) (xs : List Sx.Lk) (ra : Option Addr) (rcap : Nat) (W : World) (h : ∀ A, Kp W A → fJ A (.slice ra xs.length rcap) xs) (hxs : xs.length ≤ 10000)
  (cl : W.cell? ⟨Bo, 0, none⟩ = some (.slice ra xs.length rcap)) (hBo : Bo < W.heap.size) (hW : Kp W W) (hKt : ∀ A B C, Kp A B → Kp B C → Kp A C) (hKa : ∀ A o, Kp W A → Kp A (A.alloc o))
  (J Jx : List Sx.Lk → World → Prop) (hJ : o6 J)
  (hY : ∀ pre x W1, J pre W1 → pre ++ [x] <+: xs → YieldAt Fence.wide (n - 1) Tryz.prog l #[kS x] W1 fun e W' => (e = .returned (.bool true) ∧ J (pre ++ [x]) W' ∧ Kp W1 W') ∨ (e = .returned (.bool false) ∧ Jx (pre ++ [x]) W'))
  (h0 : J [] W) :
  CallsIn Fence.wide n Tryz.prog 160 #[.func (.yield l) #[] #[], .pointer (some ⟨Bo, 0, none⟩)] W fun e W' => (∃ v, e = .returned v) ∧ ((∃ ys, ys = xs ∧ J ys W') ∨ (∃ pre, pre <+: xs ∧ Jx pre W')) := by
 have HY := hid hY
 have HJ := hid hJ
 have H := hid h
 have J0 : Hid (J (xs.take 0) W) := h0
 have B0 := hid hW
 have HT := hid hKt
 have HA := hid hKa
 clear hY hJ h h0 hW hKt hKa
 refine callsIn_of_wp Tryz.func160 rfl trivial ?_ rfl
 simp only [Tryz.ntmps160, List.size_toArray, List.length_cons, List.length_nil, Nat.reduceAdd, Nat.reduceSub, Array.replicate_succ, Array.replicate_zero, List.push_toArray, List.append_toArray, List.nil_append, List.cons_append]
 gi_wp2
 clear cl hBo
 gi_loopw [7] (fun a wr => ∃ i : Nat, i ≤ xs.length ∧ a = .int .i64 i ∧ Hid (J (xs.take i) wr) ∧ Hid (Kp W wr)) (fun a _ => xs.length - (intOf a).toNat)
 case atStart => exact ⟨0, Nat.zero_le _, rfl, J0, B0⟩
 case round =>
  clear J0 B0
  obtain ⟨i, hi, rfl, JS, B0⟩ := hrel
  by_cases hlt : i < xs.length
  case neg =>
   have e : xs.take i = xs := List.take_of_length_le (by omega)
   rw [e] at JS
   gi_wp2
   go_end0
   exact ⟨⟨_, rfl⟩, .inl ⟨_, rfl, JS.out⟩⟩
  obtain ⟨x, hx⟩ : ∃ x, xs[i]? = some x := ⟨_, q4G hlt⟩
  obtain ⟨rb, ro, rfl, hrb, hc⟩ := aN (H.out wr B0.out) hx
  obtain ⟨c0, c1⟩ := og hc
  have HL : Hid (xs.take (i + 1) = xs.take i ++ [x]) := Sx.dQ hx
  have PX : Hid (xs.take i ++ [x] <+: xs) := by show _ <+: _; rw [← HL.out]; exact List.take_prefix _ _
  have J2 : Hid (J (xs.take i) (wr.alloc (.cells #[af x.to, af x.name] 35))) := qA HJ.out JS.out _
  have B2 : Hid (Kp W (wr.alloc (.cells #[af x.to, af x.name] 35))) := HT.out _ _ _ B0.out (HA.out _ _ B0.out)
  clear hc hx
  obtain ⟨fn, tmps, assign, body, hy, hR⟩ := HY.out _ x (wr.alloc (.cells #[af x.to, af x.name] 35)) J2.out PX.out
  try dsimp only at hy
  have HR := hid hR
  clear hR
  gi_wp2
  refine HR.out.mono ?_
  clear HR hy JS B0 J2 hrb
  rintro e W3 (⟨rfl, hJ3, hk3⟩ | ⟨rfl, hJx3⟩)
  ·have B3 : Hid (Kp W W3) := HT.out _ _ _ B2.out hk3
   have JN : Hid (J (xs.take (i + 1)) W3) := by show J _ _; rw [HL.out]; exact hJ3
   clear hJ3 hk3 B2
   gi_wp2
   go_roundw
   case rel => exact ⟨i + 1, by omega, by go_num, JN, B3⟩
   case measure => simp [intOf]; omega
  ·gi_wp2
   refine bodyPost_ret (results_none rfl _ _ _) rfl ?_
   exact ⟨⟨_, rfl⟩, .inr ⟨_, PX.out, hJx3⟩⟩
theorem Od (Kp : World → World → Prop) (n Bo : Nat) (hn : 1 ≤ n) (xs : List Sx.Lk) (ra : Option Addr) (rcap : Nat) (w : World) (h : ∀ W A, Below w.heap.size w W → Kp W A → fJ A (.slice ra xs.length rcap) xs) (hxs : xs.length ≤ 10000)
  (cl : w.cell? ⟨Bo, 0, none⟩ = some (.slice ra xs.length rcap)) (hBo : Bo < w.heap.size) (hr : ∀ W, Below w.heap.size w W → Kp W W) (hKt : ∀ A B C, Kp A B → Kp B C → Kp A C) (hKa : ∀ W A o, Below w.heap.size w W → Kp W A → Kp A (A.alloc o)) :
  rR Fence.wide n Tryz.prog 160 #[.pointer (some ⟨Bo, 0, none⟩)] (fun x : Sx.Lk => #[kS x]) Kp (fun ys => ys = xs) (fun pre => pre <+: xs) w :=
 fun l J Jx W hW1 hJ hJx hY h0 => Q8 Kp n l Bo hn xs ra rcap W (fun A => h W A hW1) hxs ((hW1.cell (p := ⟨Bo, 0, none⟩) hBo).trans cl) (q4N hBo hW1.size) (hr W hW1) hKt (fun A o => hKa W A o hW1) J Jx hJ hY h0
theorem De (n Bo : Nat) (hn : 1 ≤ n) (xs : List Sx.Lk) (ra : Option Addr) (rcap : Nat) (W0 w : World) (h : fJ W0 (.slice ra xs.length rcap) xs) (hxs : xs.length ≤ 10000)
  (cl : w.cell? ⟨Bo, 0, none⟩ = some (.slice ra xs.length rcap)) (hBo : Bo < w.heap.size) (hW : Below W0.heap.size W0 w) :
  rR Fence.wide n Tryz.prog 160 #[.pointer (some ⟨Bo, 0, none⟩)] (fun x : Sx.Lk => #[kS x]) (Below W0.heap.size) (fun ys => ys = xs) (fun pre => pre <+: xs) w :=
 Od _ n Bo hn xs ra rcap w (fun W A h1 h2 => au h (hW.trans ((h1.mono hW.size).trans h2))) hxs cl hBo (fun W _ => q4B _ _) (fun _ _ _ a b => a.trans b) (fun W A o h1 h2 => (q4B _ _).alloc (Nat.le_trans hW.size (Nat.le_trans h1.size h2.size)) _)
theorem Dc (ra : Option Addr) (n rcap : Nat) (w : World) :
  Calls Tryz.prog 104 #[.slice ra n rcap] w fun e w' => e = .returned (.func (.func 160) #[] #[.pointer (some ⟨w.heap.size, 0, none⟩)]) ∧ w' = w.alloc (.cells #[.slice ra n rcap] 24) := by
 go_enter Tryz.func104, Tryz.ntmps104
 go_wp2
 go_ret
 exact ⟨rfl, rfl⟩
theorem Q9 (Kp : World → World → Prop) (n l Bo : Nat) (hn : 1 ≤ n) (xs : List ZV) (ra : Option Addr) (rcap : Nat) (W : World) (h : ∀ A, Kp W A → Rd 2 bL A (.slice ra xs.length rcap) xs) (hxs : xs.length ≤ 10000)
  (cl : W.cell? ⟨Bo, 0, none⟩ = some (.slice ra xs.length rcap)) (hBo : Bo < W.heap.size) (hW : Kp W W) (hKt : ∀ A B C, Kp A B → Kp B C → Kp A C) (hKa : ∀ A o, Kp W A → Kp A (A.alloc o))
  (J Jx : List ZV → World → Prop) (hJ : o6 J)
  (hY : ∀ pre x W1, J pre W1 → pre ++ [x] <+: xs → YieldAt Fence.wide (n - 1) Tryz.prog l #[zvV x] W1 fun e W' => (e = .returned (.bool true) ∧ J (pre ++ [x]) W' ∧ Kp W1 W') ∨ (e = .returned (.bool false) ∧ Jx (pre ++ [x]) W'))
  (h0 : J [] W) :
  CallsIn Fence.wide n Tryz.prog 161 #[.func (.yield l) #[] #[], .pointer (some ⟨Bo, 0, none⟩)] W fun e W' => (∃ v, e = .returned v) ∧ ((∃ ys, ys = xs ∧ J ys W') ∨ (∃ pre, pre <+: xs ∧ Jx pre W')) := by
 have HY := hid hY
 have HJ := hid hJ
 have H := hid h
 have J0 : Hid (J (xs.take 0) W) := h0
 have B0 := hid hW
 have HT := hid hKt
 have HA := hid hKa
 clear hY hJ h h0 hW hKt hKa
 refine callsIn_of_wp Tryz.func161 rfl trivial ?_ rfl
 simp only [Tryz.ntmps161, List.size_toArray, List.length_cons, List.length_nil, Nat.reduceAdd, Nat.reduceSub, Array.replicate_succ, Array.replicate_zero, List.push_toArray, List.append_toArray, List.nil_append, List.cons_append]
 gi_wp2
 clear cl hBo
 gi_loopw [7] (fun a wr => ∃ i : Nat, i ≤ xs.length ∧ a = .int .i64 i ∧ Hid (J (xs.take i) wr) ∧ Hid (Kp W wr)) (fun a _ => xs.length - (intOf a).toNat)
 case atStart => exact ⟨0, Nat.zero_le _, rfl, J0, B0⟩
 case round =>
  clear J0 B0
  obtain ⟨i, hi, rfl, JS, B0⟩ := hrel
  by_cases hlt : i < xs.length
  case neg =>
   have e : xs.take i = xs := List.take_of_length_le (by omega)
   rw [e] at JS
   gi_wp2
   go_end0
   exact ⟨⟨_, rfl⟩, .inl ⟨_, rfl, JS.out⟩⟩
  obtain ⟨x, hx⟩ : ∃ x, xs[i]? = some x := ⟨_, q4G hlt⟩
  obtain ⟨rb, ro, rfl, hrb, hc⟩ := aN (H.out wr B0.out) hx
  have c0 : wr.cell? ⟨rb, ro + i * 2, none⟩ = some (af x.z.name) := hc 0 _ rfl
  have c1 : wr.cell? ⟨rb, ro + i * 2 + 1, none⟩ = some (.slice x.a x.z.eras.length x.c) := hc 1 _ rfl
  have HL : Hid (xs.take (i + 1) = xs.take i ++ [x]) := Sx.dQ hx
  have PX : Hid (xs.take i ++ [x] <+: xs) := by show _ <+: _; rw [← HL.out]; exact List.take_prefix _ _
  have J2 : Hid (J (xs.take i) (wr.alloc (.cells #[af x.z.name, .slice x.a x.z.eras.length x.c] 44))) := qA HJ.out JS.out _
  have B2 : Hid (Kp W (wr.alloc (.cells #[af x.z.name, .slice x.a x.z.eras.length x.c] 44))) := HT.out _ _ _ B0.out (HA.out _ _ B0.out)
  clear hc hx
  obtain ⟨fn, tmps, assign, body, hy, hR⟩ := HY.out _ x (wr.alloc (.cells #[af x.z.name, .slice x.a x.z.eras.length x.c] 44)) J2.out PX.out
  try dsimp only at hy
  have HR := hid hR
  clear hR
  gi_wp2
  refine HR.out.mono ?_
  clear HR hy JS B0 J2 hrb
  rintro e W3 (⟨rfl, hJ3, hk3⟩ | ⟨rfl, hJx3⟩)
  ·have B3 : Hid (Kp W W3) := HT.out _ _ _ B2.out hk3
   have JN : Hid (J (xs.take (i + 1)) W3) := by show J _ _; rw [HL.out]; exact hJ3
   clear hJ3 hk3 B2
   gi_wp2
   go_roundw
   case rel => exact ⟨i + 1, by omega, by go_num, JN, B3⟩
   case measure => simp [intOf]; omega
  ·gi_wp2
   refine bodyPost_ret (results_none rfl _ _ _) rfl ?_
   exact ⟨⟨_, rfl⟩, .inr ⟨_, PX.out, hJx3⟩⟩
theorem Oe (Kp : World → World → Prop) (n Bo : Nat) (hn : 1 ≤ n) (xs : List ZV) (ra : Option Addr) (rcap : Nat) (w : World) (h : ∀ W A, Below w.heap.size w W → Kp W A → Rd 2 bL A (.slice ra xs.length rcap) xs) (hxs : xs.length ≤ 10000)
  (cl : w.cell? ⟨Bo, 0, none⟩ = some (.slice ra xs.length rcap)) (hBo : Bo < w.heap.size) (hr : ∀ W, Below w.heap.size w W → Kp W W) (hKt : ∀ A B C, Kp A B → Kp B C → Kp A C) (hKa : ∀ W A o, Below w.heap.size w W → Kp W A → Kp A (A.alloc o)) :
  rR Fence.wide n Tryz.prog 161 #[.pointer (some ⟨Bo, 0, none⟩)] (fun x : ZV => #[zvV x]) Kp (fun ys => ys = xs) (fun pre => pre <+: xs) w :=
 fun l J Jx W hW1 hJ hJx hY h0 => Q9 Kp n l Bo hn xs ra rcap W (fun A => h W A hW1) hxs ((hW1.cell (p := ⟨Bo, 0, none⟩) hBo).trans cl) (q4N hBo hW1.size) (hr W hW1) hKt (fun A o => hKa W A o hW1) J Jx hJ hY h0
theorem Df (n Bo : Nat) (hn : 1 ≤ n) (xs : List ZV) (ra : Option Addr) (rcap : Nat) (W0 w : World) (h : Rd 2 bL W0 (.slice ra xs.length rcap) xs) (hxs : xs.length ≤ 10000)
  (cl : w.cell? ⟨Bo, 0, none⟩ = some (.slice ra xs.length rcap)) (hBo : Bo < w.heap.size) (hW : Below W0.heap.size W0 w) :
  rR Fence.wide n Tryz.prog 161 #[.pointer (some ⟨Bo, 0, none⟩)] (fun x : ZV => #[zvV x]) (Below W0.heap.size) (fun ys => ys = xs) (fun pre => pre <+: xs) w :=
 Oe _ n Bo hn xs ra rcap w (fun W A h1 h2 => au h (hW.trans ((h1.mono hW.size).trans h2))) hxs cl hBo (fun W _ => q4B _ _) (fun _ _ _ a b => a.trans b) (fun W A o h1 h2 => (q4B _ _).alloc (Nat.le_trans hW.size (Nat.le_trans h1.size h2.size)) _)
theorem wm (ra : Option Addr) (n rcap : Nat) (w : World) :
  Calls Tryz.prog 107 #[.slice ra n rcap] w fun e w' => e = .returned (.func (.func 161) #[] #[.pointer (some ⟨w.heap.size, 0, none⟩)]) ∧ w' = w.alloc (.cells #[.slice ra n rcap] 23) := by
 go_enter Tryz.func107, Tryz.ntmps107
 go_wp2
 go_ret
 exact ⟨rfl, rfl⟩
/- eras of zones, zone by zone -/
def aQ (ps : List ZV) : List Sx.Er := ps.flatMap fun p => p.z.eras
theorem Fu {ps : List ZV} {i : Nat} {p : ZV} (h : ps[i]? = some p) : aQ (ps.take (i + 1)) = aQ (ps.take i) ++ p.z.eras := by
 rw [Sx.dQ h]; simp [aQ]
theorem Fs {ps : List ZV} {i k : Nat} {p : ZV} (h : ps[i]? = some p) (hk : k ≤ p.z.eras.length) : aQ (ps.take i) ++ p.z.eras.take k <+: aQ ps := by
 have e : ps = ps.take i ++ p :: ps.drop (i + 1) := by
  have := List.take_append_drop (i + 1) ps
  rw [Sx.dQ h] at this
  simpa using this.symm
 have e2 : aQ ps = aQ (ps.take i) ++ (p.z.eras ++ aQ (ps.drop (i + 1))) := by
  conv => lhs; rw [e]
  simp [aQ]
 rw [e2]
 refine (List.prefix_append_right_inj _).2 ?_
 exact (List.take_prefix _ _).trans (List.prefix_append _ _)
theorem O8 (Kp : World → World → Prop) (n l Bo : Nat) (hn : 1 ≤ n) (xs : List ZV) (zs : List Sx.Zn) (ra : Option Addr) (rcap : Nat) (W : World) (h : ∀ A, Kp W A → kC A (.slice ra xs.length rcap) zs xs) (hxs : xs.length ≤ 10000) (hes : ∀ p ∈ xs, p.z.eras.length ≤ 10000)
  (cl : W.cell? ⟨Bo, 0, none⟩ = some (.slice ra xs.length rcap)) (hBo : Bo < W.heap.size) (hW : Kp W W) (hKt : ∀ A B C, Kp A B → Kp B C → Kp A C) (hKa : ∀ A o, Kp W A → Kp A (A.alloc o))
  (J Jx : List Sx.Er → World → Prop) (hJ : o6 J)
  (hY : ∀ pre x W1, J pre W1 → pre ++ [x] <+: aQ xs → YieldAt Fence.wide (n - 1) Tryz.prog l #[iF x] W1 fun e W' => (e = .returned (.bool true) ∧ J (pre ++ [x]) W' ∧ Kp W1 W') ∨ (e = .returned (.bool false) ∧ Jx (pre ++ [x]) W'))
  (h0 : J [] W) :
  CallsIn Fence.wide n Tryz.prog 110 #[.func (.yield l) #[] #[], .pointer (some ⟨Bo, 0, none⟩)] W fun e W' => (∃ v, e = .returned v) ∧ ((∃ ys, ys = aQ xs ∧ J ys W') ∨ (∃ pre, pre <+: aQ xs ∧ Jx pre W')) := by
 have HY := hid hY
 have HJ := hid hJ
 have H := hid h
 have HES := hid hes
 have J0 : Hid (J (aQ (xs.take 0)) W) := h0
 have B0 := hid hW
 have HTT := hid hKt
 have HAA := hid hKa
 clear hY hJ h h0 hW hes hKt hKa
 refine callsIn_of_wp Tryz.func110 rfl trivial ?_ rfl
 simp only [Tryz.ntmps110, List.size_toArray, List.length_cons, List.length_nil, Nat.reduceAdd, Nat.reduceSub, Array.replicate_succ, Array.replicate_zero, List.push_toArray, List.append_toArray, List.nil_append, List.cons_append]
 gi_wp2
 clear cl hBo
 gi_loopw [9] (fun a wr => ∃ i : Nat, i ≤ xs.length ∧ a = .int .i64 i ∧ Hid (J (aQ (xs.take i)) wr) ∧ Hid (Kp W wr)) (fun a _ => xs.length - (intOf a).toNat)
 case atStart => exact ⟨0, Nat.zero_le _, rfl, J0, B0⟩
 case round =>
  clear J0 B0
  obtain ⟨i, hi, rfl, JS, B0⟩ := hrel
  by_cases hlt : i < xs.length
  case neg =>
   have e : xs.take i = xs := List.take_of_length_le (by omega)
   rw [e] at JS
   gi_wp2
   go_end0
   exact ⟨⟨_, rfl⟩, .inl ⟨_, rfl, JS.out⟩⟩
  obtain ⟨x, hx⟩ : ∃ x, xs[i]? = some x := ⟨_, q4G hlt⟩
  obtain ⟨rb, ro, rfl, hrb, hc⟩ := aN (H.out wr B0.out).rd hx
  have c0 : wr.cell? ⟨rb, ro + i * 2, none⟩ = some (af x.z.name) := hc 0 _ rfl
  have c1 : wr.cell? ⟨rb, ro + i * 2 + 1, none⟩ = some (.slice x.a x.z.eras.length x.c) := hc 1 _ rfl
  have HR0 : Hid (∀ A, Kp W A → fA A (.slice x.a x.z.eras.length x.c) x.z.eras) := fun A hA => (H.out A hA).eras x (List.mem_of_getElem? hx)
  have HX := hid hx
  have hel := HES.out x (List.mem_of_getElem? hx)
  have J2 : Hid (J (aQ (xs.take i) ++ x.z.eras.take 0) (wr.alloc (.cells #[af x.z.name, .slice x.a x.z.eras.length x.c] 44))) := by
   show J _ _; rw [List.take_zero, List.append_nil]; exact qA HJ.out JS.out _
  have B2 : Hid (Kp W (wr.alloc (.cells #[af x.z.name, .slice x.a x.z.eras.length x.c] 44))) := HTT.out _ _ _ B0.out (HAA.out _ _ B0.out)
  have Z0 := aC wr [af x.z.name, .slice x.a x.z.eras.length x.c] 44
  obtain ⟨z1, _⟩ := aa Z0 1 rfl
  have zs0 := Z0.1
  clear hc hx JS B0 Z0
  obtain ⟨L, hL⟩ : ∃ L, x.z.eras.length = L := ⟨_, rfl⟩
  obtain ⟨ea, hEA⟩ : ∃ ea, x.a = ea := ⟨_, rfl⟩
  have HL := hid hL
  rw [hL, hEA] at c1 HR0 J2 B2 z1 zs0
  rw [hL] at hel
  clear hL hEA
  gi_wp2
  obtain ⟨V, hV⟩ : ∃ V, wr.alloc (.cells #[af x.z.name, .slice ea L x.c] 44) = V := ⟨_, rfl⟩
  rw [hV] at J2 B2 ⊢
  clear hV c0 c1 z1 zs0 hrb
  gi_loopw [16] (fun a wr => ∃ k : Nat, k ≤ L ∧ a = .int .i64 k ∧ Hid (J (aQ (xs.take i) ++ x.z.eras.take k) wr) ∧ Hid (Kp W wr)) (fun a _ => L - (intOf a).toNat)
  case atStart => exact ⟨0, Nat.zero_le _, rfl, J2, B2⟩
  case round =>
   clear J2 B2
   obtain ⟨k, hk, rfl, JS, B0⟩ := hrel
   by_cases hlk : k < L
   case neg =>
    have JN : Hid (J (aQ (xs.take (i + 1))) wr) := by
     show J _ _
     rw [Fu HX.out]
     have e : x.z.eras.take k = x.z.eras := List.take_of_length_le (by have := HL.out; omega)
     have := JS.out
     rwa [e] at this
    clear JS
    gi_wp2
    go_roundw
    case rel => exact ⟨i + 1, by omega, by go_num, JN, B0⟩
    case measure => simp [intOf]; omega
   obtain ⟨y, hy⟩ : ∃ y, x.z.eras[k]? = some y := ⟨_, q4G (by have := HL.out; omega)⟩
   obtain ⟨eb, eo, rfl, heb, hc⟩ := aN (HR0.out wr B0.out) hy
   obtain ⟨c0, c1, c2, c3, c4, c5, c6, c7, c8, c9⟩ := sI hc
   have HT : Hid (x.z.eras.take (k + 1) = x.z.eras.take k ++ [y]) := Sx.dQ hy
   have PX : Hid ((aQ (xs.take i) ++ x.z.eras.take k) ++ [y] <+: aQ xs) := by
    show _ <+: _
    rw [List.append_assoc, ← HT.out]
    exact Fs HX.out (by have := HL.out; omega)
   have J3 : Hid (J (aQ (xs.take i) ++ x.z.eras.take k) (wr.alloc (.cells #[.int .i64 y.shift, af y.rules, .int .i64 y.save, af y.format, .bool y.opn, .int .i64 y.uy, .int .i64 y.um, .int .i64 y.ud, .int .i64 y.uat, .int .i64 y.uclock] 67))) := qA HJ.out JS.out _
   have B3 : Hid (Kp W (wr.alloc (.cells #[.int .i64 y.shift, af y.rules, .int .i64 y.save, af y.format, .bool y.opn, .int .i64 y.uy, .int .i64 y.um, .int .i64 y.ud, .int .i64 y.uat, .int .i64 y.uclock] 67))) := HTT.out _ _ _ B0.out (HAA.out _ _ B0.out)
   clear hc hy
   obtain ⟨fn, tmps, assign, body, hy, hR⟩ := HY.out _ y (wr.alloc (.cells #[.int .i64 y.shift, af y.rules, .int .i64 y.save, af y.format, .bool y.opn, .int .i64 y.uy, .int .i64 y.um, .int .i64 y.ud, .int .i64 y.uat, .int .i64 y.uclock] 67)) J3.out PX.out
   try dsimp only at hy
   have HR := hid hR
   clear hR
   gi_wp2
   refine HR.out.mono ?_
   clear HR hy JS B0 J3 heb c0 c1 c2 c3 c4 c5 c6 c7 c8 c9
   rintro e W3 (⟨rfl, hJ3, hk3⟩ | ⟨rfl, hJx3⟩)
   ·have B4 : Hid (Kp W W3) := HTT.out _ _ _ B3.out hk3
    have JN : Hid (J (aQ (xs.take i) ++ x.z.eras.take (k + 1)) W3) := by show J _ _; rw [HT.out, ← List.append_assoc]; exact hJ3
    clear hJ3 hk3 B3
    gi_wp2
    go_roundw
    case rel => exact ⟨k + 1, by omega, by go_num, JN, B4⟩
    case measure => simp [intOf]; omega
   ·gi_wp2
    refine bodyPost_ret (results_none rfl _ _ _) rfl ?_
    exact ⟨⟨_, rfl⟩, .inr ⟨_, PX.out, hJx3⟩⟩
theorem yJ (Kp : World → World → Prop) (n Bo : Nat) (hn : 1 ≤ n) (xs : List ZV) (zs : List Sx.Zn) (ra : Option Addr) (rcap : Nat) (w : World) (h : ∀ W A, Below w.heap.size w W → Kp W A → kC A (.slice ra xs.length rcap) zs xs) (hxs : xs.length ≤ 10000) (hes : ∀ p ∈ xs, p.z.eras.length ≤ 10000)
  (cl : w.cell? ⟨Bo, 0, none⟩ = some (.slice ra xs.length rcap)) (hBo : Bo < w.heap.size) (hr : ∀ W, Below w.heap.size w W → Kp W W) (hKt : ∀ A B C, Kp A B → Kp B C → Kp A C) (hKa : ∀ W A o, Below w.heap.size w W → Kp W A → Kp A (A.alloc o)) :
  rR Fence.wide n Tryz.prog 110 #[.pointer (some ⟨Bo, 0, none⟩)] (fun x : Sx.Er => #[iF x]) Kp (fun ys => ys = aQ xs) (fun pre => pre <+: aQ xs) w :=
 fun l J Jx W hW1 hJ hJx hY h0 => O8 Kp n l Bo hn xs zs ra rcap W (fun A => h W A hW1) hxs hes ((hW1.cell (p := ⟨Bo, 0, none⟩) hBo).trans cl) (q4N hBo hW1.size) (hr W hW1) hKt (fun A o => hKa W A o hW1) J Jx hJ hY h0
theorem Pd (n Bo : Nat) (hn : 1 ≤ n) (xs : List ZV) (zs : List Sx.Zn) (ra : Option Addr) (rcap : Nat) (W0 w : World) (h : kC W0 (.slice ra xs.length rcap) zs xs) (hxs : xs.length ≤ 10000) (hes : ∀ p ∈ xs, p.z.eras.length ≤ 10000)
  (cl : w.cell? ⟨Bo, 0, none⟩ = some (.slice ra xs.length rcap)) (hBo : Bo < w.heap.size) (hW : Below W0.heap.size W0 w) :
  rR Fence.wide n Tryz.prog 110 #[.pointer (some ⟨Bo, 0, none⟩)] (fun x : Sx.Er => #[iF x]) (Below W0.heap.size) (fun ys => ys = aQ xs) (fun pre => pre <+: aQ xs) w :=
 yJ _ n Bo hn xs zs ra rcap w (fun W A h1 h2 => dP h (hW.trans ((h1.mono hW.size).trans h2))) hxs hes cl hBo (fun W _ => q4B _ _) (fun _ _ _ a b => a.trans b) (fun W A o h1 h2 => (q4B _ _).alloc (Nat.le_trans hW.size (Nat.le_trans h1.size h2.size)) _)
theorem yH (ra : Option Addr) (n rcap : Nat) (w : World) :
  Calls Tryz.prog 49 #[.slice ra n rcap] w fun e w' => e = .returned (.func (.func 110) #[] #[.pointer (some ⟨w.heap.size, 0, none⟩)]) ∧ w' = w.alloc (.cells #[.slice ra n rcap] 23) := by
 go_enter Tryz.func49, Tryz.ntmps49
 go_wp2
 go_ret
 exact ⟨rfl, rfl⟩

/- names by which zones are found -/
def dL (zs : List Sx.Zn) (ls : List Sx.Lk) : List Tx.Bs := zs.map Sx.Zn.name ++ ls.map Sx.Lk.name
theorem RU {zs : List Sx.Zn} {ls : List Sx.Lk} {i : Nat} : (zs.take i).map Sx.Zn.name <+: dL zs ls := by
 unfold dL
 rw [List.map_take]
 exact (List.take_prefix _ _).trans (List.prefix_append _ _)
theorem RQ {zs : List Sx.Zn} {ls : List Sx.Lk} {i : Nat} : zs.map Sx.Zn.name ++ (ls.take i).map Sx.Lk.name <+: dL zs ls := by
 unfold dL
 rw [List.map_take]
 exact (List.prefix_append_right_inj _).2 (List.take_prefix _ _)
def KpB (n₀ Bo : Nat) (A B : World) : Prop := Below n₀ A B ∧ (Bo < A.heap.size → B.heap[Bo]? = A.heap[Bo]?)
theorem kpb_t {n₀ Bo : Nat} {A B C : World} (h : KpB n₀ Bo A B) (k : KpB n₀ Bo B C) : KpB n₀ Bo A C :=
 ⟨h.1.trans k.1, fun q => (k.2 (q4N q h.1.size)).trans (h.2 q)⟩
theorem PV {n₀ Bo : Nat} {w : World} (hn : n₀ ≤ w.heap.size) (hB : Bo < w.heap.size) (W : World) (l : Nat) (o o' : Obj) (a : w.heap.size ≤ l) (b : W.heap[l]? = some o) (c : o.isCells = false) (d : o.isWalk = false) : KpB n₀ Bo W (W.putObj l o') :=
 ⟨belowK_b hn W l o o' a b c d, fun _ => World.putObj_heap_other (by omega)⟩
theorem Cb {n₀ Bo : Nat} {W wr W3 : World} {o : Obj} (h : KpB n₀ Bo (wr.alloc o) W3) (hB : Bo < W.heap.size) (k : wr.heap[Bo]? = W.heap[Bo]? ∧ W.heap.size ≤ wr.heap.size) : W3.heap[Bo]? = W.heap[Bo]? ∧ W.heap.size ≤ W3.heap.size := by
 have l : Bo < wr.heap.size := q4N hB k.2
 have s := h.1.size
 simp at s
 exact ⟨(h.2 (by simp; omega)).trans ((Below.heap_alloc _ _ _ l).trans k.1), by omega⟩
theorem MX (n l Bo : Nat) (hn : 1 ≤ n) (xs : List ZV) (zs : List Sx.Zn) (ls : List Sx.Lk) (za la : Option Addr) (zcap lcap : Nat) (W0 W : World) (h : kC W0 (.slice za xs.length zcap) zs xs) (hl : fJ W0 (.slice la ls.length lcap) ls) (hxs : xs.length ≤ 10000) (hls : ls.length ≤ 10000)
  (c1 : W.cell? ⟨Bo, 1, none⟩ = some (.slice za xs.length zcap)) (c2 : W.cell? ⟨Bo, 2, none⟩ = some (.slice la ls.length lcap)) (hBo : Bo < W.heap.size) (hW : Below W0.heap.size W0 W)
  (J Jx : List Tx.Bs → World → Prop) (hJ : o6 J)
  (hY : ∀ pre x W1, J pre W1 → pre ++ [x] <+: dL zs ls → YieldAt Fence.wide (n - 1) Tryz.prog l #[af x] W1 fun e W' => (e = .returned (.bool true) ∧ J (pre ++ [x]) W' ∧ KpB W0.heap.size Bo W1 W') ∨ (e = .returned (.bool false) ∧ Jx (pre ++ [x]) W'))
  (h0 : J [] W) :
  CallsIn Fence.wide n Tryz.prog 157 #[.func (.yield l) #[] #[], .pointer (some ⟨Bo, 0, none⟩)] W fun e W' => (∃ v, e = .returned v) ∧ ((∃ ys, ys = dL zs ls ∧ J ys W') ∨ (∃ pre, pre <+: dL zs ls ∧ Jx pre W')) := by
 have HY := hid hY
 have HJ := hid hJ
 have H := hid h
 have HLK := hid hl
 have C2 := hid c2
 have HB := hid hBo
 have HZL := hid (lY h)
 have HF := hid h.fst
 have J0 : Hid (J ((zs.take 0).map Sx.Zn.name) W) := h0
 have B0 := hid hW
 have hBW : Bo < W.heap.size := hBo
 clear hY hJ h h0 hW hl c2 hBo
 refine callsIn_of_wp Tryz.func157 rfl trivial ?_ rfl
 simp only [Tryz.ntmps157, List.size_toArray, List.length_cons, List.length_nil, Nat.reduceAdd, Nat.reduceSub, Array.replicate_succ, Array.replicate_zero, List.push_toArray, List.append_toArray, List.nil_append, List.cons_append]
 gi_wp2
 clear c1 hBW
 gi_loopw [10] (fun a wr => ∃ i : Nat, i ≤ xs.length ∧ a = .int .i64 i ∧ Hid (J ((zs.take i).map Sx.Zn.name) wr) ∧ Hid (Below W0.heap.size W0 wr) ∧ Hid (wr.heap[Bo]? = W.heap[Bo]? ∧ W.heap.size ≤ wr.heap.size)) (fun a _ => xs.length - (intOf a).toNat)
 case atStart => exact ⟨0, Nat.zero_le _, rfl, J0, B0, ⟨rfl, Nat.le_refl _⟩⟩
 case round =>
  clear J0 B0
  obtain ⟨i, hi, rfl, JS, B0, K0⟩ := hrel
  by_cases hlt : i < xs.length
  case pos =>
   obtain ⟨x, hx⟩ : ∃ x, xs[i]? = some x := ⟨_, q4G hlt⟩
   have hzx : zs[i]? = some x.z := by rw [← HF.out, List.getElem?_map, hx]; rfl
   obtain ⟨rb, ro, rfl, hrb, hc⟩ := aN (au H.out.rd B0.out) hx
   obtain ⟨zn, ea, ec⟩ := x
   dsimp only at hzx
   have c0 : wr.cell? ⟨rb, ro + i * 2, none⟩ = some (af zn.name) := hc 0 _ rfl
   have c1 : wr.cell? ⟨rb, ro + i * 2 + 1, none⟩ = some (.slice ea zn.eras.length ec) := hc 1 _ rfl
   have HT : Hid ((zs.take (i + 1)).map Sx.Zn.name = (zs.take i).map Sx.Zn.name ++ [zn.name]) := by show _ = _; rw [Sx.dQ hzx]; simp
   have PX : Hid ((zs.take i).map Sx.Zn.name ++ [zn.name] <+: dL zs ls) := by show _ <+: _; rw [← HT.out]; exact RU
   have J2 : Hid (J ((zs.take i).map Sx.Zn.name) (wr.alloc (.cells #[af zn.name, .slice ea zn.eras.length ec] 44))) := qA HJ.out JS.out _
   have B2 := hid (B0.out.alloc B0.out.size (.cells #[af zn.name, .slice ea zn.eras.length ec] 44))
   clear hc hx hzx
   obtain ⟨fn, tmps, assign, body, hy, hR⟩ := HY.out _ zn.name (wr.alloc (.cells #[af zn.name, .slice ea zn.eras.length ec] 44)) J2.out PX.out
   try dsimp only at hy
   have HR := hid hR
   clear hR
   gi_wp2
   refine HR.out.mono ?_
   clear HR hy JS B0 J2 hrb
   rintro e W3 (⟨rfl, hJ3, hk3⟩ | ⟨rfl, hJx3⟩)
   ·have B3 := hid (B2.out.trans hk3.1)
    have K3 : Hid (W3.heap[Bo]? = W.heap[Bo]? ∧ W.heap.size ≤ W3.heap.size) := Cb hk3 HB.out K0.out
    have JN : Hid (J ((zs.take (i + 1)).map Sx.Zn.name) W3) := by show J _ _; rw [HT.out]; exact hJ3
    clear hJ3 hk3 B2
    gi_wp2
    go_roundw
    case rel => exact ⟨i + 1, by omega, by go_num, JN, B3, K3⟩
    case measure => simp [intOf]; omega
   ·gi_wp2
    refine bodyPost_ret (results_none rfl _ _ _) rfl ?_
    exact ⟨⟨_, rfl⟩, .inr ⟨_, PX.out, hJx3⟩⟩
  case neg =>
   have e : zs.take i = zs := List.take_of_length_le (by have := HZL.out; omega)
   rw [e] at JS
   have J5 : Hid (J (zs.map Sx.Zn.name ++ (ls.take 0).map Sx.Lk.name) wr) := by show J _ _; rw [List.take_zero, List.map_nil, List.append_nil]; exact JS.out
   have c2 := (World.cell?_of_block (w := W) (a := ⟨Bo, 2, none⟩) K0.out.1).trans C2.out
   have hBr : Bo < wr.heap.size := q4N HB.out K0.out.2
   clear JS e
   gi_wp2
   clear c2 hBr
   gi_loopw [23] (fun a wr => ∃ i : Nat, i ≤ ls.length ∧ a = .int .i64 i ∧ Hid (J (zs.map Sx.Zn.name ++ (ls.take i).map Sx.Lk.name) wr) ∧ Hid (Below W0.heap.size W0 wr) ∧ Hid (wr.heap[Bo]? = W.heap[Bo]? ∧ W.heap.size ≤ wr.heap.size)) (fun a _ => ls.length - (intOf a).toNat)
   case atStart => exact ⟨0, Nat.zero_le _, rfl, J5, B0, K0⟩
   case round =>
    clear J5 B0 K0
    obtain ⟨j, hj, rfl, JS, B0, K0⟩ := hrel
    by_cases hlj : j < ls.length
    case neg =>
     have e : ls.take j = ls := List.take_of_length_le (by omega)
     rw [e] at JS
     gi_wp2
     go_end0
     exact ⟨⟨_, rfl⟩, .inl ⟨_, rfl, JS.out⟩⟩
    obtain ⟨x, hx⟩ : ∃ x, ls[j]? = some x := ⟨_, q4G hlj⟩
    obtain ⟨rb, ro, rfl, hrb, hc⟩ := aN (au HLK.out B0.out) hx
    obtain ⟨c0, c1⟩ := og hc
    have HT : Hid ((ls.take (j + 1)).map Sx.Lk.name = (ls.take j).map Sx.Lk.name ++ [x.name]) := by show _ = _; rw [Sx.dQ hx]; simp
    have PX : Hid ((zs.map Sx.Zn.name ++ (ls.take j).map Sx.Lk.name) ++ [x.name] <+: dL zs ls) := by show _ <+: _; rw [List.append_assoc, ← HT.out]; exact RQ
    have J2 : Hid (J (zs.map Sx.Zn.name ++ (ls.take j).map Sx.Lk.name) (wr.alloc (.cells #[af x.to, af x.name] 35))) := qA HJ.out JS.out _
    have B2 := hid (B0.out.alloc B0.out.size (.cells #[af x.to, af x.name] 35))
    clear hc hx
    obtain ⟨fn, tmps, assign, body, hy, hR⟩ := HY.out _ x.name (wr.alloc (.cells #[af x.to, af x.name] 35)) J2.out PX.out
    try dsimp only at hy
    have HR := hid hR
    clear hR
    gi_wp2
    refine HR.out.mono ?_
    clear HR hy JS B0 J2 hrb
    rintro e W3 (⟨rfl, hJ3, hk3⟩ | ⟨rfl, hJx3⟩)
    ·have B3 := hid (B2.out.trans hk3.1)
     have K3 : Hid (W3.heap[Bo]? = W.heap[Bo]? ∧ W.heap.size ≤ W3.heap.size) := Cb hk3 HB.out K0.out
     have JN : Hid (J (zs.map Sx.Zn.name ++ (ls.take (j + 1)).map Sx.Lk.name) W3) := by show J _ _; rw [HT.out, ← List.append_assoc]; exact hJ3
     clear hJ3 hk3 B2
     gi_wp2
     go_roundw
     case rel => exact ⟨j + 1, by omega, by go_num, JN, B3, K3⟩
     case measure => simp [intOf]; omega
    ·gi_wp2
     refine bodyPost_ret (results_none rfl _ _ _) rfl ?_
     exact ⟨⟨_, rfl⟩, .inr ⟨_, PX.out, hJx3⟩⟩
theorem M4 (n Bo : Nat) (hn : 1 ≤ n) (xs : List ZV) (zs : List Sx.Zn) (ls : List Sx.Lk) (za la : Option Addr) (zcap lcap : Nat) (W0 w : World) (h : kC W0 (.slice za xs.length zcap) zs xs) (hl : fJ W0 (.slice la ls.length lcap) ls) (hxs : xs.length ≤ 10000) (hls : ls.length ≤ 10000)
  (c1 : w.cell? ⟨Bo, 1, none⟩ = some (.slice za xs.length zcap)) (c2 : w.cell? ⟨Bo, 2, none⟩ = some (.slice la ls.length lcap)) (hBo : Bo < w.heap.size) (hW : Below W0.heap.size W0 w) :
  rR Fence.wide n Tryz.prog 157 #[.pointer (some ⟨Bo, 0, none⟩)] (fun x : Tx.Bs => #[af x]) (KpB W0.heap.size Bo) (fun ys => ys = dL zs ls) (fun pre => pre <+: dL zs ls) w :=
 fun l J Jx W hW1 hJ hJx hY h0 => MX n l Bo hn xs zs ls za la zcap lcap W0 W h hl hxs hls ((hW1.cell (p := ⟨Bo, 1, none⟩) hBo).trans c1) ((hW1.cell (p := ⟨Bo, 2, none⟩) hBo).trans c2) (q4N hBo hW1.size) (hW.trans (hW1.mono hW.size)) J Jx hJ hY h0
theorem MZ (ra za la : Option Addr) (n1 n2 n3 c1 c2 c3 : Nat) (w : World) :
  Calls Tryz.prog 96 #[.agg #[.slice ra n1 c1, .slice za n2 c2, .slice la n3 c3]] w fun e w' => e = .returned (.func (.func 157) #[] #[.pointer (some ⟨w.heap.size, 0, none⟩)]) ∧ w' = w.alloc (.cells #[.slice ra n1 c1, .slice za n2 c2, .slice la n3 c3] 26) := by
 go_enter Tryz.func96, Tryz.ntmps96
 go_wp2
 go_ret
 exact ⟨rfl, rfl⟩
end
section
open Go.RowKit Go.Shelf
attribute [local go_sem] Oper.semAt_some

def zeroE : Sx.Er := ⟨0, [], 0, [], false, 0, 0, 0, 0, 0⟩
theorem putE {W : World} {b : Nat} {t : TypeId} {c0 c1 c2 c3 c4 c5 c6 c7 c8 c9 : Value} (v0 v1 v2 v3 v4 v5 v6 v7 v8 v9 : Value) (h : W.heap[b]? = some (.cells #[c0, c1, c2, c3, c4, c5, c6, c7, c8, c9] t)) :
  (((((((((((W.setCell ⟨b, 0, none⟩ (v0)).setCell ⟨b, 1, none⟩ (v1)).setCell ⟨b, 2, none⟩ (v2)).setCell ⟨b, 3, none⟩ (v3)).setCell ⟨b, 4, none⟩ (v4)).setCell ⟨b, 5, none⟩ (v5)).setCell ⟨b, 6, none⟩ (v6)).setCell ⟨b, 7, none⟩ (v7)).setCell ⟨b, 8, none⟩ (v8)).setCell ⟨b, 9, none⟩ (v9))).heap[b]? = some (.cells #[v0, v1, v2, v3, v4, v5, v6, v7, v8, v9] t) := by
 have e := eG (eG (eG (eG (eG (eG (eG (eG (eG (eG h 0 v0) 1 v1) 2 v2) 3 v3) 4 v4) 5 v5) 6 v6) 7 v7) 8 v8) 9 v9
 simp only [List.setIfInBounds_toArray, List.set_cons_zero, List.set_cons_succ] at e
 exact e
theorem Pq (W : World) (b : Nat) (v0 v1 v2 v3 v4 v5 v6 v7 v8 v9 : Value) : W.grownBy ((((((((((W.setCell ⟨b, 0, none⟩ (v0)).setCell ⟨b, 1, none⟩ (v1)).setCell ⟨b, 2, none⟩ (v2)).setCell ⟨b, 3, none⟩ (v3)).setCell ⟨b, 4, none⟩ (v4)).setCell ⟨b, 5, none⟩ (v5)).setCell ⟨b, 6, none⟩ (v6)).setCell ⟨b, 7, none⟩ (v7)).setCell ⟨b, 8, none⟩ (v8)).setCell ⟨b, 9, none⟩ (v9)) (some b) := (grown_put (grown_put (grown_put (grown_put (grown_put (grown_put (grown_put (grown_put (grown_put (grown_put (nR W b) 0 v0) 1 v1) 2 v2) 3 v3) 4 v4) 5 v5) 6 v6) 7 v7) 8 v8) 9 v9)
theorem fH {w W : World} {N D : Nat} {a : Act} {x : Sx.Er} {b : Bool} {R : Ending → World → Prop} (hN : w.heap.size = N) (h4 : a.tmps.getD 4 undef = .pointer (some ⟨N + 1, 0, none⟩)) (h5 : a.tmps.getD 5 undef = .pointer (some ⟨N + 1 + 1, 0, none⟩)) (hd : a.defers = [{ target := .collected D, args := #[] }])
  (i1 : W.heap[N + 1]? = some (.cells (ay x).toArray 67)) (i2 : W.heap[N + 1 + 1]? = some (.cells #[.bool b] 4)) (hD : N + 1 + 1 < D) (hK : W.heap[D]? = some (.deferred (some []))) (hB : Below w.heap.size w W) (hR : ∀ w', Below w.heap.size w w' → R (.returned (.tuple #[iF x, .bool b])) w') :
  bodyPostM Fence.wide 4 Tryz.prog Tryz.f48 R .ret a W := by
 obtain ⟨tm, df⟩ := a
 dsimp only at h4 h5 hd
 subst hd
 rw [Array.getD_eq_getD_getElem?] at h4 h5
 have hX := belowK_b (w := w) (Nat.le_refl _) W D _ (.deferred none) (by omega) hK rfl rfl
 have j1 : (W.putObj D (.deferred none)).heap[N + 1]? = some (.cells (ay x).toArray 67) := (World.putObj_heap_other (by omega)).trans i1
 have j2 : (W.putObj D (.deferred none)).heap[N + 1 + 1]? = some (.cells #[.bool b] 4) := (World.putObj_heap_other (by omega)).trans i2
 refine ⟨by simp, .inl ⟨_, _, rfl, run_takeDeferred hK, ?_⟩⟩
 have BX := hid (hR _ (hB.trans hX))
 generalize W.putObj D (.deferred none) = X at j1 j2 BX ⊢
 obtain ⟨⟨y0, _⟩, ⟨y1, _⟩, ⟨y2, _⟩, ⟨y3, _⟩, ⟨y4, _⟩, ⟨y5, _⟩, ⟨y6, _⟩, ⟨y7, _⟩, ⟨y8, _⟩, ⟨y9, _⟩, -⟩ := cp10 (aj j1)
 have b0 := (aa (aj (vs := [.bool b]) j2) 0 rfl).1
 clear j1 j2 i1 i2 hK hB hX hR
 refine ⟨.tuple #[iF x, .bool b], ?_, BX.out⟩
 simp [results, Tryz.results48, go_sem, *]
theorem qD {α : Type} {p : α → Bool} {l : List α} (h : l.any p = false) : l.find? p = none := by
 rw [List.find?_eq_none]
 intro x hx
 have := (List.any_eq_false.1 h) x hx
 simpa using this
theorem lm {α : Type} {p : α → Bool} {pre l : List α} {x : α} (h : pre ++ [x] <+: l) (hp : pre.any p = false) (hx : p x = true) : l.find? p = some x ∧ l.any p = true := by
 obtain ⟨t, rfl⟩ := h
 refine ⟨?_, ?_⟩
 ·rw [List.append_assoc, List.find?_append, qD hp]; simp [hx]
 ·simp [hx]
theorem I7 (gf hf : Nat) (lb hc : Array Value) (p : Sx.Er → Bool) (xs : List Sx.Er) (w : World)
  (eg : ∀ args w, (callFunc gf args).run Tryz.prog w = .ok (.enter gf args) w) (eh : ∀ args w, (callFunc hf args).run Tryz.prog w = .ok (.enter hf args) w)
  (hseq : ∀ w1, Below w.heap.size w w1 → rR Fence.wide 3 Tryz.prog gf lb (fun x : Sx.Er => #[iF x]) (Below w.heap.size) (fun ys => ys = xs) (fun pre => pre <+: xs) w1)
  (hp : ∀ x ∈ xs, ∀ W, Below w.heap.size w W → Calls Tryz.prog hf (#[iF x] ++ hc) W fun e W' => e = .returned (.bool (p x)) ∧ Below W.heap.size W W') :
  Calls Tryz.prog 48 #[.func (.func gf) #[] lb, .func (.func hf) #[] hc] w
   fun e w' => e = .returned (.tuple #[iF ((xs.find? p).getD zeroE), .bool (xs.any p)]) ∧ Below w.heap.size w w' := by
 refine (callsIn_wide (n := 4)).1 ?_
 refine callsIn_of_wp_marks Tryz.func48 rfl trivial ?_ rfl
 simp only [Tryz.ntmps48, List.size_toArray, List.length_cons, List.length_nil, Nat.reduceAdd, Nat.reduceSub, Array.replicate_succ, Array.replicate_zero, List.push_toArray, List.append_toArray, List.nil_append, List.cons_append]
 have HP := hid hp
 have HQ := hid hseq
 clear hp hseq
 gi_wp2
 obtain ⟨N, hN⟩ : ∃ N, w.heap.size = N := ⟨_, rfl⟩
 obtain ⟨V, hV⟩ : ∃ V, (((w.alloc (.cells #[.func (.func hf) #[] hc] 101)).alloc (.cells (ay zeroE).toArray 67)).alloc (.cells #[.bool false] 4)) = V := ⟨_, rfl⟩
 rw [show (((w.alloc (.cells #[.func (.func hf) #[] hc] 101)).alloc (.cells #[.int .i64 0, .string ⟨#[]⟩, .int .i64 0, .string ⟨#[]⟩, .bool false, .int .i64 0, .int .i64 0, .int .i64 0, .int .i64 0, .int .i64 0] 67)).alloc (.cells #[.bool false] 4)) = V from hV]
 have vS : V.heap.size = N + 3 := by rw [← hV, ← hN]; simp
 have v0 : V.heap[N]? = some (.cells #[.func (.func hf) #[] hc] 101) := by
  rw [← hV, Below.heap_alloc _ _ _ (by simp; omega), Below.heap_alloc _ _ _ (by simp; omega), ← hN]; exact World.alloc_heap_new w _
 have v1 : V.heap[N + 1]? = some (.cells (ay zeroE).toArray 67) := by
  rw [← hV, Below.heap_alloc _ _ _ (by simp; omega), ← hN]
  have := World.alloc_heap_new (w.alloc (.cells #[.func (.func hf) #[] hc] 101)) (.cells (ay zeroE).toArray 67)
  rwa [World.size_alloc] at this
 have v2 : V.heap[N + 1 + 1]? = some (.cells #[.bool false] 4) := by
  rw [← hV, ← hN]
  have := World.alloc_heap_new ((w.alloc (.cells #[.func (.func hf) #[] hc] 101)).alloc (.cells (ay zeroE).toArray 67)) (.cells #[.bool false] 4)
  rwa [World.size_alloc, World.size_alloc] at this
 have vB : Below w.heap.size w V := by
  rw [← hV]; exact (((q4B _ w).alloc (Nat.le_refl _) _).alloc (by simp) _).alloc (by simp; omega) _
 rw [hN]
 refine jF rfl (by omega) (gf := gf) (lb := lb) rfl trivial eg
  (vR (HQ.out V vB)) (fun h k => h.trans k) (belowK_b (by omega)) (q4B _ _) (fun _ => rfl)
  (fun (pre : List Sx.Er) W => (W.heap[N]? = some (.cells #[.func (.func hf) #[] hc] 101) ∧ W.heap[N + 1]? = some (.cells (ay zeroE).toArray 67) ∧ W.heap[N + 1 + 1]? = some (.cells #[.bool false] 4)) ∧ Below w.heap.size w W ∧ pre.any p = false)
  (fun c (pre : List Sx.Er) W => c = .ret ∧ (∃ x, W.heap[N + 1]? = some (.cells (ay x).toArray 67) ∧ (pre <+: xs → xs.find? p = some x)) ∧ W.heap[N + 1 + 1]? = some (.cells #[.bool true] 4) ∧ Below w.heap.size w W ∧ (pre <+: xs → xs.any p = true))
  (dx.and (dx.and (bu (by omega)) (dx.and (bu (by omega)) (bu (by omega)))) (dx.and (gu (Nat.le_refl _) (by omega)) (bU _)))
  (fun c => dx.and (bU _) (dx.and (xN fun x => dx.and (bu (by omega)) (bU _)) (dx.and (bu (by omega)) (dx.and (gu (Nat.le_refl _) (by omega)) (bU _)))))
  ⟨⟨v0, v1, v2⟩, vB, rfl⟩
  (fun x a' W => ∃ Bx, N + 1 + 1 < Bx ∧ W.heap[Bx]? = some (.cells (ay x).toArray 67 (0, 0)) ∧ a' = { tmps := #[.func (.func gf) #[] lb, .func (.func hf) #[] hc, undef, .pointer (some ⟨N, 0, none⟩), .pointer (some ⟨N + 1, 0, none⟩), .pointer (some ⟨N + 1 + 1, 0, none⟩), .pointer (some ⟨Bx, 0, none⟩), undef, .func (.func gf) #[] lb, iF x, undef, undef, undef, undef, undef], defers := [] })
  ?hAx ?assign ?body ?done ?stop
 case hAx =>
  rintro x a' _ X Y row ⟨Bx, q1, q2, q3⟩ hg hr
  refine ⟨Bx, q1, ?_, q3⟩
  rw [hg.block Bx (q4A.1 q2).1 (fun e => by obtain ⟨_, o, ho, hc⟩ := hr Bx e.symm; rw [q2] at ho; cases ho; simp [Obj.isCells] at hc)]
  exact q2
 case assign =>
  rintro l pre x W K ⟨⟨i0, i1, i2⟩, iB, iP⟩ sz hK
  rw [vS] at sz
  have KB := hid ((q4B W.heap.size W).alloc (Nat.le_refl _) (.cells (ay x).toArray 67))
  have R := hid (hK { tmps := #[.func (.func gf) #[] lb, .func (.func hf) #[] hc, undef, .pointer (some ⟨N, 0, none⟩), .pointer (some ⟨N + 1, 0, none⟩), .pointer (some ⟨N + 1 + 1, 0, none⟩), .pointer (some ⟨W.heap.size, 0, none⟩), undef, .func (.func gf) #[] lb, iF x, undef, undef, undef, undef, undef], defers := [] } (W.alloc (.cells (ay x).toArray 67)) ((KeepsOthers.alloc _ _).from _) (KB.out.mono iB.size)
   ⟨⟨(KB.out.block _ (q4A.1 i0).1).trans i0, (KB.out.block _ (q4A.1 i1).1).trans i1, (KB.out.block _ (q4A.1 i2).1).trans i2⟩, iB.alloc iB.size _, iP⟩ ⟨W.heap.size, by omega, World.alloc_heap_new W _, rfl⟩)
  clear hK i0 i1 i2
  gi_wp2
  exact R.out
 case body =>
  rintro l pre x a' W hl ⟨r, hr⟩ ⟨⟨i0, i1, i2⟩, iB, iP⟩ ⟨Bx, hBx, hX, rfl⟩ hpx sz
  have HC := hid (HP.out x (iw hpx) W iB)
  obtain ⟨⟨x0, _⟩, ⟨x1, _⟩, ⟨x2, _⟩, ⟨x3, _⟩, ⟨x4, _⟩, ⟨x5, _⟩, ⟨x6, _⟩, ⟨x7, _⟩, ⟨x8, _⟩, ⟨x9, _⟩, -⟩ := cp10 (aj hX)
  have f0 := (aa (aj (vs := [.func (.func hf) #[] hc]) i0) 0 rfl).1
  have sx := (q4A.1 hX).1
  have s0 := (q4A.1 i0).1
  have HX := hid hX
  have I0 := hid i0
  have I1 := hid i1
  have I2 := hid i2
  have IB := hid iB
  have HPX := hid hpx
  clear hX i0 i1 i2 iB hr hpx
  obtain ⟨C, hC⟩ : ∃ C, p x = C := ⟨_, rfl⟩
  rw [hC] at HC
  have HCC := hid hC
  have IP := hid iP
  have SV : Hid (V.heap.size = N + 3 ∧ w.heap.size = N) := ⟨vS, hN⟩
  clear hC iP
  cases C
  case false =>
   gi_wp2_with fail
   refine ⟨trivial, (CallsIn.inRound l (callsIn_wide.2 HC.out)).mono ?_⟩
   rintro e w1 ⟨rfl, hb⟩
   gi_wp2
   refine ⟨(dI hb).from _, hb.mono IB.out.size, ⟨(hb.block _ (q4A.1 I0.out).1).trans I0.out, (hb.block _ (q4A.1 I1.out).1).trans I1.out, (hb.block _ (q4A.1 I2.out).1).trans I2.out⟩, IB.out.trans (hb.mono IB.out.size), ?_⟩
   rw [List.any_append, IP.out]; simp [HCC.out]
  case true =>
   gi_wp2_with fail
   refine ⟨trivial, (CallsIn.inRound l (callsIn_wide.2 HC.out)).mono ?_⟩
   rintro e w1 ⟨rfl, hb⟩
   have HB := hid hb
   have CX := ah (aj HX.out) hb
   obtain ⟨y0, _⟩ := aa CX 0 rfl; obtain ⟨y1, _⟩ := aa CX 1 rfl; obtain ⟨y2, _⟩ := aa CX 2 rfl; obtain ⟨y3, _⟩ := aa CX 3 rfl; obtain ⟨y4, _⟩ := aa CX 4 rfl; obtain ⟨y5, _⟩ := aa CX 5 rfl; obtain ⟨y6, _⟩ := aa CX 6 rfl; obtain ⟨y7, _⟩ := aa CX 7 rfl; obtain ⟨y8, _⟩ := aa CX 8 rfl; obtain ⟨y9, _⟩ := aa CX 9 rfl
   have CR := ah (aj I1.out) hb
   obtain ⟨r0, q0⟩ := aa CR 0 rfl; obtain ⟨r1, q1⟩ := aa CR 1 rfl; obtain ⟨r2, q2⟩ := aa CR 2 rfl; obtain ⟨r3, q3⟩ := aa CR 3 rfl; obtain ⟨r4, q4⟩ := aa CR 4 rfl; obtain ⟨r5, q5⟩ := aa CR 5 rfl; obtain ⟨r6, q6⟩ := aa CR 6 rfl; obtain ⟨r7, q7⟩ := aa CR 7 rfl; obtain ⟨r8, q8⟩ := aa CR 8 rfl; obtain ⟨r9, q9⟩ := aa CR 9 rfl
   have CB := ah (aj (vs := [.bool false]) I2.out) hb
   obtain ⟨b0, b1⟩ := aa CB 0 rfl
   have sR := CR.1
   have sB := CB.1
   clear hb CX CR CB
   gi_wp2
   have G1 := Pq w1 (N + 1) (.int .i64 x.shift) (af x.rules) (.int .i64 x.save) (af x.format) (.bool x.opn) (.int .i64 x.uy) (.int .i64 x.um) (.int .i64 x.ud) (.int .i64 x.uat) (.int .i64 x.uclock)
   have hb := HB.out
   have e1 := (hb.block _ (q4A.1 I1.out).1).trans I1.out
   have e2 := (hb.block _ (q4A.1 I2.out).1).trans I2.out
   have p1 := putE (.int .i64 x.shift) (af x.rules) (.int .i64 x.save) (af x.format) (.bool x.opn) (.int .i64 x.uy) (.int .i64 x.um) (.int .i64 x.ud) (.int .i64 x.uat) (.int .i64 x.uclock) e1
   have p2 := (G1.block (N + 1 + 1) (q4A.1 e2).1 (by simp)).trans e2
   have p3 := xE (.bool true) p2
   have G2 := grownBy_setCell' ((((((((((w1.setCell ⟨N + 1, 0, none⟩ (.int .i64 x.shift)).setCell ⟨N + 1, 1, none⟩ (af x.rules)).setCell ⟨N + 1, 2, none⟩ (.int .i64 x.save)).setCell ⟨N + 1, 3, none⟩ (af x.format)).setCell ⟨N + 1, 4, none⟩ (.bool x.opn)).setCell ⟨N + 1, 5, none⟩ (.int .i64 x.uy)).setCell ⟨N + 1, 6, none⟩ (.int .i64 x.um)).setCell ⟨N + 1, 7, none⟩ (.int .i64 x.ud)).setCell ⟨N + 1, 8, none⟩ (.int .i64 x.uat)).setCell ⟨N + 1, 9, none⟩ (.int .i64 x.uclock)) (N + 1 + 1) (.bool true)
   have B1 := IB.out.trans (hb.mono IB.out.size)
   have B2 := B1.grown G1 B1.size (fun k e => by cases e; have := SV.out; omega)
   have B3 := B2.grown G2 B2.size (fun k e => by cases e; have := SV.out; omega)
   refine ⟨(((dI hb).trans (fQ G1 e1)).trans (fQ G2 p2)).from _, rfl, ⟨x, ?_, fun q => (lm q IP.out HCC.out).1⟩, p3, B3, fun q => (lm q IP.out HCC.out).2⟩
   exact (G2.block (N + 1) (q4A.1 p1).1 (by simp)).trans p1
 case done =>
  rintro D ys W hD rfl ⟨⟨i0, i1, i2⟩, iB, iP⟩ hK
  rw [vS] at hD
  have hD0 : N + 1 + 1 < D := by omega
  have CR := aj i1
  have CB := aj (vs := [.bool false]) i2
  obtain ⟨⟨r0, q0⟩, ⟨r1, q1⟩, ⟨r2, q2⟩, ⟨r3, q3⟩, ⟨r4, q4⟩, ⟨r5, q5⟩, ⟨r6, q6⟩, ⟨r7, q7⟩, ⟨r8, q8⟩, ⟨r9, q9⟩, -⟩ := cp10 CR
  obtain ⟨b0, b1⟩ := aa CB 0 rfl
  have sR := CR.1
  have sB := CB.1
  have HK := hid hK
  have IB := hid iB
  have IP := hid iP
  have I1 := hid i1
  have I2 := hid i2
  clear i0 i1 i2 CR CB hK iB iP v0 v1 v2 vB hV vS eg
  gi_wp2
  have G0 := World.grownBy_alloc W (.cells (ay zeroE).toArray 67) none
  have G1 := Pq W (N + 1) (.int .i64 0) (.string ⟨#[]⟩) (.int .i64 0) (.string ⟨#[]⟩) (.bool false) (.int .i64 0) (.int .i64 0) (.int .i64 0) (.int .i64 0) (.int .i64 0)
  have p1 := putE (.int .i64 0) (.string ⟨#[]⟩) (.int .i64 0) (.string ⟨#[]⟩) (.bool false) (.int .i64 0) (.int .i64 0) (.int .i64 0) (.int .i64 0) (.int .i64 0) I1.out
  have p2 := (G1.block (N + 1 + 1) (q4A.1 I2.out).1 (by simp)).trans I2.out
  have p3 := xE (.bool false) p2
  have G2 := grownBy_setCell' ((((((((((W.setCell ⟨N + 1, 0, none⟩ (.int .i64 0)).setCell ⟨N + 1, 1, none⟩ (.string ⟨#[]⟩)).setCell ⟨N + 1, 2, none⟩ (.int .i64 0)).setCell ⟨N + 1, 3, none⟩ (.string ⟨#[]⟩)).setCell ⟨N + 1, 4, none⟩ (.bool false)).setCell ⟨N + 1, 5, none⟩ (.int .i64 0)).setCell ⟨N + 1, 6, none⟩ (.int .i64 0)).setCell ⟨N + 1, 7, none⟩ (.int .i64 0)).setCell ⟨N + 1, 8, none⟩ (.int .i64 0)).setCell ⟨N + 1, 9, none⟩ (.int .i64 0)) (N + 1 + 1) (.bool false)
  have p4 := (G2.block (N + 1) (q4A.1 p1).1 (by simp)).trans p1
  have d1 := (G1.block D (q4A.1 HK.out).1 (by simp; omega)).trans HK.out
  have d2 := (G2.block D (q4A.1 d1).1 (by simp; omega)).trans d1
  have B2 := IB.out.grown G1 IB.out.size (fun k e => by cases e; omega)
  have B3 := B2.grown G2 B2.size (fun k e => by cases e; omega)
  have B4 := B3.alloc B3.size (.cells (ay zeroE).toArray 67)
  refine fH (x := zeroE) (b := false) hN rfl rfl rfl ((Below.heap_alloc _ _ _ (q4A.1 p4).1).trans p4) ((Below.heap_alloc _ _ _ (q4A.1 p3).1).trans p3) hD0 ((Below.heap_alloc _ _ _ (q4A.1 d2).1).trans d2) B4 (fun w' hb => ⟨?_, hb⟩)
  rw [IP.out, qD IP.out]; rfl
 case stop =>
  rintro D c pre W hD hpre ⟨rfl, ⟨x, i1, hx⟩, i2, iB, hA⟩ hK
  rw [vS] at hD
  have hA' := hA hpre
  have hx' := hx hpre
  have E := hid (fH (R := fun e w' => e = .returned (.tuple #[iF ((xs.find? p).getD zeroE), .bool (xs.any p)]) ∧ Below w.heap.size w w') (a := { tmps := #[.func (.func gf) #[] lb, .func (.func hf) #[] hc, undef, .pointer (some ⟨N, 0, none⟩), .pointer (some ⟨N + 1, 0, none⟩), .pointer (some ⟨N + 1 + 1, 0, none⟩), undef, undef, .func (.func gf) #[] lb, undef, undef, undef, undef, undef, undef], defers := [{ target := .collected D, args := #[] }] }) hN rfl rfl rfl i1 i2 (show N + 1 + 1 < D by omega) hK iB (fun w' hb => ⟨by rw [hA', hx']; rfl, hb⟩))
  clear v0 v1 v2 vB hV vS i1 i2 hK iB hA hA' hx hx' eg
  gi_wp2
  exact E.out
theorem Pw (gf hf : Nat) (lb hc : Array Value) (p : Sx.Er → Bool) (xs : List Sx.Er) (w : World)
  (eg : ∀ args w, (callFunc gf args).run Tryz.prog w = .ok (.enter gf args) w) (eh : ∀ args w, (callFunc hf args).run Tryz.prog w = .ok (.enter hf args) w)
  (hseq : ∀ w1, Below w.heap.size w w1 → rR Fence.wide 3 Tryz.prog gf lb (fun x : Sx.Er => #[iF x]) (Below w.heap.size) (fun ys => ys = xs) (fun pre => pre <+: xs) w1)
  (hp : ∀ x ∈ xs, ∀ W, Below w.heap.size w W → Calls Tryz.prog hf (#[iF x] ++ hc) W fun e W' => e = .returned (.bool (p x)) ∧ Below W.heap.size W W') :
  Calls Tryz.prog 105 #[.func (.func gf) #[] lb, .func (.func hf) #[] hc] w
   fun e w' => e = .returned (.bool (xs.any p)) ∧ Below w.heap.size w w' := by
 have C := hid (I7 gf hf lb hc p xs w eg eh hseq hp)
 clear hseq hp
 obtain ⟨x, hx⟩ : ∃ x, (xs.find? p).getD zeroE = x := ⟨_, rfl⟩
 rw [hx] at C
 clear hx
 go_enter Tryz.func105, Tryz.ntmps105
 go_wp2_with fail
 refine C.out.mono ?_
 rintro e w1 ⟨rfl, hb⟩
 have HB := hid hb
 clear hb
 go_wp2
 go_ret
 exact ⟨rfl, HB.out.alloc HB.out.size _⟩
end
section
open Go.RowKit Go.Shelf
attribute [local go_sem] Oper.semAt_some

def nG : Sx.Lk := ⟨[], []⟩
theorem putL {W : World} {b : Nat} {t : TypeId} {c0 c1 : Value} (v0 v1 : Value) (h : W.heap[b]? = some (.cells #[c0, c1] t)) :
  (((W.setCell ⟨b, 0, none⟩ (v0)).setCell ⟨b, 1, none⟩ (v1))).heap[b]? = some (.cells #[v0, v1] t) := by
 have e := eG (eG h 0 v0) 1 v1
 simp only [List.setIfInBounds_toArray, List.set_cons_zero, List.set_cons_succ] at e
 exact e
theorem Ps (W : World) (b : Nat) (v0 v1 : Value) : W.grownBy ((W.setCell ⟨b, 0, none⟩ (v0)).setCell ⟨b, 1, none⟩ (v1)) (some b) := (grown_put (grown_put (nR W b) 0 v0) 1 v1)
theorem yN {w W : World} {N D : Nat} {a : Act} {x : Sx.Lk} {b : Bool} {R : Ending → World → Prop} (hN : w.heap.size = N) (h4 : a.tmps.getD 4 undef = .pointer (some ⟨N + 1, 0, none⟩)) (h5 : a.tmps.getD 5 undef = .pointer (some ⟨N + 1 + 1, 0, none⟩)) (hd : a.defers = [{ target := .collected D, args := #[] }])
  (i1 : W.heap[N + 1]? = some (.cells (aZ x).toArray 35)) (i2 : W.heap[N + 1 + 1]? = some (.cells #[.bool b] 4)) (hD : N + 1 + 1 < D) (hK : W.heap[D]? = some (.deferred (some []))) (hB : Below w.heap.size w W) (hR : ∀ w', Below w.heap.size w w' → R (.returned (.tuple #[kS x, .bool b])) w') :
  bodyPostM Fence.wide 4 Tryz.prog Tryz.f115 R .ret a W := by
 obtain ⟨tm, df⟩ := a
 dsimp only at h4 h5 hd
 subst hd
 rw [Array.getD_eq_getD_getElem?] at h4 h5
 have hX := belowK_b (w := w) (Nat.le_refl _) W D _ (.deferred none) (by omega) hK rfl rfl
 have j1 : (W.putObj D (.deferred none)).heap[N + 1]? = some (.cells (aZ x).toArray 35) := (World.putObj_heap_other (by omega)).trans i1
 have j2 : (W.putObj D (.deferred none)).heap[N + 1 + 1]? = some (.cells #[.bool b] 4) := (World.putObj_heap_other (by omega)).trans i2
 refine ⟨by simp, .inl ⟨_, _, rfl, run_takeDeferred hK, ?_⟩⟩
 have BX := hid (hR _ (hB.trans hX))
 generalize W.putObj D (.deferred none) = X at j1 j2 BX ⊢
 obtain ⟨⟨y0, _⟩, ⟨y1, _⟩, -⟩ := cp2 (aj j1)
 have b0 := (aa (aj (vs := [.bool b]) j2) 0 rfl).1
 clear j1 j2 i1 i2 hK hB hX hR
 refine ⟨.tuple #[kS x, .bool b], ?_, BX.out⟩
 simp [results, Tryz.results115, go_sem, *]
theorem yM (gf hf : Nat) (lb hc : Array Value) (p : Sx.Lk → Bool) (xs : List Sx.Lk) (w : World)
  (eg : ∀ args w, (callFunc gf args).run Tryz.prog w = .ok (.enter gf args) w) (eh : ∀ args w, (callFunc hf args).run Tryz.prog w = .ok (.enter hf args) w)
  (hseq : ∀ w1, Below w.heap.size w w1 → rR Fence.wide 3 Tryz.prog gf lb (fun x : Sx.Lk => #[kS x]) (Below w.heap.size) (fun ys => ys = xs) (fun pre => pre <+: xs) w1)
  (hp : ∀ x ∈ xs, ∀ W, Below w.heap.size w W → Calls Tryz.prog hf (#[kS x] ++ hc) W fun e W' => e = .returned (.bool (p x)) ∧ Below W.heap.size W W') :
  Calls Tryz.prog 115 #[.func (.func gf) #[] lb, .func (.func hf) #[] hc] w
   fun e w' => e = .returned (.tuple #[kS ((xs.find? p).getD nG), .bool (xs.any p)]) ∧ Below w.heap.size w w' := by
 refine (callsIn_wide (n := 4)).1 ?_
 refine callsIn_of_wp_marks Tryz.func115 rfl trivial ?_ rfl
 simp only [Tryz.ntmps115, List.size_toArray, List.length_cons, List.length_nil, Nat.reduceAdd, Nat.reduceSub, Array.replicate_succ, Array.replicate_zero, List.push_toArray, List.append_toArray, List.nil_append, List.cons_append]
 have HP := hid hp
 have HQ := hid hseq
 clear hp hseq
 gi_wp2
 obtain ⟨N, hN⟩ : ∃ N, w.heap.size = N := ⟨_, rfl⟩
 obtain ⟨V, hV⟩ : ∃ V, (((w.alloc (.cells #[.func (.func hf) #[] hc] 162)).alloc (.cells (aZ nG).toArray 35)).alloc (.cells #[.bool false] 4)) = V := ⟨_, rfl⟩
 rw [show (((w.alloc (.cells #[.func (.func hf) #[] hc] 162)).alloc (.cells #[.string ⟨#[]⟩, .string ⟨#[]⟩] 35)).alloc (.cells #[.bool false] 4)) = V from hV]
 have vS : V.heap.size = N + 3 := by rw [← hV, ← hN]; simp
 have v0 : V.heap[N]? = some (.cells #[.func (.func hf) #[] hc] 162) := by
  rw [← hV, Below.heap_alloc _ _ _ (by simp; omega), Below.heap_alloc _ _ _ (by simp; omega), ← hN]; exact World.alloc_heap_new w _
 have v1 : V.heap[N + 1]? = some (.cells (aZ nG).toArray 35) := by
  rw [← hV, Below.heap_alloc _ _ _ (by simp; omega), ← hN]
  have := World.alloc_heap_new (w.alloc (.cells #[.func (.func hf) #[] hc] 162)) (.cells (aZ nG).toArray 35)
  rwa [World.size_alloc] at this
 have v2 : V.heap[N + 1 + 1]? = some (.cells #[.bool false] 4) := by
  rw [← hV, ← hN]
  have := World.alloc_heap_new ((w.alloc (.cells #[.func (.func hf) #[] hc] 162)).alloc (.cells (aZ nG).toArray 35)) (.cells #[.bool false] 4)
  rwa [World.size_alloc, World.size_alloc] at this
 have vB : Below w.heap.size w V := by
  rw [← hV]; exact (((q4B _ w).alloc (Nat.le_refl _) _).alloc (by simp) _).alloc (by simp; omega) _
 rw [hN]
 refine jF rfl (by omega) (gf := gf) (lb := lb) rfl trivial eg
  (vR (HQ.out V vB)) (fun h k => h.trans k) (belowK_b (by omega)) (q4B _ _) (fun _ => rfl)
  (fun (pre : List Sx.Lk) W => (W.heap[N]? = some (.cells #[.func (.func hf) #[] hc] 162) ∧ W.heap[N + 1]? = some (.cells (aZ nG).toArray 35) ∧ W.heap[N + 1 + 1]? = some (.cells #[.bool false] 4)) ∧ Below w.heap.size w W ∧ pre.any p = false)
  (fun c (pre : List Sx.Lk) W => c = .ret ∧ (∃ x, W.heap[N + 1]? = some (.cells (aZ x).toArray 35) ∧ (pre <+: xs → xs.find? p = some x)) ∧ W.heap[N + 1 + 1]? = some (.cells #[.bool true] 4) ∧ Below w.heap.size w W ∧ (pre <+: xs → xs.any p = true))
  (dx.and (dx.and (bu (by omega)) (dx.and (bu (by omega)) (bu (by omega)))) (dx.and (gu (Nat.le_refl _) (by omega)) (bU _)))
  (fun c => dx.and (bU _) (dx.and (xN fun x => dx.and (bu (by omega)) (bU _)) (dx.and (bu (by omega)) (dx.and (gu (Nat.le_refl _) (by omega)) (bU _)))))
  ⟨⟨v0, v1, v2⟩, vB, rfl⟩
  (fun x a' W => ∃ Bx, N + 1 + 1 < Bx ∧ W.heap[Bx]? = some (.cells (aZ x).toArray 35 (0, 0)) ∧ a' = { tmps := #[.func (.func gf) #[] lb, .func (.func hf) #[] hc, undef, .pointer (some ⟨N, 0, none⟩), .pointer (some ⟨N + 1, 0, none⟩), .pointer (some ⟨N + 1 + 1, 0, none⟩), .pointer (some ⟨Bx, 0, none⟩), undef, .func (.func gf) #[] lb, kS x, undef, undef, undef, undef, undef], defers := [] })
  ?hAx ?assign ?body ?done ?stop
 case hAx =>
  rintro x a' _ X Y row ⟨Bx, q1, q2, q3⟩ hg hr
  refine ⟨Bx, q1, ?_, q3⟩
  rw [hg.block Bx (q4A.1 q2).1 (fun e => by obtain ⟨_, o, ho, hc⟩ := hr Bx e.symm; rw [q2] at ho; cases ho; simp [Obj.isCells] at hc)]
  exact q2
 case assign =>
  rintro l pre x W K ⟨⟨i0, i1, i2⟩, iB, iP⟩ sz hK
  rw [vS] at sz
  have KB := hid ((q4B W.heap.size W).alloc (Nat.le_refl _) (.cells (aZ x).toArray 35))
  have R := hid (hK { tmps := #[.func (.func gf) #[] lb, .func (.func hf) #[] hc, undef, .pointer (some ⟨N, 0, none⟩), .pointer (some ⟨N + 1, 0, none⟩), .pointer (some ⟨N + 1 + 1, 0, none⟩), .pointer (some ⟨W.heap.size, 0, none⟩), undef, .func (.func gf) #[] lb, kS x, undef, undef, undef, undef, undef], defers := [] } (W.alloc (.cells (aZ x).toArray 35)) ((KeepsOthers.alloc _ _).from _) (KB.out.mono iB.size)
   ⟨⟨(KB.out.block _ (q4A.1 i0).1).trans i0, (KB.out.block _ (q4A.1 i1).1).trans i1, (KB.out.block _ (q4A.1 i2).1).trans i2⟩, iB.alloc iB.size _, iP⟩ ⟨W.heap.size, by omega, World.alloc_heap_new W _, rfl⟩)
  clear hK i0 i1 i2
  gi_wp2
  exact R.out
 case body =>
  rintro l pre x a' W hl ⟨r, hr⟩ ⟨⟨i0, i1, i2⟩, iB, iP⟩ ⟨Bx, hBx, hX, rfl⟩ hpx sz
  have HC := hid (HP.out x (iw hpx) W iB)
  obtain ⟨⟨x0, _⟩, ⟨x1, _⟩, -⟩ := cp2 (aj hX)
  have f0 := (aa (aj (vs := [.func (.func hf) #[] hc]) i0) 0 rfl).1
  have sx := (q4A.1 hX).1
  have s0 := (q4A.1 i0).1
  have HX := hid hX
  have I0 := hid i0
  have I1 := hid i1
  have I2 := hid i2
  have IB := hid iB
  have HPX := hid hpx
  clear hX i0 i1 i2 iB hr hpx
  obtain ⟨C, hC⟩ : ∃ C, p x = C := ⟨_, rfl⟩
  rw [hC] at HC
  have HCC := hid hC
  have IP := hid iP
  have SV : Hid (V.heap.size = N + 3 ∧ w.heap.size = N) := ⟨vS, hN⟩
  clear hC iP
  cases C
  case false =>
   gi_wp2_with fail
   refine ⟨trivial, (CallsIn.inRound l (callsIn_wide.2 HC.out)).mono ?_⟩
   rintro e w1 ⟨rfl, hb⟩
   gi_wp2
   refine ⟨(dI hb).from _, hb.mono IB.out.size, ⟨(hb.block _ (q4A.1 I0.out).1).trans I0.out, (hb.block _ (q4A.1 I1.out).1).trans I1.out, (hb.block _ (q4A.1 I2.out).1).trans I2.out⟩, IB.out.trans (hb.mono IB.out.size), ?_⟩
   rw [List.any_append, IP.out]; simp [HCC.out]
  case true =>
   gi_wp2_with fail
   refine ⟨trivial, (CallsIn.inRound l (callsIn_wide.2 HC.out)).mono ?_⟩
   rintro e w1 ⟨rfl, hb⟩
   have HB := hid hb
   have CX := ah (aj HX.out) hb
   obtain ⟨y0, _⟩ := aa CX 0 rfl; obtain ⟨y1, _⟩ := aa CX 1 rfl
   have CR := ah (aj I1.out) hb
   obtain ⟨r0, q0⟩ := aa CR 0 rfl; obtain ⟨r1, q1⟩ := aa CR 1 rfl
   have CB := ah (aj (vs := [.bool false]) I2.out) hb
   obtain ⟨b0, b1⟩ := aa CB 0 rfl
   have sR := CR.1
   have sB := CB.1
   clear hb CX CR CB
   gi_wp2
   have G1 := Ps w1 (N + 1) (af x.to) (af x.name)
   have hb := HB.out
   have e1 := (hb.block _ (q4A.1 I1.out).1).trans I1.out
   have e2 := (hb.block _ (q4A.1 I2.out).1).trans I2.out
   have p1 := putL (af x.to) (af x.name) e1
   have p2 := (G1.block (N + 1 + 1) (q4A.1 e2).1 (by simp)).trans e2
   have p3 := xE (.bool true) p2
   have G2 := grownBy_setCell' ((w1.setCell ⟨N + 1, 0, none⟩ (af x.to)).setCell ⟨N + 1, 1, none⟩ (af x.name)) (N + 1 + 1) (.bool true)
   have B1 := IB.out.trans (hb.mono IB.out.size)
   have B2 := B1.grown G1 B1.size (fun k e => by cases e; have := SV.out; omega)
   have B3 := B2.grown G2 B2.size (fun k e => by cases e; have := SV.out; omega)
   refine ⟨(((dI hb).trans (fQ G1 e1)).trans (fQ G2 p2)).from _, rfl, ⟨x, ?_, fun q => (lm q IP.out HCC.out).1⟩, p3, B3, fun q => (lm q IP.out HCC.out).2⟩
   exact (G2.block (N + 1) (q4A.1 p1).1 (by simp)).trans p1
 case done =>
  rintro D ys W hD rfl ⟨⟨i0, i1, i2⟩, iB, iP⟩ hK
  rw [vS] at hD
  have hD0 : N + 1 + 1 < D := by omega
  have CR := aj i1
  have CB := aj (vs := [.bool false]) i2
  obtain ⟨⟨r0, q0⟩, ⟨r1, q1⟩, -⟩ := cp2 CR
  obtain ⟨b0, b1⟩ := aa CB 0 rfl
  have sR := CR.1
  have sB := CB.1
  have HK := hid hK
  have IB := hid iB
  have IP := hid iP
  have I1 := hid i1
  have I2 := hid i2
  clear i0 i1 i2 CR CB hK iB iP v0 v1 v2 vB hV vS eg
  gi_wp2
  have G0 := World.grownBy_alloc W (.cells (aZ nG).toArray 35) none
  have G1 := Ps W (N + 1) (.string ⟨#[]⟩) (.string ⟨#[]⟩)
  have p1 := putL (.string ⟨#[]⟩) (.string ⟨#[]⟩) I1.out
  have p2 := (G1.block (N + 1 + 1) (q4A.1 I2.out).1 (by simp)).trans I2.out
  have p3 := xE (.bool false) p2
  have G2 := grownBy_setCell' ((W.setCell ⟨N + 1, 0, none⟩ (.string ⟨#[]⟩)).setCell ⟨N + 1, 1, none⟩ (.string ⟨#[]⟩)) (N + 1 + 1) (.bool false)
  have p4 := (G2.block (N + 1) (q4A.1 p1).1 (by simp)).trans p1
  have d1 := (G1.block D (q4A.1 HK.out).1 (by simp; omega)).trans HK.out
  have d2 := (G2.block D (q4A.1 d1).1 (by simp; omega)).trans d1
  have B2 := IB.out.grown G1 IB.out.size (fun k e => by cases e; omega)
  have B3 := B2.grown G2 B2.size (fun k e => by cases e; omega)
  have B4 := B3.alloc B3.size (.cells (aZ nG).toArray 35)
  refine yN (x := nG) (b := false) hN rfl rfl rfl ((Below.heap_alloc _ _ _ (q4A.1 p4).1).trans p4) ((Below.heap_alloc _ _ _ (q4A.1 p3).1).trans p3) hD0 ((Below.heap_alloc _ _ _ (q4A.1 d2).1).trans d2) B4 (fun w' hb => ⟨?_, hb⟩)
  rw [IP.out, qD IP.out]; rfl
 case stop =>
  rintro D c pre W hD hpre ⟨rfl, ⟨x, i1, hx⟩, i2, iB, hA⟩ hK
  rw [vS] at hD
  have hA' := hA hpre
  have hx' := hx hpre
  have E := hid (yN (R := fun e w' => e = .returned (.tuple #[kS ((xs.find? p).getD nG), .bool (xs.any p)]) ∧ Below w.heap.size w w') (a := { tmps := #[.func (.func gf) #[] lb, .func (.func hf) #[] hc, undef, .pointer (some ⟨N, 0, none⟩), .pointer (some ⟨N + 1, 0, none⟩), .pointer (some ⟨N + 1 + 1, 0, none⟩), undef, undef, .func (.func gf) #[] lb, undef, undef, undef, undef, undef, undef], defers := [{ target := .collected D, args := #[] }] }) hN rfl rfl rfl i1 i2 (show N + 1 + 1 < D by omega) hK iB (fun w' hb => ⟨by rw [hA', hx']; rfl, hb⟩))
  clear v0 v1 v2 vB hV vS i1 i2 hK iB hA hA' hx hx' eg
  gi_wp2
  exact E.out
theorem Px (gf hf : Nat) (lb hc : Array Value) (p : Sx.Lk → Bool) (xs : List Sx.Lk) (w : World)
  (eg : ∀ args w, (callFunc gf args).run Tryz.prog w = .ok (.enter gf args) w) (eh : ∀ args w, (callFunc hf args).run Tryz.prog w = .ok (.enter hf args) w)
  (hseq : ∀ w1, Below w.heap.size w w1 → rR Fence.wide 3 Tryz.prog gf lb (fun x : Sx.Lk => #[kS x]) (Below w.heap.size) (fun ys => ys = xs) (fun pre => pre <+: xs) w1)
  (hp : ∀ x ∈ xs, ∀ W, Below w.heap.size w W → Calls Tryz.prog hf (#[kS x] ++ hc) W fun e W' => e = .returned (.bool (p x)) ∧ Below W.heap.size W W') :
  Calls Tryz.prog 103 #[.func (.func gf) #[] lb, .func (.func hf) #[] hc] w
   fun e w' => e = .returned (.bool (xs.any p)) ∧ Below w.heap.size w w' := by
 have C := hid (yM gf hf lb hc p xs w eg eh hseq hp)
 clear hseq hp
 obtain ⟨x, hx⟩ : ∃ x, (xs.find? p).getD nG = x := ⟨_, rfl⟩
 rw [hx] at C
 clear hx
 go_enter Tryz.func103, Tryz.ntmps103
 go_wp2_with fail
 refine C.out.mono ?_
 rintro e w1 ⟨rfl, hb⟩
 have HB := hid hb
 clear hb
 go_wp2
 go_ret
 exact ⟨rfl, HB.out.alloc HB.out.size _⟩
end
section
open Go.RowKit Go.Shelf

theorem Je (hf : Nat) (hc : Array Value) (p : ZV → Bool) (xs : List ZV) (ra : Option Addr) (rcap : Nat) (w : World) (h : Rd 2 bL w (.slice ra xs.length rcap) xs) (hxs : xs.length ≤ 10000)
  (eh : ∀ args w, (callFunc hf args).run Tryz.prog w = .ok (.enter hf args) w)
  (hp : ∀ x ∈ xs, ∀ W, Below w.heap.size w W → Calls Tryz.prog hf (#[zvV x] ++ hc) W fun e W' => e = .returned (.bool (p x)) ∧ Below W.heap.size W W') :
  Calls Tryz.prog 158 #[.slice ra xs.length rcap, .func (.func hf) #[] hc] w fun e w' => ∃ r : Int, e = .returned (.int .i64 r) ∧ decide (0 ≤ r) = xs.any p ∧ Below w.heap.size w w' := by
 have H := hid h
 have HP := hid hp
 have HA : Hid ((xs.take 0).any p = false) := rfl
 clear h hp
 go_enter Tryz.func158, Tryz.ntmps158
 go_wp2_with fail
 go_loopw [8] (fun a wr => ∃ k : Nat, k ≤ xs.length ∧ a = .int .i64 k ∧ Hid (Below w.heap.size w wr) ∧ Hid ((xs.take k).any p = false)) (fun a _ => xs.length - (intOf a).toNat)
 case atStart => exact ⟨0, by omega, rfl, q4B _ _, HA⟩
 case round =>
  clear HA
  obtain ⟨k, hk, rfl, B0, HA⟩ := hrel
  by_cases hlt : k < xs.length
  case neg =>
   have e : xs.take k = xs := List.take_of_length_le (by omega)
   rw [e] at HA
   go_wp2
   go_ret
   exact ⟨-1, rfl, by rw [HA.out]; rfl, B0.out⟩
  obtain ⟨x, hx⟩ : ∃ x, xs[k]? = some x := ⟨_, q4G hlt⟩
  obtain ⟨rb, ro, rfl, hrb, hc'⟩ := aN (au H.out B0.out) hx
  have c0 : wr.cell? ⟨rb, ro + k * 2, none⟩ = some (af x.z.name) := hc' 0 _ rfl
  have c1 : wr.cell? ⟨rb, ro + k * 2 + 1, none⟩ = some (.slice x.a x.z.eras.length x.c) := hc' 1 _ rfl
  have HX := hid (HP.out x (List.mem_of_getElem? hx) wr B0.out)
  have HS := hid (Sx.dQ hx)
  have HI : Hid (xs.any p = true ∨ p x = false) := by
   show _ ∨ _
   cases q : p x
   ·exact .inr rfl
   ·exact .inl (List.any_eq_true.2 ⟨x, List.mem_of_getElem? hx, q⟩)
  obtain ⟨E, hE⟩ : ∃ E, p x = E := ⟨_, rfl⟩
  rw [hE] at HX HI
  have HE := hid hE
  clear hx hc' hE
  go_wp2_with fail
  refine HX.out.mono ?_
  rintro e w1 ⟨rfl, hb⟩
  have B1 : Hid (Below w.heap.size w w1) := B0.out.trans (hb.mono B0.out.size)
  clear hb B0 hrb c0 c1
  cases E
  case true =>
   go_wp2
   go_ret
   exact ⟨k, rfl, by rw [HI.out.resolve_right (by decide)]; simp, B1.out⟩
  case false =>
   have HA2 : Hid ((xs.take (k + 1)).any p = false) := by show _ = _; rw [HS.out, List.any_append, HA.out]; simp [HE.out]
   clear HA
   go_wp2
   go_roundw
   case rel => exact ⟨k + 1, by omega, by go_num, B1, HA2⟩
   case measure => simp [intOf]; omega
theorem Az (hf : Nat) (hc : Array Value) (p : ZV → Bool) (xs : List ZV) (ra : Option Addr) (rcap : Nat) (w : World) (h : Rd 2 bL w (.slice ra xs.length rcap) xs) (hxs : xs.length ≤ 10000)
  (eh : ∀ args w, (callFunc hf args).run Tryz.prog w = .ok (.enter hf args) w)
  (hp : ∀ x ∈ xs, ∀ W, Below w.heap.size w W → Calls Tryz.prog hf (#[zvV x] ++ hc) W fun e W' => e = .returned (.bool (p x)) ∧ Below W.heap.size W W') :
  Calls Tryz.prog 98 #[.slice ra xs.length rcap, .func (.func hf) #[] hc] w fun e w' => e = .returned (.bool (xs.any p)) ∧ Below w.heap.size w w' := by
 have C := hid (Je hf hc p xs ra rcap w h hxs eh hp)
 clear h hp
 go_enter Tryz.func98, Tryz.ntmps98
 go_wp2_with fail
 refine C.out.mono ?_
 rintro e w1 ⟨r, rfl, hr, hb⟩
 have HR := hid hr
 clear hr
 go_wp2
 go_ret
 exact ⟨az HR.out, hb⟩
theorem Jd (hf : Nat) (hc : Array Value) (p : Sx.Rl → Bool) (xs : List Sx.Rl) (ra : Option Addr) (rcap : Nat) (w : World) (h : bN w (.slice ra xs.length rcap) xs) (hxs : xs.length ≤ 10000)
  (eh : ∀ args w, (callFunc hf args).run Tryz.prog w = .ok (.enter hf args) w)
  (hp : ∀ x ∈ xs, ∀ W, Below w.heap.size w W → Calls Tryz.prog hf (#[qd x] ++ hc) W fun e W' => e = .returned (.bool (p x)) ∧ Below W.heap.size W W') :
  Calls Tryz.prog 159 #[.slice ra xs.length rcap, .func (.func hf) #[] hc] w fun e w' => ∃ r : Int, e = .returned (.int .i64 r) ∧ decide (0 ≤ r) = xs.any p ∧ Below w.heap.size w w' := by
 have H := hid h
 have HP := hid hp
 have HA : Hid ((xs.take 0).any p = false) := rfl
 clear h hp
 go_enter Tryz.func159, Tryz.ntmps159
 go_wp2_with fail
 go_loopw [8] (fun a wr => ∃ k : Nat, k ≤ xs.length ∧ a = .int .i64 k ∧ Hid (Below w.heap.size w wr) ∧ Hid ((xs.take k).any p = false)) (fun a _ => xs.length - (intOf a).toNat)
 case atStart => exact ⟨0, by omega, rfl, q4B _ _, HA⟩
 case round =>
  clear HA
  obtain ⟨k, hk, rfl, B0, HA⟩ := hrel
  by_cases hlt : k < xs.length
  case neg =>
   have e : xs.take k = xs := List.take_of_length_le (by omega)
   rw [e] at HA
   go_wp2
   go_ret
   exact ⟨-1, rfl, by rw [HA.out]; rfl, B0.out⟩
  obtain ⟨x, hx⟩ : ∃ x, xs[k]? = some x := ⟨_, q4G hlt⟩
  obtain ⟨rb, ro, rfl, hrb, hc'⟩ := aN (au H.out B0.out) hx
  obtain ⟨c0, c1, c2, c3, c4, c5, c6, c7, c8, c9, c10⟩ := oh hc'
  have HX := hid (HP.out x (List.mem_of_getElem? hx) wr B0.out)
  have HS := hid (Sx.dQ hx)
  have HI : Hid (xs.any p = true ∨ p x = false) := by
   show _ ∨ _
   cases q : p x
   ·exact .inr rfl
   ·exact .inl (List.any_eq_true.2 ⟨x, List.mem_of_getElem? hx, q⟩)
  obtain ⟨E, hE⟩ : ∃ E, p x = E := ⟨_, rfl⟩
  rw [hE] at HX HI
  have HE := hid hE
  clear hx hc' hE
  go_wp2_with fail
  refine HX.out.mono ?_
  rintro e w1 ⟨rfl, hb⟩
  have B1 : Hid (Below w.heap.size w w1) := B0.out.trans (hb.mono B0.out.size)
  clear hb B0 hrb c0 c1 c2 c3 c4 c5 c6 c7 c8 c9 c10
  cases E
  case true =>
   go_wp2
   go_ret
   exact ⟨k, rfl, by rw [HI.out.resolve_right (by decide)]; simp, B1.out⟩
  case false =>
   have HA2 : Hid ((xs.take (k + 1)).any p = false) := by show _ = _; rw [HS.out, List.any_append, HA.out]; simp [HE.out]
   clear HA
   go_wp2
   go_roundw
   case rel => exact ⟨k + 1, by omega, by go_num, B1, HA2⟩
   case measure => simp [intOf]; omega
theorem Ay (hf : Nat) (hc : Array Value) (p : Sx.Rl → Bool) (xs : List Sx.Rl) (ra : Option Addr) (rcap : Nat) (w : World) (h : bN w (.slice ra xs.length rcap) xs) (hxs : xs.length ≤ 10000)
  (eh : ∀ args w, (callFunc hf args).run Tryz.prog w = .ok (.enter hf args) w)
  (hp : ∀ x ∈ xs, ∀ W, Below w.heap.size w W → Calls Tryz.prog hf (#[qd x] ++ hc) W fun e W' => e = .returned (.bool (p x)) ∧ Below W.heap.size W W') :
  Calls Tryz.prog 101 #[.slice ra xs.length rcap, .func (.func hf) #[] hc] w fun e w' => e = .returned (.bool (xs.any p)) ∧ Below w.heap.size w w' := by
 have C := hid (Jd hf hc p xs ra rcap w h hxs eh hp)
 clear h hp
 go_enter Tryz.func101, Tryz.ntmps101
 go_wp2_with fail
 refine C.out.mono ?_
 rintro e w1 ⟨r, rfl, hr, hb⟩
 have HR := hid hr
 clear hr
 go_wp2
 go_ret
 exact ⟨az HR.out, hb⟩

theorem Ht (x : ZV) (B : Nat) (l : Sx.Lk) (w : World) (hB : B < w.heap.size) (h : w.cell? ⟨B, 0, none⟩ = some (af l.to)) :
  Calls Tryz.prog 99 #[zvV x, .pointer (some ⟨B, 0, none⟩)] w fun e w' => e = .returned (.bool (x.z.name == l.to)) ∧ Below w.heap.size w w' := by
 have BV := hid ((q4B w.heap.size w).alloc (Nat.le_refl _) (.cells (bL x).toArray 44))
 have XV := aC w (bL x) 44
 obtain ⟨x0, _⟩ := aa XV 0 rfl
 have y0 := (BV.out.cell (p := ⟨B, 0, none⟩) hB).trans h
 have sx := XV.1
 have sB : B < (w.alloc (.cells (bL x).toArray 44)).heap.size := q4N hB BV.out.size
 clear XV
 go_enter Tryz.func99, Tryz.ntmps99
 go_wp2
 go_ret
 exact ⟨rfl, BV.out⟩
theorem Hu (x : Sx.Rl) (B : Nat) (rl : Tx.Bs) (w : World) (hB : B < w.heap.size) (h : w.cell? ⟨B, 1, none⟩ = some (af rl)) :
  Calls Tryz.prog 102 #[qd x, .pointer (some ⟨B, 0, none⟩)] w fun e w' => e = .returned (.bool (x.name == rl)) ∧ Below w.heap.size w w' := by
 have BV := hid ((q4B w.heap.size w).alloc (Nat.le_refl _) (.cells (aG x).toArray 40))
 have XV := aC w (aG x) 40
 obtain ⟨x0, _⟩ := aa XV 0 rfl
 have y0 := (BV.out.cell (p := ⟨B, 1, none⟩) hB).trans h
 have sx := XV.1
 have sB : B < (w.alloc (.cells (aG x).toArray 40)).heap.size := q4N hB BV.out.size
 clear XV
 go_enter Tryz.func102, Tryz.ntmps102
 go_wp2
 go_ret
 exact ⟨rfl, BV.out⟩
/- the links that are astray, the eras that lack rules -/
def iD (xs : List ZV) (l : Sx.Lk) : Bool := !xs.any fun q => q.z.name == l.to
def ik (rs : List Sx.Rl) (x : Sx.Er) : Bool := !x.rules.isEmpty && !rs.any fun r => r.name == x.rules
def oH (rs : List Sx.Rl) (ls : List Sx.Lk) (xs : List ZV) : Int := if (ls.any (iD xs) || (aQ xs).any (ik rs)) = true then 5 else 0
theorem Kj (xs : List ZV) (Bs : Nat) (l : Sx.Lk) (za : Option Addr) (zcap : Nat) (w : World) (h : Rd 2 bL w (.slice za xs.length zcap) xs) (hxs : xs.length ≤ 10000) (hB : Bs < w.heap.size) (c1 : w.cell? ⟨Bs, 1, none⟩ = some (.slice za xs.length zcap)) :
  Calls Tryz.prog 97 #[kS l, .pointer (some ⟨Bs, 0, none⟩)] w fun e w' => e = .returned (.bool (iD xs l)) ∧ Below w.heap.size w w' := by
 have BV := hid ((q4B w.heap.size w).alloc (Nat.le_refl _) (.cells (aZ l).toArray 35))
 have XV := aC w (aZ l) 35
 obtain ⟨x0, _⟩ := aa XV 0 rfl
 have y1 : (w.alloc (.cells #[af l.to, af l.name] 35)).cell? ⟨Bs, 1, none⟩ = some (.slice za xs.length zcap) := (BV.out.cell (p := ⟨Bs, 1, none⟩) hB).trans c1
 have sx := XV.1
 have sB : Bs < (w.alloc (.cells #[af l.to, af l.name] 35)).heap.size := q4N hB BV.out.size
 have C := hid (Az 99 #[.pointer (some ⟨w.heap.size, 0, none⟩)] (fun q => q.z.name == l.to) xs za zcap (w.alloc (.cells (aZ l).toArray 35)) (au h BV.out) hxs (enters_of Tryz.func99 (by kernel_rfl) rfl)
  (fun x _ W hW => Ht x w.heap.size l W (q4N sx hW.size) ((hW.cell (p := ⟨w.heap.size, 0, none⟩) sx).trans x0)))
 have HA : Hid (iD xs l = !xs.any fun q => q.z.name == l.to) := rfl
 clear XV h c1
 go_enter Tryz.func97, Tryz.ntmps97
 go_wp2_with fail
 refine C.out.mono ?_
 rintro e w1 ⟨rfl, hb⟩
 have B1 : Hid (Below w.heap.size w w1) := BV.out.trans (hb.mono BV.out.size)
 clear hb
 go_wp2
 go_ret
 exact ⟨az (by rw [HA.out]), B1.out⟩
theorem Kk (rs : List Sx.Rl) (Bs : Nat) (x : Sx.Er) (ra : Option Addr) (rcap : Nat) (w : World) (h : bN w (.slice ra rs.length rcap) rs) (hrs : rs.length ≤ 10000) (hB : Bs < w.heap.size) (c0 : w.cell? ⟨Bs, 0, none⟩ = some (.slice ra rs.length rcap)) :
  Calls Tryz.prog 100 #[iF x, .pointer (some ⟨Bs, 0, none⟩)] w fun e w' => e = .returned (.bool (ik rs x)) ∧ Below w.heap.size w w' := by
 have BV := hid ((q4B w.heap.size w).alloc (Nat.le_refl _) (.cells (ay x).toArray 67))
 have XV := aC w (ay x) 67
 obtain ⟨x1, _⟩ := aa XV 1 rfl
 have y0 : (w.alloc (.cells #[.int .i64 x.shift, af x.rules, .int .i64 x.save, af x.format, .bool x.opn, .int .i64 x.uy, .int .i64 x.um, .int .i64 x.ud, .int .i64 x.uat, .int .i64 x.uclock] 67)).cell? ⟨Bs, 0, none⟩ = some (.slice ra rs.length rcap) := (BV.out.cell (p := ⟨Bs, 0, none⟩) hB).trans c0
 have sx := XV.1
 have sB : Bs < (w.alloc (.cells #[.int .i64 x.shift, af x.rules, .int .i64 x.save, af x.format, .bool x.opn, .int .i64 x.uy, .int .i64 x.um, .int .i64 x.ud, .int .i64 x.uat, .int .i64 x.uclock] 67)).heap.size := q4N hB BV.out.size
 have C := hid (Ay 102 #[.pointer (some ⟨w.heap.size, 0, none⟩)] (fun r => r.name == x.rules) rs ra rcap (w.alloc (.cells (ay x).toArray 67)) (au h BV.out) hrs (enters_of Tryz.func102 (by kernel_rfl) rfl)
  (fun r _ W hW => Hu r w.heap.size x.rules W (q4N sx hW.size) ((hW.cell (p := ⟨w.heap.size, 1, none⟩) sx).trans x1)))
 have HA : Hid (ik rs x = (!x.rules.isEmpty && !rs.any fun r => r.name == x.rules)) := rfl
 clear XV h c0
 cases he : x.rules.isEmpty
 case true =>
  go_enter Tryz.func100, Tryz.ntmps100
  go_wp2
  go_ret
  exact ⟨az (by rw [HA.out, he]; rfl), BV.out⟩
 case false =>
  go_enter Tryz.func100, Tryz.ntmps100
  go_wp2_with fail
  refine C.out.mono ?_
  rintro e w1 ⟨rfl, hb⟩
  have B1 : Hid (Below w.heap.size w w1) := BV.out.trans (hb.mono BV.out.size)
  clear hb
  go_wp2
  go_ret
  exact ⟨az (by rw [HA.out, he]; simp), B1.out⟩
theorem yo (rs : List Sx.Rl) (zs : List Sx.Zn) (ls : List Sx.Lk) (xs : List ZV) (ra za la : Option Addr) (rcap zcap lcap : Nat) (w : World) (h1 : bN w (.slice ra rs.length rcap) rs) (h2 : kC w (.slice za xs.length zcap) zs xs) (h3 : fJ w (.slice la ls.length lcap) ls)
  (hr : rs.length ≤ 10000) (hx : xs.length ≤ 10000) (hl : ls.length ≤ 10000) (he : ∀ p ∈ xs, p.z.eras.length ≤ 10000) :
  Calls Tryz.prog 44 #[.agg #[.slice ra rs.length rcap, .slice za xs.length zcap, .slice la ls.length lcap]] w fun e w' => e = .returned (.int .i64 (oH rs ls xs)) ∧ Below w.heap.size w w' := by
 have BV := hid ((q4B w.heap.size w).alloc (Nat.le_refl _) (.cells [.slice ra rs.length rcap, .slice za xs.length zcap, .slice la ls.length lcap].toArray 26))
 have XV := aC w [.slice ra rs.length rcap, .slice za xs.length zcap, .slice la ls.length lcap] 26
 obtain ⟨V, hV⟩ : ∃ V, w.alloc (.cells #[.slice ra rs.length rcap, .slice za xs.length zcap, .slice la ls.length lcap] 26) = V := ⟨_, rfl⟩
 obtain ⟨B, hB⟩ : ∃ B, w.heap.size = B := ⟨_, rfl⟩
 have hV' : w.alloc (.cells [.slice ra rs.length rcap, .slice za xs.length zcap, .slice la ls.length lcap].toArray 26) = V := hV
 rw [hV'] at BV XV
 rw [hB] at XV
 have R1 := au h1 BV.out
 have R2 := dP h2 BV.out
 have R3 := au h3 BV.out
 have sB := XV.1
 obtain ⟨⟨x0, _⟩, ⟨x1, _⟩, ⟨x2, _⟩, -⟩ := cp3 XV
 have e1 : ∀ args w, (callFunc 97 args).run Tryz.prog w = .ok (.enter 97 args) w := enters_of Tryz.func97 (by kernel_rfl) rfl
 have e2 : ∀ args w, (callFunc 100 args).run Tryz.prog w = .ok (.enter 100 args) w := enters_of Tryz.func100 (by kernel_rfl) rfl
 have eL : ∀ args w, (callFunc 160 args).run Tryz.prog w = .ok (.enter 160 args) w := enters_of Tryz.func160 (by kernel_rfl) rfl
 have eE : ∀ args w, (callFunc 110 args).run Tryz.prog w = .ok (.enter 110 args) w := enters_of Tryz.func110 (by kernel_rfl) rfl
 /- over the links -/
 have C1 := hid (fun (W : World) (hW : Below V.heap.size V W) =>
  let hWL : Below W.heap.size W (W.alloc (.cells #[.slice la ls.length lcap] 24)) := (q4B W.heap.size W).alloc (Nat.le_refl _) _
  let hVL : Below V.heap.size V (W.alloc (.cells #[.slice la ls.length lcap] 24)) := hW.trans (hWL.mono hW.size)
  Px 160 97 #[.pointer (some ⟨W.heap.size, 0, none⟩)] #[.pointer (some ⟨B, 0, none⟩)] (iD xs) ls (W.alloc (.cells #[.slice la ls.length lcap] 24)) eL e1
   (fun w1 hw1 => De 3 W.heap.size (by omega) ls la lcap (W.alloc (.cells #[.slice la ls.length lcap] 24)) w1 (au R3 hVL) hl ((hw1.cell (p := ⟨W.heap.size, 0, none⟩) (by simp)).trans (aa (aC W [.slice la ls.length lcap] 24) 0 rfl).1) (q4N (by simp) hw1.size) hw1)
   (fun x _ W' hW' => by
    have hh := hVL.trans (hW'.mono hVL.size)
    exact Kj xs B x za zcap W' (au R2.rd hh) hx (q4N sB hh.size) ((hh.cell (p := ⟨B, 1, none⟩) sB).trans x1)))
 have C2 := hid (fun (W : World) (hW : Below V.heap.size V W) =>
  let hWL : Below W.heap.size W (W.alloc (.cells #[.slice za xs.length zcap] 23)) := (q4B W.heap.size W).alloc (Nat.le_refl _) _
  let hVL : Below V.heap.size V (W.alloc (.cells #[.slice za xs.length zcap] 23)) := hW.trans (hWL.mono hW.size)
  Pw 110 100 #[.pointer (some ⟨W.heap.size, 0, none⟩)] #[.pointer (some ⟨B, 0, none⟩)] (ik rs) (aQ xs) (W.alloc (.cells #[.slice za xs.length zcap] 23)) eE e2
   (fun w1 hw1 => Pd 3 W.heap.size (by omega) xs zs za zcap (W.alloc (.cells #[.slice za xs.length zcap] 23)) w1 (dP R2 hVL) hx he ((hw1.cell (p := ⟨W.heap.size, 0, none⟩) (by simp)).trans (aa (aC W [.slice za xs.length zcap] 23) 0 rfl).1) (q4N (by simp) hw1.size) hw1)
   (fun x _ W' hW' => by
    have hh := hVL.trans (hW'.mono hVL.size)
    exact Kk rs B x ra rcap W' (au R1 hh) hr (q4N sB hh.size) ((hh.cell (p := ⟨B, 0, none⟩) sB).trans x0)))
 clear R1 R2 R3 h1 h2 h3 hr hx hl he e1 e2 eL eE hV'
 have BVB : Hid (Below B w V) := by show Below _ _ _; rw [← hB]; exact BV.out
 have HTE : Hid (oH rs ls xs = if (ls.any (iD xs) || (aQ xs).any (ik rs)) = true then 5 else 0) := rfl
 have HV := hid (q4B V.heap.size V)
 have SB := hid sB
 have X1 := hid x1
 go_enter Tryz.func44, Tryz.ntmps44
 go_wp2_with fail
 refine (Dc _ _ _ _).mono ?_
 rintro e w1 ⟨rfl, rfl⟩
 go_wp2_with fail
 refine (C1.out V HV.out).mono ?_
 rintro e w2 ⟨rfl, hb⟩
 have HB2 : Hid (Below V.heap.size V w2) := ((q4B V.heap.size V).alloc (Nat.le_refl _) _).trans (hb.mono (by simp))
 have y1 := (HB2.out.cell (p := ⟨B, 1, none⟩) SB.out).trans X1.out
 have sB2 : B < w2.heap.size := q4N SB.out HB2.out.size
 clear hb x0 x1 x2 sB C1
 obtain ⟨A, hA⟩ : ∃ A, ls.any (iD xs) = A := ⟨_, rfl⟩
 rw [hA]
 have HA := hid hA
 clear hA
 cases A
 case true =>
  go_wp2
  go_ret
  exact ⟨ai (by rw [HTE.out, HA.out]; rfl), BV.out.trans (HB2.out.mono BV.out.size)⟩
 go_wp2_with fail
 refine (yH _ _ _ _).mono ?_
 rintro e w3 ⟨rfl, rfl⟩
 go_wp2_with fail
 refine (C2.out w2 HB2.out).mono ?_
 rintro e w4 ⟨rfl, hb⟩
 have HB4 : Hid (Below V.heap.size V w4) := HB2.out.trans (((q4B w2.heap.size w2).alloc (Nat.le_refl _) (.cells #[.slice za xs.length zcap] 23)).trans (hb.mono (by simp)) |>.mono HB2.out.size)
 clear hb y1 sB2 C2
 obtain ⟨A, hA⟩ : ∃ A, (aQ xs).any (ik rs) = A := ⟨_, rfl⟩
 rw [hA]
 have HA2 := hid hA
 clear hA
 cases A
 all_goals
  go_wp2
  go_ret
  exact ⟨ai (by rw [HTE.out, HA.out, HA2.out]; rfl), BV.out.trans (HB4.out.mono BV.out.size)⟩
end
section
open Go.RowKit Go.Shelf
attribute [local go_sem] Oper.semAt_some

def l7 : ZV := ⟨⟨[], []⟩, none, 0⟩
theorem putZ {W : World} {b : Nat} {t : TypeId} {c0 c1 : Value} (v0 v1 : Value) (h : W.heap[b]? = some (.cells #[c0, c1] t)) :
  (((W.setCell ⟨b, 0, none⟩ (v0)).setCell ⟨b, 1, none⟩ (v1))).heap[b]? = some (.cells #[v0, v1] t) := by
 have e := eG (eG h 0 v0) 1 v1
 simp only [List.setIfInBounds_toArray, List.set_cons_zero, List.set_cons_succ] at e
 exact e
theorem Pt (W : World) (b : Nat) (v0 v1 : Value) : W.grownBy ((W.setCell ⟨b, 0, none⟩ (v0)).setCell ⟨b, 1, none⟩ (v1)) (some b) := (grown_put (grown_put (nR W b) 0 v0) 1 v1)
theorem yP {w W : World} {N D : Nat} {a : Act} {x : ZV} {b : Bool} {R : Ending → World → Prop} (hN : w.heap.size = N) (h4 : a.tmps.getD 4 undef = .pointer (some ⟨N + 1, 0, none⟩)) (h5 : a.tmps.getD 5 undef = .pointer (some ⟨N + 1 + 1, 0, none⟩)) (hd : a.defers = [{ target := .collected D, args := #[] }])
  (i1 : W.heap[N + 1]? = some (.cells (bL x).toArray 44)) (i2 : W.heap[N + 1 + 1]? = some (.cells #[.bool b] 4)) (hD : N + 1 + 1 < D) (hK : W.heap[D]? = some (.deferred (some []))) (hB : Below w.heap.size w W) (hR : ∀ w', Below w.heap.size w w' → R (.returned (.tuple #[zvV x, .bool b])) w') :
  bodyPostM Fence.wide 4 Tryz.prog Tryz.f117 R .ret a W := by
 obtain ⟨tm, df⟩ := a
 dsimp only at h4 h5 hd
 subst hd
 rw [Array.getD_eq_getD_getElem?] at h4 h5
 have hX := belowK_b (w := w) (Nat.le_refl _) W D _ (.deferred none) (by omega) hK rfl rfl
 have j1 : (W.putObj D (.deferred none)).heap[N + 1]? = some (.cells (bL x).toArray 44) := (World.putObj_heap_other (by omega)).trans i1
 have j2 : (W.putObj D (.deferred none)).heap[N + 1 + 1]? = some (.cells #[.bool b] 4) := (World.putObj_heap_other (by omega)).trans i2
 refine ⟨by simp, .inl ⟨_, _, rfl, run_takeDeferred hK, ?_⟩⟩
 have BX := hid (hR _ (hB.trans hX))
 generalize W.putObj D (.deferred none) = X at j1 j2 BX ⊢
 obtain ⟨⟨y0, _⟩, ⟨y1, _⟩, -⟩ := cp2 (aj j1)
 have b0 := (aa (aj (vs := [.bool b]) j2) 0 rfl).1
 clear j1 j2 i1 i2 hK hB hX hR
 refine ⟨.tuple #[zvV x, .bool b], ?_, BX.out⟩
 simp [results, Tryz.results117, go_sem, *]
theorem yO (gf hf : Nat) (lb hc : Array Value) (p : ZV → Bool) (xs : List ZV) (w : World)
  (eg : ∀ args w, (callFunc gf args).run Tryz.prog w = .ok (.enter gf args) w) (eh : ∀ args w, (callFunc hf args).run Tryz.prog w = .ok (.enter hf args) w)
  (hseq : ∀ w1, Below w.heap.size w w1 → rR Fence.wide 3 Tryz.prog gf lb (fun x : ZV => #[zvV x]) (Below w.heap.size) (fun ys => ys = xs) (fun pre => pre <+: xs) w1)
  (hp : ∀ x ∈ xs, ∀ W, Below w.heap.size w W → Calls Tryz.prog hf (#[zvV x] ++ hc) W fun e W' => e = .returned (.bool (p x)) ∧ Below W.heap.size W W') :
  Calls Tryz.prog 117 #[.func (.func gf) #[] lb, .func (.func hf) #[] hc] w
   fun e w' => e = .returned (.tuple #[zvV ((xs.find? p).getD l7), .bool (xs.any p)]) ∧ Below w.heap.size w w' := by
 refine (callsIn_wide (n := 4)).1 ?_
 refine callsIn_of_wp_marks Tryz.func117 rfl trivial ?_ rfl
 simp only [Tryz.ntmps117, List.size_toArray, List.length_cons, List.length_nil, Nat.reduceAdd, Nat.reduceSub, Array.replicate_succ, Array.replicate_zero, List.push_toArray, List.append_toArray, List.nil_append, List.cons_append]
 have HP := hid hp
 have HQ := hid hseq
 clear hp hseq
 gi_wp2
 obtain ⟨N, hN⟩ : ∃ N, w.heap.size = N := ⟨_, rfl⟩
 obtain ⟨V, hV⟩ : ∃ V, (((w.alloc (.cells #[.func (.func hf) #[] hc] 161)).alloc (.cells (bL l7).toArray 44)).alloc (.cells #[.bool false] 4)) = V := ⟨_, rfl⟩
 rw [show (((w.alloc (.cells #[.func (.func hf) #[] hc] 161)).alloc (.cells #[.string ⟨#[]⟩, .slice none 0 0] 44)).alloc (.cells #[.bool false] 4)) = V from hV]
 have vS : V.heap.size = N + 3 := by rw [← hV, ← hN]; simp
 have v0 : V.heap[N]? = some (.cells #[.func (.func hf) #[] hc] 161) := by
  rw [← hV, Below.heap_alloc _ _ _ (by simp; omega), Below.heap_alloc _ _ _ (by simp; omega), ← hN]; exact World.alloc_heap_new w _
 have v1 : V.heap[N + 1]? = some (.cells (bL l7).toArray 44) := by
  rw [← hV, Below.heap_alloc _ _ _ (by simp; omega), ← hN]
  have := World.alloc_heap_new (w.alloc (.cells #[.func (.func hf) #[] hc] 161)) (.cells (bL l7).toArray 44)
  rwa [World.size_alloc] at this
 have v2 : V.heap[N + 1 + 1]? = some (.cells #[.bool false] 4) := by
  rw [← hV, ← hN]
  have := World.alloc_heap_new ((w.alloc (.cells #[.func (.func hf) #[] hc] 161)).alloc (.cells (bL l7).toArray 44)) (.cells #[.bool false] 4)
  rwa [World.size_alloc, World.size_alloc] at this
 have vB : Below w.heap.size w V := by
  rw [← hV]; exact (((q4B _ w).alloc (Nat.le_refl _) _).alloc (by simp) _).alloc (by simp; omega) _
 rw [hN]
 refine jF rfl (by omega) (gf := gf) (lb := lb) rfl trivial eg
  (vR (HQ.out V vB)) (fun h k => h.trans k) (belowK_b (by omega)) (q4B _ _) (fun _ => rfl)
  (fun (pre : List ZV) W => (W.heap[N]? = some (.cells #[.func (.func hf) #[] hc] 161) ∧ W.heap[N + 1]? = some (.cells (bL l7).toArray 44) ∧ W.heap[N + 1 + 1]? = some (.cells #[.bool false] 4)) ∧ Below w.heap.size w W ∧ pre.any p = false)
  (fun c (pre : List ZV) W => c = .ret ∧ (∃ x, W.heap[N + 1]? = some (.cells (bL x).toArray 44) ∧ (pre <+: xs → xs.find? p = some x)) ∧ W.heap[N + 1 + 1]? = some (.cells #[.bool true] 4) ∧ Below w.heap.size w W ∧ (pre <+: xs → xs.any p = true))
  (dx.and (dx.and (bu (by omega)) (dx.and (bu (by omega)) (bu (by omega)))) (dx.and (gu (Nat.le_refl _) (by omega)) (bU _)))
  (fun c => dx.and (bU _) (dx.and (xN fun x => dx.and (bu (by omega)) (bU _)) (dx.and (bu (by omega)) (dx.and (gu (Nat.le_refl _) (by omega)) (bU _)))))
  ⟨⟨v0, v1, v2⟩, vB, rfl⟩
  (fun x a' W => ∃ Bx, N + 1 + 1 < Bx ∧ W.heap[Bx]? = some (.cells (bL x).toArray 44 (0, 0)) ∧ a' = { tmps := #[.func (.func gf) #[] lb, .func (.func hf) #[] hc, undef, .pointer (some ⟨N, 0, none⟩), .pointer (some ⟨N + 1, 0, none⟩), .pointer (some ⟨N + 1 + 1, 0, none⟩), .pointer (some ⟨Bx, 0, none⟩), undef, .func (.func gf) #[] lb, zvV x, undef, undef, undef, undef, undef], defers := [] })
  ?hAx ?assign ?body ?done ?stop
 case hAx =>
  rintro x a' _ X Y row ⟨Bx, q1, q2, q3⟩ hg hr
  refine ⟨Bx, q1, ?_, q3⟩
  rw [hg.block Bx (q4A.1 q2).1 (fun e => by obtain ⟨_, o, ho, hc⟩ := hr Bx e.symm; rw [q2] at ho; cases ho; simp [Obj.isCells] at hc)]
  exact q2
 case assign =>
  rintro l pre x W K ⟨⟨i0, i1, i2⟩, iB, iP⟩ sz hK
  rw [vS] at sz
  have KB := hid ((q4B W.heap.size W).alloc (Nat.le_refl _) (.cells (bL x).toArray 44))
  have R := hid (hK { tmps := #[.func (.func gf) #[] lb, .func (.func hf) #[] hc, undef, .pointer (some ⟨N, 0, none⟩), .pointer (some ⟨N + 1, 0, none⟩), .pointer (some ⟨N + 1 + 1, 0, none⟩), .pointer (some ⟨W.heap.size, 0, none⟩), undef, .func (.func gf) #[] lb, zvV x, undef, undef, undef, undef, undef], defers := [] } (W.alloc (.cells (bL x).toArray 44)) ((KeepsOthers.alloc _ _).from _) (KB.out.mono iB.size)
   ⟨⟨(KB.out.block _ (q4A.1 i0).1).trans i0, (KB.out.block _ (q4A.1 i1).1).trans i1, (KB.out.block _ (q4A.1 i2).1).trans i2⟩, iB.alloc iB.size _, iP⟩ ⟨W.heap.size, by omega, World.alloc_heap_new W _, rfl⟩)
  clear hK i0 i1 i2
  gi_wp2
  exact R.out
 case body =>
  rintro l pre x a' W hl ⟨r, hr⟩ ⟨⟨i0, i1, i2⟩, iB, iP⟩ ⟨Bx, hBx, hX, rfl⟩ hpx sz
  have HC := hid (HP.out x (iw hpx) W iB)
  obtain ⟨⟨x0, _⟩, ⟨x1, _⟩, -⟩ := cp2 (aj hX)
  have f0 := (aa (aj (vs := [.func (.func hf) #[] hc]) i0) 0 rfl).1
  have sx := (q4A.1 hX).1
  have s0 := (q4A.1 i0).1
  have HX := hid hX
  have I0 := hid i0
  have I1 := hid i1
  have I2 := hid i2
  have IB := hid iB
  have HPX := hid hpx
  clear hX i0 i1 i2 iB hr hpx
  obtain ⟨C, hC⟩ : ∃ C, p x = C := ⟨_, rfl⟩
  rw [hC] at HC
  have HCC := hid hC
  have IP := hid iP
  have SV : Hid (V.heap.size = N + 3 ∧ w.heap.size = N) := ⟨vS, hN⟩
  clear hC iP
  cases C
  case false =>
   gi_wp2_with fail
   refine ⟨trivial, (CallsIn.inRound l (callsIn_wide.2 HC.out)).mono ?_⟩
   rintro e w1 ⟨rfl, hb⟩
   gi_wp2
   refine ⟨(dI hb).from _, hb.mono IB.out.size, ⟨(hb.block _ (q4A.1 I0.out).1).trans I0.out, (hb.block _ (q4A.1 I1.out).1).trans I1.out, (hb.block _ (q4A.1 I2.out).1).trans I2.out⟩, IB.out.trans (hb.mono IB.out.size), ?_⟩
   rw [List.any_append, IP.out]; simp [HCC.out]
  case true =>
   gi_wp2_with fail
   refine ⟨trivial, (CallsIn.inRound l (callsIn_wide.2 HC.out)).mono ?_⟩
   rintro e w1 ⟨rfl, hb⟩
   have HB := hid hb
   have CX := ah (aj HX.out) hb
   obtain ⟨y0, _⟩ := aa CX 0 rfl; obtain ⟨y1, _⟩ := aa CX 1 rfl
   have CR := ah (aj I1.out) hb
   obtain ⟨r0, q0⟩ := aa CR 0 rfl; obtain ⟨r1, q1⟩ := aa CR 1 rfl
   have CB := ah (aj (vs := [.bool false]) I2.out) hb
   obtain ⟨b0, b1⟩ := aa CB 0 rfl
   have sR := CR.1
   have sB := CB.1
   clear hb CX CR CB
   gi_wp2
   have G1 := Pt w1 (N + 1) (af x.z.name) (.slice x.a x.z.eras.length x.c)
   have hb := HB.out
   have e1 := (hb.block _ (q4A.1 I1.out).1).trans I1.out
   have e2 := (hb.block _ (q4A.1 I2.out).1).trans I2.out
   have p1 := putZ (af x.z.name) (.slice x.a x.z.eras.length x.c) e1
   have p2 := (G1.block (N + 1 + 1) (q4A.1 e2).1 (by simp)).trans e2
   have p3 := xE (.bool true) p2
   have G2 := grownBy_setCell' ((w1.setCell ⟨N + 1, 0, none⟩ (af x.z.name)).setCell ⟨N + 1, 1, none⟩ (.slice x.a x.z.eras.length x.c)) (N + 1 + 1) (.bool true)
   have B1 := IB.out.trans (hb.mono IB.out.size)
   have B2 := B1.grown G1 B1.size (fun k e => by cases e; have := SV.out; omega)
   have B3 := B2.grown G2 B2.size (fun k e => by cases e; have := SV.out; omega)
   refine ⟨(((dI hb).trans (fQ G1 e1)).trans (fQ G2 p2)).from _, rfl, ⟨x, ?_, fun q => (lm q IP.out HCC.out).1⟩, p3, B3, fun q => (lm q IP.out HCC.out).2⟩
   exact (G2.block (N + 1) (q4A.1 p1).1 (by simp)).trans p1
 case done =>
  rintro D ys W hD rfl ⟨⟨i0, i1, i2⟩, iB, iP⟩ hK
  rw [vS] at hD
  have hD0 : N + 1 + 1 < D := by omega
  have CR := aj i1
  have CB := aj (vs := [.bool false]) i2
  obtain ⟨⟨r0, q0⟩, ⟨r1, q1⟩, -⟩ := cp2 CR
  obtain ⟨b0, b1⟩ := aa CB 0 rfl
  have sR := CR.1
  have sB := CB.1
  have HK := hid hK
  have IB := hid iB
  have IP := hid iP
  have I1 := hid i1
  have I2 := hid i2
  clear i0 i1 i2 CR CB hK iB iP v0 v1 v2 vB hV vS eg
  gi_wp2
  have G0 := World.grownBy_alloc W (.cells (bL l7).toArray 44) none
  have G1 := Pt W (N + 1) (.string ⟨#[]⟩) (.slice none 0 0)
  have p1 := putZ (.string ⟨#[]⟩) (.slice none 0 0) I1.out
  have p2 := (G1.block (N + 1 + 1) (q4A.1 I2.out).1 (by simp)).trans I2.out
  have p3 := xE (.bool false) p2
  have G2 := grownBy_setCell' ((W.setCell ⟨N + 1, 0, none⟩ (.string ⟨#[]⟩)).setCell ⟨N + 1, 1, none⟩ (.slice none 0 0)) (N + 1 + 1) (.bool false)
  have p4 := (G2.block (N + 1) (q4A.1 p1).1 (by simp)).trans p1
  have d1 := (G1.block D (q4A.1 HK.out).1 (by simp; omega)).trans HK.out
  have d2 := (G2.block D (q4A.1 d1).1 (by simp; omega)).trans d1
  have B2 := IB.out.grown G1 IB.out.size (fun k e => by cases e; omega)
  have B3 := B2.grown G2 B2.size (fun k e => by cases e; omega)
  have B4 := B3.alloc B3.size (.cells (bL l7).toArray 44)
  refine yP (x := l7) (b := false) hN rfl rfl rfl ((Below.heap_alloc _ _ _ (q4A.1 p4).1).trans p4) ((Below.heap_alloc _ _ _ (q4A.1 p3).1).trans p3) hD0 ((Below.heap_alloc _ _ _ (q4A.1 d2).1).trans d2) B4 (fun w' hb => ⟨?_, hb⟩)
  rw [IP.out, qD IP.out]; rfl
 case stop =>
  rintro D c pre W hD hpre ⟨rfl, ⟨x, i1, hx⟩, i2, iB, hA⟩ hK
  rw [vS] at hD
  have hA' := hA hpre
  have hx' := hx hpre
  have E := hid (yP (R := fun e w' => e = .returned (.tuple #[zvV ((xs.find? p).getD l7), .bool (xs.any p)]) ∧ Below w.heap.size w w') (a := { tmps := #[.func (.func gf) #[] lb, .func (.func hf) #[] hc, undef, .pointer (some ⟨N, 0, none⟩), .pointer (some ⟨N + 1, 0, none⟩), .pointer (some ⟨N + 1 + 1, 0, none⟩), undef, undef, .func (.func gf) #[] lb, undef, undef, undef, undef, undef, undef], defers := [{ target := .collected D, args := #[] }] }) hN rfl rfl rfl i1 i2 (show N + 1 + 1 < D by omega) hK iB (fun w' hb => ⟨by rw [hA', hx']; rfl, hb⟩))
  clear v0 v1 v2 vB hV vS i1 i2 hK iB hA hA' hx hx' eg
  gi_wp2
  exact E.out
theorem Py (gf hf : Nat) (lb hc : Array Value) (p : ZV → Bool) (xs : List ZV) (w : World)
  (eg : ∀ args w, (callFunc gf args).run Tryz.prog w = .ok (.enter gf args) w) (eh : ∀ args w, (callFunc hf args).run Tryz.prog w = .ok (.enter hf args) w)
  (hseq : ∀ w1, Below w.heap.size w w1 → rR Fence.wide 3 Tryz.prog gf lb (fun x : ZV => #[zvV x]) (Below w.heap.size) (fun ys => ys = xs) (fun pre => pre <+: xs) w1)
  (hp : ∀ x ∈ xs, ∀ W, Below w.heap.size w W → Calls Tryz.prog hf (#[zvV x] ++ hc) W fun e W' => e = .returned (.bool (p x)) ∧ Below W.heap.size W W') :
  Calls Tryz.prog 106 #[.func (.func gf) #[] lb, .func (.func hf) #[] hc] w
   fun e w' => e = .returned (.bool (xs.any p)) ∧ Below w.heap.size w w' := by
 have C := hid (yO gf hf lb hc p xs w eg eh hseq hp)
 clear hseq hp
 obtain ⟨x, hx⟩ : ∃ x, (xs.find? p).getD l7 = x := ⟨_, rfl⟩
 rw [hx] at C
 clear hx
 go_enter Tryz.func106, Tryz.ntmps106
 go_wp2_with fail
 refine C.out.mono ?_
 rintro e w1 ⟨rfl, hb⟩
 have HB := hid hb
 clear hb
 go_wp2
 go_ret
 exact ⟨rfl, HB.out.alloc HB.out.size _⟩
end
section
open Go.RowKit Go.Shelf
attribute [local go_sem] Oper.semAt_some

theorem Ip (x : Sx.Lk) (B : Nat) (nm : Tx.Bs) (w : World) (hB : B < w.heap.size) (h : w.cell? ⟨B, 0, none⟩ = some (af nm)) :
  Calls Tryz.prog 116 #[kS x, .pointer (some ⟨B, 0, none⟩)] w fun e w' => e = .returned (.bool (x.name == nm)) ∧ Below w.heap.size w w' := by
 have BV := hid ((q4B w.heap.size w).alloc (Nat.le_refl _) (.cells (aZ x).toArray 35))
 have XV := aC w (aZ x) 35
 obtain ⟨x0, _⟩ := aa XV 1 rfl
 have y0 := (BV.out.cell (p := ⟨B, 0, none⟩) hB).trans h
 have sx := XV.1
 have sB : B < (w.alloc (.cells (aZ x).toArray 35)).heap.size := q4N hB BV.out.size
 clear XV
 go_enter Tryz.func116, Tryz.ntmps116
 go_wp2
 go_ret
 exact ⟨rfl, BV.out⟩
theorem Iq (x : ZV) (B : Nat) (nm : Tx.Bs) (w : World) (hB : B < w.heap.size) (h : w.cell? ⟨B, 0, none⟩ = some (af nm)) :
  Calls Tryz.prog 118 #[zvV x, .pointer (some ⟨B, 0, none⟩)] w fun e w' => e = .returned (.bool (x.z.name == nm)) ∧ Below w.heap.size w w' := by
 have BV := hid ((q4B w.heap.size w).alloc (Nat.le_refl _) (.cells (bL x).toArray 44))
 have XV := aC w (bL x) 44
 obtain ⟨x0, _⟩ := aa XV 0 rfl
 have y0 := (BV.out.cell (p := ⟨B, 0, none⟩) hB).trans h
 have sx := XV.1
 have sB : B < (w.alloc (.cells (bL x).toArray 44)).heap.size := q4N hB BV.out.size
 clear XV
 go_enter Tryz.func118, Tryz.ntmps118
 go_wp2
 go_ret
 exact ⟨rfl, BV.out⟩
/- the name that a name stands for; the zone of that name -/
def eY (ls : List Sx.Lk) (nm : Tx.Bs) : Tx.Bs := if ls.any (fun l => l.name == nm) = true then ((ls.find? fun l => l.name == nm).getD nG).to else nm
def lh (xs : List ZV) (nm : Tx.Bs) : ZV := (xs.find? fun p => p.z.name == nm).getD l7
def gZ (xs : List ZV) (nm : Tx.Bs) : Bool := xs.any fun p => p.z.name == nm
theorem KJ (nm : Tx.Bs) (zs : List Sx.Zn) (ls : List Sx.Lk) (xs : List ZV) (ra za la : Option Addr) (n1 rcap zcap lcap : Nat) (w : World) (h2 : kC w (.slice za xs.length zcap) zs xs) (h3 : fJ w (.slice la ls.length lcap) ls)
  (hx : xs.length ≤ 10000) (hl : ls.length ≤ 10000) :
  Calls Tryz.prog 54 #[.agg #[.slice ra n1 rcap, .slice za xs.length zcap, .slice la ls.length lcap], af nm] w fun e w' => e = .returned (.tuple #[zvV (lh xs (eY ls nm)), .bool (gZ xs (eY ls nm))]) ∧ Below w.heap.size w w' := by
 have hzz : (ZV.z l7) = ⟨[], []⟩ := rfl
 obtain ⟨V, hV⟩ : ∃ V, ((w.alloc (.cells #[.slice ra n1 rcap, .slice za xs.length zcap, .slice la ls.length lcap] 26)).alloc (.cells #[af nm] 9)).alloc (.cells #[.string ⟨#[]⟩, .slice none 0 0] 44) = V := ⟨_, rfl⟩
 have XS := aH (aH (aC w [.slice ra n1 rcap, .slice za xs.length zcap, .slice la ls.length lcap] 26) (.cells #[af nm] 9)) (.cells #[.string ⟨#[]⟩, .slice none 0 0] 44)
 have XN := aH (aC (w.alloc (.cells #[.slice ra n1 rcap, .slice za xs.length zcap, .slice la ls.length lcap] 26)) [af nm] 9) (.cells #[.string ⟨#[]⟩, .slice none 0 0] 44)
 have XZ := aC ((w.alloc (.cells #[.slice ra n1 rcap, .slice za xs.length zcap, .slice la ls.length lcap] 26)).alloc (.cells #[af nm] 9)) [.string ⟨#[]⟩, .slice none 0 0] 44
 have BV : Below w.heap.size w V := by rw [← hV]; exact (((q4B _ w).alloc (Nat.le_refl _) _).alloc (by simp) _).alloc (by simp; omega) _
 obtain ⟨N, hN⟩ : ∃ N, w.heap.size = N := ⟨_, rfl⟩
 have hV' : ((w.alloc (.cells [.slice ra n1 rcap, .slice za xs.length zcap, .slice la ls.length lcap].toArray 26)).alloc (.cells [af nm].toArray 9)).alloc (.cells [.string ⟨#[]⟩, .slice none 0 0].toArray 44) = V := hV
 have hV2 : ((w.alloc (.cells [.slice ra n1 rcap, .slice za xs.length zcap, .slice la ls.length lcap].toArray 26)).alloc (.cells #[af nm] 9)).alloc (.cells #[.string ⟨#[]⟩, .slice none 0 0] 44) = V := hV
 have hV3 : ((w.alloc (.cells #[.slice ra n1 rcap, .slice za xs.length zcap, .slice la ls.length lcap] 26)).alloc (.cells [af nm].toArray 9)).alloc (.cells #[.string ⟨#[]⟩, .slice none 0 0] 44) = V := hV
 have hV4 : ((w.alloc (.cells #[.slice ra n1 rcap, .slice za xs.length zcap, .slice la ls.length lcap] 26)).alloc (.cells #[af nm] 9)).alloc (.cells [.string ⟨#[]⟩, .slice none 0 0].toArray 44) = V := hV
 rw [hV2, hN] at XS
 rw [hV3] at XN
 rw [hV4] at XZ
 simp only [World.size_alloc, hN] at XN XZ
 have sN := XN.1
 have sZ := XZ.1
 obtain ⟨s1, _⟩ := aa XS 1 rfl
 obtain ⟨s2, _⟩ := aa XS 2 rfl
 obtain ⟨c0, _⟩ := aa XN 0 rfl
 have R2 := dP h2 BV
 have R3 := au h3 BV
 have e1 : ∀ args w, (callFunc 116 args).run Tryz.prog w = .ok (.enter 116 args) w := enters_of Tryz.func116 (by kernel_rfl) rfl
 have e2 : ∀ args w, (callFunc 118 args).run Tryz.prog w = .ok (.enter 118 args) w := enters_of Tryz.func118 (by kernel_rfl) rfl
 have eL : ∀ args w, (callFunc 160 args).run Tryz.prog w = .ok (.enter 160 args) w := enters_of Tryz.func160 (by kernel_rfl) rfl
 have eZ : ∀ args w, (callFunc 161 args).run Tryz.prog w = .ok (.enter 161 args) w := enters_of Tryz.func161 (by kernel_rfl) rfl
 have C1 := hid (fun (W : World) (hW : Below V.heap.size V W) =>
  let hWL : Below W.heap.size W (W.alloc (.cells #[.slice la ls.length lcap] 24)) := (q4B W.heap.size W).alloc (Nat.le_refl _) _
  let hVL : Below V.heap.size V (W.alloc (.cells #[.slice la ls.length lcap] 24)) := hW.trans (hWL.mono hW.size)
  yM 160 116 #[.pointer (some ⟨W.heap.size, 0, none⟩)] #[.pointer (some ⟨N + 1, 0, none⟩)] (fun l => l.name == nm) ls (W.alloc (.cells #[.slice la ls.length lcap] 24)) eL e1
   (fun w1 hw1 => De 3 W.heap.size (by omega) ls la lcap (W.alloc (.cells #[.slice la ls.length lcap] 24)) w1 (au R3 hVL) hl ((hw1.cell (p := ⟨W.heap.size, 0, none⟩) (by simp)).trans (aa (aC W [.slice la ls.length lcap] 24) 0 rfl).1) (q4N (by simp) hw1.size) hw1)
   (fun x _ W' hW' => by
    have hh := hVL.trans (hW'.mono hVL.size)
    exact Ip x (N + 1) nm W' (q4N sN hh.size) ((hh.cell (p := ⟨N + 1, 0, none⟩) sN).trans c0)))
 have C2 := hid (fun (W : World) (nm : Tx.Bs) (hW : Below w.heap.size w W) (hc : W.cell? ⟨N + 1, 0, none⟩ = some (af nm)) (hl : N + 1 < W.heap.size) =>
  let hWL : Below W.heap.size W (W.alloc (.cells #[.slice za xs.length zcap] 23)) := (q4B W.heap.size W).alloc (Nat.le_refl _) _
  let hVL : Below w.heap.size w (W.alloc (.cells #[.slice za xs.length zcap] 23)) := hW.trans (hWL.mono hW.size)
  yO 161 118 #[.pointer (some ⟨W.heap.size, 0, none⟩)] #[.pointer (some ⟨N + 1, 0, none⟩)] (fun p => p.z.name == nm) xs (W.alloc (.cells #[.slice za xs.length zcap] 23)) eZ e2
   (fun w1 hw1 => Df 3 W.heap.size (by omega) xs za zcap (W.alloc (.cells #[.slice za xs.length zcap] 23)) w1 (dP h2 hVL).rd hx ((hw1.cell (p := ⟨W.heap.size, 0, none⟩) (by simp)).trans (aa (aC W [.slice za xs.length zcap] 23) 0 rfl).1) (q4N (by simp) hw1.size) hw1)
   (fun x _ W' hW' => by
    have hh := hWL.trans (hW'.mono hWL.size)
    exact Iq x (N + 1) nm W' (q4N hl hh.size) ((hh.cell (p := ⟨N + 1, 0, none⟩) hl).trans hc)))
 have HBV := hid BV
 have HXS := hid XS
 have HXN := hid XN
 have HXZ := hid XZ
 have HNN := hid hN
 have HV := hid (q4B V.heap.size V)
 clear R2 R3 h2 h3 hx hl e1 e2 eL eZ hV' hV2 hV3 hV4 BV XS XN XZ c0 sZ
 go_enter Tryz.func54, Tryz.ntmps54
 simp only [hN]
 go_wp2_with fail
 refine (Dc _ _ _ _).mono ?_
 rintro e w1 ⟨rfl, rfl⟩
 go_wp2_with fail
 refine (C1.out V HV.out).mono ?_
 rintro e w2 ⟨rfl, hb⟩
 have HB2 : Hid (Below V.heap.size V w2) := ((q4B V.heap.size V).alloc (Nat.le_refl _) _).trans (hb.mono (by simp))
 obtain ⟨x, hx⟩ : ∃ x, (ls.find? fun l => l.name == nm).getD nG = x := ⟨_, rfl⟩
 obtain ⟨A, hA⟩ : ∃ A, (ls.any fun l => l.name == nm) = A := ⟨_, rfl⟩
 rw [hx, hA]
 have HNT : Hid (eY ls nm = if A = true then x.to else nm) := by show _ = _; unfold eY; rw [hx, hA]
 have B2 : Hid (Below w.heap.size w w2) := HBV.out.trans (HB2.out.mono HBV.out.size)
 have S2 : Hid (ag w2 N [.slice ra n1 rcap, .slice za xs.length zcap, .slice la ls.length lcap]) := ah HXS.out HB2.out
 have N2 : Hid (ag w2 (N + 1) [af nm]) := ah HXN.out HB2.out
 have Z2 : Hid (ag w2 (N + 1 + 1) [.string ⟨#[]⟩, .slice none 0 0]) := ah HXZ.out HB2.out
 have sW := S2.out.1
 have nW := N2.out.1
 have zW := Z2.out.1
 obtain ⟨y1, _⟩ := aa S2.out 1 rfl
 obtain ⟨m0, g0⟩ := aa N2.out 0 rfl
 obtain ⟨⟨q0, k0⟩, ⟨q1, k1⟩, -⟩ := cp2 Z2.out
 obtain ⟨K, hK⟩ : ∃ K, w2.alloc (.cells #[af x.to, af x.name] 35) = K := ⟨_, rfl⟩
 have HK := hid hK
 clear hb hx hA C1 HB2 s1 s2 sN HV hK
 cases A
 case false =>
  have HN2 : Hid (eY ls nm = nm) := by show _ = _; rw [HNT.out]; rfl
  go_wp2_with fail
  obtain ⟨W, hW⟩ : ∃ W, w2.alloc (.cells #[.string ⟨x.to.toArray⟩, .string ⟨x.name.toArray⟩] 35) = W := ⟨_, rfl⟩
  rw [hW]
  have BW : Hid (Below w.heap.size w W) := by show Below _ _ _; rw [← hW]; exact B2.out.alloc B2.out.size _
  have NW : Hid (ag W (N + 1) [af nm]) := by show ag _ _ _; rw [← hW]; exact aH N2.out _
  have SW : Hid (ag W N [.slice ra n1 rcap, .slice za xs.length zcap, .slice la ls.length lcap]) := by show ag _ _ _; rw [← hW]; exact aH S2.out _
  have ZW : Hid (ag W (N + 1 + 1) [.string ⟨#[]⟩, .slice none 0 0]) := by show ag _ _ _; rw [← hW]; exact aH Z2.out _
  have CC := hid (C2.out W nm BW.out (aa NW.out 0 rfl).1 NW.out.1)
  clear hW S2 N2 Z2 sW nW zW y1 m0 g0 q0 k0 q1 k1 C2 HXS HXN HXZ HBV B2
  refine (wm _ _ _ _).mono ?_
  rintro e w3 ⟨rfl, rfl⟩
  go_wp2_with fail
  refine CC.out.mono ?_
  rintro e w4 ⟨rfl, hb⟩
  have HB4 : Hid (Below W.heap.size W w4) := ((q4B W.heap.size W).alloc (Nat.le_refl _) _).trans (hb.mono (by simp))
  have Z4 : Hid (ag w4 (N + 1 + 1) [.string ⟨#[]⟩, .slice none 0 0]) := ah ZW.out HB4.out
  have zW := Z4.out.1
  obtain ⟨⟨q0, k0⟩, ⟨q1, k1⟩, -⟩ := cp2 Z4.out
  obtain ⟨y, hy⟩ : ∃ y, (xs.find? fun p => p.z.name == nm).getD l7 = y := ⟨_, rfl⟩
  obtain ⟨C, hC⟩ : ∃ C, (xs.any fun p => p.z.name == nm) = C := ⟨_, rfl⟩
  rw [hy, hC]
  have E1 : Hid (lh xs (eY ls nm) = y) := by show _ = _; unfold lh; rw [HN2.out, hy]
  have E2 : Hid (gZ xs (eY ls nm) = C) := by show _ = _; unfold gZ; rw [HN2.out, hC]
  have BF : Hid (Below w.heap.size w w4) := BW.out.trans (HB4.out.mono BW.out.size)
  clear hb hy hC CC HN2 HNT SW NW ZW
  go_wp2
  refine bodyPost_ret (v := .tuple #[zvV y, .bool C]) (by simp [results, Tryz.results54, go_sem, zvV, *]) rfl ⟨by rw [E1.out, E2.out], ?_⟩
  have h1 : w.heap.size ≤ N + 1 + 1 := by rw [HNN.out]; omega
  have h2 := ax (ax BF.out h1 0 (.string ⟨y.z.name.toArray⟩)) h1 1 (.slice y.a y.z.eras.length y.c)
  rw [HNN.out] at h2
  exact h2
 case true =>
  have HN2 : Hid (eY ls nm = x.to) := by show _ = _; rw [HNT.out]; rfl
  go_wp2_with fail
  obtain ⟨W, hW⟩ : ∃ W, (w2.setCell ⟨N + 1, 0, none⟩ (.string ⟨x.to.toArray⟩)).alloc (.cells #[.string ⟨x.to.toArray⟩, .string ⟨x.name.toArray⟩] 35) = W := ⟨_, rfl⟩
  rw [hW]
  have BW : Hid (Below w.heap.size w W) := by show Below _ _ _; rw [← hW]; exact (ax B2.out (by rw [HNN.out]; omega) 0 _).alloc (by simp; exact B2.out.size) _
  have NW : Hid (ag W (N + 1) [af x.to]) := by show ag _ _ _; rw [← hW]; exact aH (aS N2.out 0 _ (by simp)) _
  have SW : Hid (ag W N [.slice ra n1 rcap, .slice za xs.length zcap, .slice la ls.length lcap]) := by show ag _ _ _; rw [← hW]; exact aH (bz S2.out (by omega)) _
  have ZW : Hid (ag W (N + 1 + 1) [.string ⟨#[]⟩, .slice none 0 0]) := by show ag _ _ _; rw [← hW]; exact aH (bz Z2.out (by omega)) _
  have CC := hid (C2.out W x.to BW.out (aa NW.out 0 rfl).1 NW.out.1)
  clear hW S2 N2 Z2 sW nW zW y1 m0 g0 q0 k0 q1 k1 C2 HXS HXN HXZ HBV B2
  refine (wm _ _ _ _).mono ?_
  rintro e w3 ⟨rfl, rfl⟩
  go_wp2_with fail
  refine CC.out.mono ?_
  rintro e w4 ⟨rfl, hb⟩
  have HB4 : Hid (Below W.heap.size W w4) := ((q4B W.heap.size W).alloc (Nat.le_refl _) _).trans (hb.mono (by simp))
  have Z4 : Hid (ag w4 (N + 1 + 1) [.string ⟨#[]⟩, .slice none 0 0]) := ah ZW.out HB4.out
  have zW := Z4.out.1
  obtain ⟨⟨q0, k0⟩, ⟨q1, k1⟩, -⟩ := cp2 Z4.out
  obtain ⟨y, hy⟩ : ∃ y, (xs.find? fun p => p.z.name == x.to).getD l7 = y := ⟨_, rfl⟩
  obtain ⟨C, hC⟩ : ∃ C, (xs.any fun p => p.z.name == x.to) = C := ⟨_, rfl⟩
  rw [hy, hC]
  have E1 : Hid (lh xs (eY ls nm) = y) := by show _ = _; unfold lh; rw [HN2.out, hy]
  have E2 : Hid (gZ xs (eY ls nm) = C) := by show _ = _; unfold gZ; rw [HN2.out, hC]
  have BF : Hid (Below w.heap.size w w4) := BW.out.trans (HB4.out.mono BW.out.size)
  clear hb hy hC CC HN2 HNT SW NW ZW
  go_wp2
  refine bodyPost_ret (v := .tuple #[zvV y, .bool C]) (by simp [results, Tryz.results54, go_sem, zvV, *]) rfl ⟨by rw [E1.out, E2.out], ?_⟩
  have h1 : w.heap.size ≤ N + 1 + 1 := by rw [HNN.out]; omega
  have h2 := ax (ax BF.out h1 0 (.string ⟨y.z.name.toArray⟩)) h1 1 (.slice y.a y.z.eras.length y.c)
  rw [HNN.out] at h2
  exact h2
end
section
open Go.RowKit
theorem aR (w : World) (a : Array Value) (t : TypeId) : ∃ y, w.alloc (.cells a t) = y ∧ ag y w.heap.size a.toList ∧ Below w.heap.size w y ∧ y.heap.size = w.heap.size + 1 :=
 ⟨_, rfl, by have := aC w a.toList t; simpa using this, (q4B _ w).alloc (Nat.le_refl _) _, by simp⟩
theorem aL {N : Nat} {w a b : World} (h : Below N w a) (hN : N ≤ a.heap.size) (hb : Below a.heap.size a b) : Below N w b := h.trans (hb.mono hN)
end
section
open Go.RowKit Go.Shelf
attribute [local go_sem] Oper.semAt_some
attribute [local go_sem ↓] Go.wp_at_zero Go.wp_at_succ

/- the place of a zone by its own name -/
def fu (nm : Tx.Bs) : List ZV → Nat → Int
 | [], _ => -1
 | p :: r, k => if (p.z.name == nm) = true then (k : Int) else fu nm r (k + 1)
theorem tC {nm : Tx.Bs} : ∀ (l : List ZV) (k : Nat), gZ l nm = true → ∃ j, fu nm l k = ((k + j : Nat) : Int) ∧ l[j]? = some (lh l nm)
 | [], k, h => by simp [gZ] at h
 | p :: r, k, h => by
   cases q : p.z.name == nm
   ·have h' : gZ r nm = true := by simpa [gZ, q] using h
    obtain ⟨j, h1, h2⟩ := tC r (k + 1) h'
    refine ⟨j + 1, ?_, ?_⟩
    ·show (if (p.z.name == nm) = true then (k : Int) else fu nm r (k + 1)) = _
     rw [q, if_neg (by simp), h1]
     congr 1; omega
    ·have e : lh (p :: r) nm = lh r nm := by unfold lh; rw [List.find?_cons, q]
     rw [e]; simpa using h2
   ·refine ⟨0, ?_, ?_⟩
    ·show (if (p.z.name == nm) = true then (k : Int) else fu nm r (k + 1)) = _
     rw [q, if_pos rfl]; rfl
    ·have e : lh (p :: r) nm = p := by unfold lh; rw [List.find?_cons, q]; rfl
     rw [e]; rfl
theorem qx {nm : Tx.Bs} : ∀ (l : List ZV) (k : Nat), gZ l nm = false → fu nm l k = -1
 | [], _, _ => rfl
 | p :: r, k, h => by
   have h' : (p.z.name == nm) = false ∧ gZ r nm = false := by simpa [gZ] using h
   show (if (p.z.name == nm) = true then (k : Int) else fu nm r (k + 1)) = _
   rw [h'.1, if_neg (by simp)]
   exact qx r _ h'.2
theorem Aj (nm : Tx.Bs) (zs : List Sx.Zn) (xs : List ZV) (ra za la : Option Addr) (n1 n3 rcap zcap lcap : Nat) (w : World) (h : kC w (.slice za xs.length zcap) zs xs) (hx : xs.length ≤ 10000) :
  Calls Tryz.prog 58 #[.agg #[.slice ra n1 rcap, .slice za xs.length zcap, .slice la n3 lcap], af nm] w fun e w' => e = .returned (.int .i64 (fu nm xs 0)) ∧ Below w.heap.size w w' := by
 obtain ⟨N, hN⟩ : ∃ N, w.heap.size = N := ⟨_, rfl⟩
 obtain ⟨V, gV, X0, hb, sz⟩ := aR w #[.slice ra n1 rcap, .slice za xs.length zcap, .slice la n3 lcap] 26
 rw [hN] at X0
 have X : Hid (ag V N [.slice ra n1 rcap, .slice za xs.length zcap, .slice la n3 lcap]) := X0
 have B : Hid (Below N w V) := hN ▸ hb
 have H := hid (dP h hb)
 obtain ⟨R, hR⟩ : ∃ R, fu nm xs 0 = R := ⟨_, rfl⟩
 have HR : Hid (fu nm (xs.drop 0) 0 = R) := by show _ = _; rw [List.drop_zero]; exact hR
 rw [hR]
 clear h X0 sz hb hR
 obtain ⟨s1, _⟩ := aa X.out 1 rfl
 have sx := X.out.1
 go_enter Tryz.func58, Tryz.ntmps58
 simp only [hN]
 go_wp2_with fail
 go_loop [5] (fun a => ∃ i : Nat, i ≤ xs.length ∧ a = .int .i64 i ∧ Hid (fu nm (xs.drop i) i = R)) (fun a => xs.length - (intOf a).toNat)
 case atStart => exact ⟨0, Nat.zero_le _, rfl, HR⟩
 case round =>
  clear HR
  obtain ⟨i, hi, rfl, HR⟩ := hrel
  by_cases hlt : i < xs.length
  case neg =>
   have e : xs.drop i = [] := List.drop_eq_nil_of_le (by omega)
   have e2 : R = -1 := by have := HR.out; rw [e] at this; exact this.symm
   have q : ¬ (i : Int) < (xs.length : Int) := by omega
   subst e2
   clear hlt e HR
   go_wp2
   go_ret
   exact ⟨rfl, B.out⟩
  obtain ⟨p, hp⟩ : ∃ x, xs[i]? = some x := ⟨_, q4G hlt⟩
  obtain ⟨zb, zo, e1, hzb, hc⟩ := aN H.out.rd hp
  subst e1
  have c0 : V.cell? ⟨zb, zo + i * 2, none⟩ = some (af p.z.name) := by have := hc 0 _ rfl; simpa using this
  have hd : xs.drop i = p :: xs.drop (i + 1) := Sx.eD hp
  have HR2 : Hid ((if (p.z.name == nm) = true then (i : Int) else fu nm (xs.drop (i + 1)) (i + 1)) = R) := by have := HR.out; rw [hd] at this; exact this
  have q : (i : Int) < (xs.length : Int) := by omega
  clear hc hp hd HR
  cases e2 : (p.z.name == nm)
  case false =>
   have HR3 : Hid (fu nm (xs.drop (i + 1)) (i + 1) = R) := by have := HR2.out; rw [e2, if_neg (by simp)] at this; exact this
   go_wp2
   go_round
   case rel => exact ⟨i + 1, by omega, by go_num, HR3⟩
   case measure => simp [intOf]; omega
  have HR3 : (i : Int) = R := by have := HR2.out; rw [e2, if_pos rfl] at this; exact this
  subst HR3
  go_wp2
  go_ret
  exact ⟨rfl, B.out⟩
/- by whatever name -/
def wU (xs : List ZV) (nm : Tx.Bs) : List Sx.Lk → Int
 | [] => fu nm xs 0
 | l :: r => if (l.name == nm) = true then fu l.to xs 0 else wU xs nm r
theorem Qa (xs : List ZV) (nm : Tx.Bs) (ls : List Sx.Lk) : wU xs nm ls = fu (eY ls nm) xs 0 := by
 unfold eY
 induction ls with
 | nil => rfl
 | cons l r ih =>
   show (if (l.name == nm) = true then fu l.to xs 0 else wU xs nm r) = _
   cases q : l.name == nm
   ·rw [if_neg (by simp), ih, List.any_cons, List.find?_cons, q, Bool.false_or]
   ·rw [if_pos rfl, List.any_cons, List.find?_cons, q, Bool.true_or, if_pos rfl]; rfl
theorem Jq (nm : Tx.Bs) (zs : List Sx.Zn) (ls : List Sx.Lk) (xs : List ZV) (ra za la : Option Addr) (n1 rcap zcap lcap : Nat) (w : World) (h : kC w (.slice za xs.length zcap) zs xs) (h3 : fJ w (.slice la ls.length lcap) ls) (hx : xs.length ≤ 10000) (hl : ls.length ≤ 10000) :
  Calls Tryz.prog 19 #[.agg #[.slice ra n1 rcap, .slice za xs.length zcap, .slice la ls.length lcap], af nm] w fun e w' => e = .returned (.int .i64 (fu (eY ls nm) xs 0)) ∧ Below w.heap.size w w' := by
 obtain ⟨N, hN⟩ : ∃ N, w.heap.size = N := ⟨_, rfl⟩
 obtain ⟨V, gV, X0, hb, sz⟩ := aR w #[.slice ra n1 rcap, .slice za xs.length zcap, .slice la ls.length lcap] 26
 rw [hN] at X0
 have X : Hid (ag V N [.slice ra n1 rcap, .slice za xs.length zcap, .slice la ls.length lcap]) := X0
 have B : Hid (Below N w V) := hN ▸ hb
 have H3 := hid (au h3 hb)
 have HZ := dP h hb
 obtain ⟨R, hR⟩ : ∃ R, wU xs nm ls = R := ⟨_, rfl⟩
 have HR : Hid (wU xs nm (ls.drop 0) = R) := by show _ = _; rw [List.drop_zero]; exact hR
 rw [← Qa, hR]
 obtain ⟨⟨s0, _⟩, ⟨s1, _⟩, ⟨s2, _⟩, sx⟩ := cp3 X.out
 have ZA : Hid (∀ (q : Tx.Bs) W, Below V.heap.size V W → Calls Tryz.prog 58 #[.agg #[.slice ra n1 rcap, .slice za xs.length zcap, .slice la ls.length lcap], af q] W fun e w' => e = .returned (.int .i64 (fu q xs 0)) ∧ Below W.heap.size W w') := fun q W hW => Aj q zs xs ra za la n1 ls.length rcap zcap lcap W (dP HZ hW) hx
 clear h h3 X0 sz hb hR HZ
 go_enter Tryz.func19, Tryz.ntmps19
 simp only [hN]
 go_wp2_with fail
 go_loop [5] (fun a => ∃ i : Nat, i ≤ ls.length ∧ a = .int .i64 i ∧ Hid (wU xs nm (ls.drop i) = R)) (fun a => ls.length - (intOf a).toNat)
 case atStart => exact ⟨0, Nat.zero_le _, rfl, HR⟩
 case round =>
  clear HR
  obtain ⟨i, hi, rfl, HR⟩ := hrel
  by_cases hlt : i < ls.length
  case neg =>
   have e : ls.drop i = [] := List.drop_eq_nil_of_le (by omega)
   have e2 : fu nm xs 0 = R := by have := HR.out; rw [e] at this; exact this
   have q : ¬ (i : Int) < (ls.length : Int) := by omega
   have HC := hid (ZA.out nm V (q4B _ _))
   rw [e2] at HC
   clear hlt e HR e2
   go_wp2_with fail
   refine HC.out.mono ?_
   rintro e w7 ⟨rfl, hb7⟩
   go_wp2
   go_ret
   exact ⟨rfl, aL B.out (hN ▸ B.out.size) hb7⟩
  obtain ⟨l, hp⟩ : ∃ x, ls[i]? = some x := ⟨_, q4G hlt⟩
  obtain ⟨lb, lo, e1, hlb, hc⟩ := aN H3.out hp
  subst e1
  obtain ⟨c0, c1⟩ := og hc
  have hd : ls.drop i = l :: ls.drop (i + 1) := Sx.eD hp
  have HR2 : Hid ((if (l.name == nm) = true then fu l.to xs 0 else wU xs nm (ls.drop (i + 1))) = R) := by have := HR.out; rw [hd] at this; exact this
  have q : (i : Int) < (ls.length : Int) := by omega
  clear hc hp hd HR
  cases e2 : (l.name == nm)
  case false =>
   have HR3 : Hid (wU xs nm (ls.drop (i + 1)) = R) := by have := HR2.out; rw [e2, if_neg (by simp)] at this; exact this
   go_wp2
   go_round
   case rel => exact ⟨i + 1, by omega, by go_num, HR3⟩
   case measure => simp [intOf]; omega
  case true =>
   have HR3 : fu l.to xs 0 = R := by have := HR2.out; rw [e2, if_pos rfl] at this; exact this
   have HR4 := hid HR3
   have SS := hid (show V.cell? ⟨N, 0, none⟩ = some (.slice ra n1 rcap) ∧ V.cell? ⟨N, 1, none⟩ = some (.slice za xs.length zcap) ∧ V.cell? ⟨N, 2, none⟩ = some (.slice (some ⟨lb, lo, none⟩) ls.length lcap) ∧ V.cell? ⟨lb, lo + i * 2, none⟩ = some (af l.to) from ⟨s0, s1, s2, c0⟩)
   have KS : Hid (∀ wz, Below V.heap.size V wz → (wz.cell? ⟨N, 0, none⟩ = some (.slice ra n1 rcap) ∧ wz.cell? ⟨N, 1, none⟩ = some (.slice za xs.length zcap) ∧ wz.cell? ⟨N, 2, none⟩ = some (.slice (some ⟨lb, lo, none⟩) ls.length lcap) ∧ wz.cell? ⟨lb, lo + i * 2, none⟩ = some (af l.to))) := fun wz hb => ⟨(hb.cell (p := ⟨N, 0, none⟩) sx).trans s0, (hb.cell (p := ⟨N, 1, none⟩) sx).trans s1, (hb.cell (p := ⟨N, 2, none⟩) sx).trans s2, (hb.cell (p := ⟨lb, lo + i * 2, none⟩) hlb).trans c0⟩
   clear HR3
   go_upto_region 5 with fail
   refine wp_region_held_drew (S := fun w' => w'.cell? ⟨N, 0, none⟩ = some (.slice ra n1 rcap) ∧ w'.cell? ⟨N, 1, none⟩ = some (.slice za xs.length zcap) ∧ w'.cell? ⟨N, 2, none⟩ = some (.slice (some ⟨lb, lo, none⟩) ls.length lcap) ∧ w'.cell? ⟨lb, lo + i * 2, none⟩ = some (af l.to)) (by kernel_rfl) SS.out (fun hHeld => ?_)
   refine tkA 0 rfl ?_
   refine tkA 1 rfl ?_
   refine tkA 2 rfl ?_
   refine tkA 3 rfl ?_
   refine tkA 4 rfl ?_
   refine tkA 5 rfl ?_
   refine tkA 6 rfl ?_
   refine rdH 7 rfl fun K hK => ?_
   go_simp
   refine (ZA.out l.to _ (show Below V.heap.size V V.drew from ⟨rfl, rfl, rfl, Nat.le_refl _, fun _ _ => rfl⟩)).mono ?_
   rintro e w7 ⟨rfl, hb7⟩
   have hb : Below V.heap.size V w7 := bq hb7
   have S7 := KS.out w7 hb
   refine hK.out _ _ ?_ (fun hHeld => ?_)
   ·exact S7
   clear hK K
   try simp only [Act.put, j]
   refine tkA 8 rfl ?_
   refine wpAnyH_done (by kernel_rfl) ?_ _
   rw [HR4.out]
   clear s0 s1 s2 sx c0 c1 hlb SS KS
   go_wp2
   go_ret
   exact ⟨rfl, aL B.out (hN ▸ B.out.size) hb⟩
end
section
open Go.RowKit

theorem Nb {l n : Nat} {P : Program} {o : Oper} {a : Act} {w : World} {K : Act → World → Prop} {Q : Exit → Act → World → Prop} (hd : ∀ c, o.op ≠ .defer c) (h : o.wp P a w K Q) : o.wpIn (Fence.wide.inRound l) n P a w K Q := by
 unfold Oper.wp at h
 unfold Oper.wpIn
 refine ⟨fun _ _ => trivial, ?_⟩
 rw [Oper.semAt_plain _ _ _ hd]
 generalize (execOp a.eval o).run P w = r at h ⊢
 cases r with
 | ok n' w' =>
   cases n' with
   | value v => exact h
   | skip => exact h
   | defer d => exact h
   | enter f args => exact ⟨fun q => (by cases q), CallsIn.inRound l (callsIn_wide.2 h)⟩
   | row row args =>
     refine ⟨fun q => (by cases q), fun c cs _ => ?_⟩
     obtain ⟨v, w2, r, s⟩ := h c cs
     exact ⟨v, w2, r, stepsIn_wide.2 s⟩
   | _ => exact h.elim
 | halt x w' => cases x <;> first | exact h | exact h.elim
theorem tH {l n : Nat} {P : Program} {md : Region.Mode} {ops : Array Oper} {Q : Exit → Act → World → Prop} (hd : ∀ (i : Nat) (o : Oper), ops[i]? = some o → ∀ c, o.op ≠ Op.defer c) (hQ : ¬ LetsOut Q) :
  ∀ (fuel : Nat) (listed : Array Bool) (a : Act) (w : World), wpAny P md ops Q fuel listed a w → wpAnyIn (Fence.wide.inRound l) n P md ops Q fuel listed a w
 | 0, _, _, _, h => h
 | fuel + 1, listed, a, w, h => by
   refine ⟨h.1, fun i hi => ?_⟩
   have h2 := h.2 i hi
   unfold wpOp at h2
   unfold wpOpIn
   cases ho : ops[i]? with
   | none =>
     simp only [ho] at h2 ⊢
     exact tH hd hQ fuel _ _ _ h2
   | some o =>
     simp only [ho] at h2 ⊢
     cases q : Region.wanted o (yielded ops a.tmps) with
     | true =>
       rw [q, if_pos rfl] at h2
       rw [if_pos rfl]
       rcases h2 with h3 | h3
       ·exact Oper.wpIn_mono (fun a' w' h' => tH hd hQ fuel _ a' w' h') (Nb (hd i o ho) h3)
       ·exact absurd h3.2 hQ
     | false =>
       rw [q, if_neg (by decide)] at h2
       rw [if_neg (by decide)]
       exact ⟨fun _ _ => trivial, tH hd hQ fuel _ _ _ h2⟩
/- the door: a drawing region in a round, by the held walk -/
theorem rG {l n : Nat} {P : Program} {id : Nat} {ops : Array Oper} {Q : Exit → Act → World → Prop} {a : Act} {w : World} {S : World → Prop} (hm : P.follows .mixedOrders = true)
  (hd : ops.all (fun (o : Oper) => match o.op with | Op.defer _ => false | _ => true) = true) (hQ : ¬ LetsOut Q) (hS : S w.drew)
  (h : S w.drew → wpAnyH P .any ops Q S ops.size (Array.replicate ops.size false) a w.drew) : (Code.region id ops true).wpIn (Fence.wide.inRound l) n P Q a w := by
 refine wpIn_region_any hm (tH ?_ hQ _ _ _ _ (wpAny_of_held _ _ _ _ (h hS)))
 intro i o ho c hc
 obtain ⟨hi, rfl⟩ := q4A.1 ho
 have := (Array.all_eq_true.1 hd) i hi
 rw [hc] at this
 cases this
/- append where there is room: the slice keeps its block -/
theorem j5 {P : Program} {ops : Array Oper} {o : Oper} {a : Act} {w : World} {K : Act → World → Prop} {Q : Exit → Act → World → Prop} {E : Prop}
  (hg : o.guard = none) (s x : Operand) (t : TypeId) (hop : o.op = Op.call { callee := Callee.builtin Builtin.append, args := #[s, x], argTypes := #[t, t] })
  (base : Nat) (e : TypeId) (i : TypeInfo) (size : Nat) (h1 : P.underlying t = some (.slice e)) (h2 : P.info? e = some i) (h4 : i.size = size)
  (g k cap : Nat) (xs : List Value) (hs : a.eval s = .slice (some ⟨g, 0, none⟩) k cap) (hown : w.ownsRow base e size (.slice (some ⟨g, 0, none⟩) k cap) k xs)
  (ad : Addr) (m c : Nat) (news : List Value) (hx : a.eval x = .slice (some ad) m c) (hn : news.length = m * size) (hc : ∀ j u, news[j]? = some u → w.cell? (ad.add j) = some u) (h1c : ∀ u ∈ news, u.oneCell' = true) (b1 : k + m ≤ cap)
  (hK : ∀ w', w'.ownsRow base e size (.slice (some ⟨g, 0, none⟩) (k + m) cap) (k + m) (xs ++ news) → w.grownBy w' (some g) → K (a.put o.dst (.slice (some ⟨g, 0, none⟩) (k + m) cap)) w') :
  if Region.wanted o (yielded ops a.tmps) = true then Oper.wp P o a w K Q else E := by
 have hw : Region.wanted o (yielded ops a.tmps) = true := by simp [Region.wanted, hg]
 rw [if_pos hw]
 obtain ⟨w', hrun, r1, r2⟩ := run_append_fits (P := P) w base t o.type e i size h1 h2 h4 g k cap xs hown ad m c news hn hc h1c b1
 unfold Oper.wp
 simp [execOp, hop, resolve, invoke, builtin, hs, hx, hrun, Result.andThen]
 exact hK w' r1 r2
end
section
open Go.RowKit Go.Shelf
attribute [local go_sem] Oper.semAt_some

theorem Tryz.PM : (Tryz.prog.info? 120).map (fun i => (i.zero, i.size, i.bytes)) = some (some (.agg #[.int .i64 0, .int .i64 0, .int .i64 0, .string ⟨#[]⟩]), 4, 40) := by kernel_rfl
theorem kp_t {n₀ Bs : Nat} {T : TypeId} {A B C : World} (h : Kp n₀ T Bs A B) (k : Kp n₀ T Bs B C) : Kp n₀ T Bs A C := ⟨h.1.trans k.1, DN h.2 k.2⟩
theorem kp_b {n₀ Bs : Nat} {T : TypeId} {w : World} (hn : n₀ ≤ w.heap.size) (W : World) (l : Nat) (o o' : Obj) (a : w.heap.size ≤ l) (b : W.heap[l]? = some o) (c : o.isCells = false) (d : o.isWalk = false) : Kp n₀ T Bs W (W.putObj l o') :=
 ⟨belowK_b hn W l o o' a b c d, Lf (w := w) W l o o' a b c d⟩
theorem Ij (n Bl Bn Bs : Nat) (hn : 1 ≤ n) (rs : List Sx.Rl) (name : Tx.Bs) (ra : Option Addr) (rcap : Nat) (W0 w : World) (h : bN W0 (.slice ra rs.length rcap) rs) (hok : ∀ r ∈ rs, Sx.fV r) (hrs : rs.length ≤ 40)
  (cl : W0.cell? ⟨Bl, 0, none⟩ = some (.slice ra rs.length rcap)) (cn : W0.cell? ⟨Bn, 0, none⟩ = some (af name)) (hBl : Bl < W0.heap.size) (hBn : Bn < W0.heap.size) (hBs : Bs < w.heap.size) (hW : Below W0.heap.size W0 w) :
  SeqStopsK Fence.wide n Tryz.prog 127 #[.pointer (some ⟨Bl, 0, none⟩), .pointer (some ⟨Bn, 0, none⟩)] (fun t : Sx.Tn => #[Ag t]) (Kp W0.heap.size 120 Bs) (fun ys => ys = Sx.turnsOf rs name) (fun pre => pre <+: Sx.turnsOf rs name) (Sx.turnsOf rs name).length w :=
 fun l J Jx W hW1 hJ hJx hY h0 => Ob n l Bl Bn Bs hn rs name ra rcap W0 W h hok hrs cl cn hBl hBn (q4N hBs hW1.size) (hW.trans (hW1.mono hW.size)) J Jx hJ hY h0

theorem Ca {T : TypeId} {Bs B z n : Nat} {W w1 : World} {v u : Value} {xs : List Value} {o : Obj} (hrow : W.ownsRow B T z v n xs) (hg : (W.alloc o).grownBy w1 v.ownBlock) : AZ T Bs W (w1.setCell ⟨Bs, 0, none⟩ u) := by
 have hs := hg.size
 simp at hs
 refine ⟨by simp; omega, fun k cs t a ht hk => ?_⟩
 have hk2 := (q4A.1 a).1
 rw [Below.heap_setCell _ _ _ _ hk, hg.block k (by simp; omega) ?_, Below.heap_alloc _ _ _ hk2]
 ·exact a
 ·intro e
  rcases hrow.2 with ⟨rfl, _⟩ | ⟨g, cap, cur, rfl, _, hh, _⟩
  ·simp [Value.ownBlock] at e
  ·simp [Value.ownBlock] at e
   subst e
   rw [hh] at a
   simp at a
   exact ht a.2.symm
theorem Rm {W : World} {b : Nat} {vs : List Value} {t : TypeId} (h : W.heap[b]? = some (.cells vs.toArray t (0, 0))) : ag W b vs := by
 refine ⟨(q4A.1 h).1, fun k v hv => ?_⟩
 simp [World.cell?, World.frozen?, h, hv]
theorem Ii (x : Sx.Tn) : ∀ u ∈ dw x, u.oneCell' = true := by
 intro u hu; simp only [dw, List.mem_cons, List.not_mem_nil, or_false] at hu; rcases hu with rfl | rfl | rfl | rfl <;> rfl
theorem Ky (w : World) (x : Sx.Tn) {e : TypeId} : ∀ (j : Nat) (u : Value), (dw x)[j]? = some u → (w.alloc (.cells #[.int .i64 x.stands, .int .i64 x.clock, .int .i64 x.save, af x.letter] e)).cell? ((⟨w.heap.size, 0, none⟩ : Addr).add j) = some u := dO w (dw x)
theorem Ar (Bl Bn : Nat) (rs : List Sx.Rl) (name : Tx.Bs) (ra : Option Addr) (rcap : Nat) (w : World) (h : bN w (.slice ra rs.length rcap) rs) (hok : ∀ r ∈ rs, Sx.fV r) (hrs : rs.length ≤ 40)
  (cl : w.cell? ⟨Bl, 0, none⟩ = some (.slice ra rs.length rcap)) (cn : w.cell? ⟨Bn, 0, none⟩ = some (af name)) (hBl : Bl < w.heap.size) (hBn : Bn < w.heap.size) (hN : (Sx.turnsOf rs name).length ≤ 10000) :
  Calls Tryz.prog 200 #[.slice none 0 0, .func (.func 127) #[] #[.pointer (some ⟨Bl, 0, none⟩), .pointer (some ⟨Bn, 0, none⟩)]] w
   fun e w' => ∃ v, e = .returned v ∧ w'.ownsRow w.heap.size 120 4 v (Sx.turnsOf rs name).length ((Sx.turnsOf rs name).flatMap dw) ∧ Below w.heap.size w w' := by
 obtain ⟨i0, hi, hz0, hz1, hz2⟩ := info_parts Tryz.PM
 refine (callsIn_wide (n := 4)).1 ?_
 refine callsIn_of_wp_marks Tryz.func200 rfl trivial ?_ rfl
 simp only [Tryz.ntmps200, List.size_toArray, List.length_cons, List.length_nil, Nat.reduceAdd, Nat.reduceSub, Array.replicate_succ, Array.replicate_zero, List.push_toArray, List.append_toArray, List.nil_append, List.cons_append]
 gi_wp2
 have bO := Boxed.new w 110 (.slice none 0 0)
 have hB0 : Below w.heap.size w (w.alloc (.cells #[.slice none 0 0] 110)) := (q4B _ w).alloc (Nat.le_refl _) _
 refine wpIn_rangeFunc_ownH rfl (by omega) (gf := 127) (lb := #[.pointer (some ⟨Bl, 0, none⟩), .pointer (some ⟨Bn, 0, none⟩)]) rfl trivial (enters_of Tryz.func127 (by kernel_rfl) rfl)
  (Ij 3 Bl Bn w.heap.size (by omega) rs name ra rcap w _ h hok hrs cl cn hBl hBn (by simp) hB0) kp_t (kp_b (by simp)) (q4B _ _) (fun _ => rfl)
  (fun (pre : List Sx.Tn) W => (∃ v, Boxed W w.heap.size 110 v ∧ W.ownsRow w.heap.size 120 4 v pre.length (pre.flatMap dw) ∧ True) ∧ Below w.heap.size w W)
  (fun _ _ _ => False)
  (OwnFrom.and (Own.from (holdsRow_own w.heap.size w.heap.size 110 120 4 (fun (pre : List Sx.Tn) => pre.length) (fun (pre : List Sx.Tn) => pre.flatMap dw) (fun (pre : List Sx.Tn) v => True)) _) (ownFrom_below (Nat.le_refl _) (by simp)))
  (fun _ _ _ _ _ hs _ _ => hs)
  ⟨⟨_, bO, World.ownsRow_nil _ _ _ _, trivial⟩, hB0⟩
  (fun x a' W => ∃ Bx, w.heap.size < Bx ∧ W.heap[Bx]? = some (.cells (dw x).toArray 120 (0, 0)) ∧ a' = { tmps := #[.slice none 0 0, .func (.func 127) #[] #[.pointer (some ⟨Bl, 0, none⟩), .pointer (some ⟨Bn, 0, none⟩)], .pointer (some ⟨w.heap.size, 0, none⟩), undef, .slice none 0 0, .pointer (some ⟨Bx, 0, none⟩), .func (.func 127) #[] #[.pointer (some ⟨Bl, 0, none⟩), .pointer (some ⟨Bn, 0, none⟩)], Ag x, undef, undef, undef, undef, undef], defers := [] })
  ?hAx ?assign ?body ?done ?stop
 case hAx =>
  rintro x a' _ X Y row ⟨Bx, q1, q2, q3⟩ hg hr
  refine ⟨Bx, q1, ?_, q3⟩
  rw [hg.block Bx (q4A.1 q2).1 (fun e => by obtain ⟨_, o, ho, hc⟩ := hr Bx e.symm; rw [q2] at ho; cases ho; simp [Obj.isCells] at hc)]
  exact q2
 case assign =>
  rintro l pre x W K ⟨⟨v, hv, hrow, _⟩, hB1⟩ hK
  gi_wp2
  refine hK _ _ ((KeepsOthers.alloc _ _).from _) ⟨(q4B _ W).alloc hB1.size _, ?_⟩ ⟨⟨v, hv.alloc _, hrow.alloc _, trivial⟩, hB1.alloc hB1.size _⟩ ⟨W.heap.size, hv.lt, World.alloc_heap_new W _, rfl⟩
  exact ⟨by simp, fun k cs t a _ _ => by rw [Below.heap_alloc _ _ _ (q4A.1 a).1]; exact a⟩
 case body =>
  rintro l pre x a' W hl ⟨r, hr⟩ ⟨⟨v, hv, hrow, _⟩, hB⟩ ⟨Bx, hBx, hX, rfl⟩ hlt
  have hc := hv.cell
  have CX := Rm hX
  obtain ⟨⟨x0, _⟩, ⟨x1, _⟩, ⟨x2, _⟩, ⟨x3, _⟩, sx⟩ := cp4 CX
  have hpl : pre.length + 1 ≤ 10000 := by omega
  gi_wp2_with (gi_at_builtin; refine wpListIn_append_own _ rfl _ _ 110 rfl w.heap.size 120 i0 (.agg #[.int .i64 0, .int .i64 0, .int .i64 0, .string ⟨#[]⟩]) 4 40 Tryz.underlying110 hi hz0 hz1 hz2 rfl (by decide) _ _ _ rfl (hrow.alloc _) ⟨W.heap.size, 0, none⟩ 1 1 (dw x) rfl rfl (Ky _ _) (Ii x) (by unfold maxLen; omega) (by omega) (by have := hB.size; simp; omega) ?_; intro v' w1 hown' hgrow _; obtain ⟨g', cap', rfl⟩ := ownsRow_succ hown'; obtain ⟨hv1, hv2, hr2, hk2, hb2⟩ := hv.appended (by decide) hrow hB.size (Nat.le_refl _) hown' hgrow; have hc1 := hv1.cell; have hf1 := hv1.frozen)
  exact ⟨hk2.from _, ⟨hb2, Ca hrow hgrow⟩, ⟨_, hv2, by simpa using hr2, trivial⟩, hB.trans hb2⟩
 case done =>
  rintro D ys W hD rfl ⟨⟨v, hv, hrow, _⟩, hB⟩ hK
  have hc := hv.cell
  gi_wp2
  refine ⟨by simp, .inl ⟨_, _, rfl, run_takeDeferred hK, ?_⟩⟩
  exact ⟨_, results_tmp rfl _ _ _, v, rfl, ownsRow_putObj hrow _ hK rfl, hB.trans (belowK_b (w := w) (Nat.le_refl _) W D _ _ (by simp at hD; omega) hK rfl rfl)⟩
 case stop =>
  rintro D c pre W _ _ h _
  exact h.elim
end
section
open Go.RowKit Go.Shelf

theorem Da (rv : Value) (name : Tx.Bs) (w : World) (ra : Option Addr) (n rcap : Nat) (hrv : rv = .slice ra n rcap) :
  Calls Tryz.prog 66 #[rv, af name] w fun e w' => e = .returned (.func (.func 127) #[] #[.pointer (some ⟨w.heap.size, 0, none⟩), .pointer (some ⟨w.heap.size + 1, 0, none⟩)]) ∧ w' = (w.alloc (.cells #[rv] 22)).alloc (.cells #[af name] 9) := by
 subst hrv
 go_enter Tryz.func66, Tryz.ntmps66
 go_wp2
 go_ret
 exact ⟨rfl, rfl⟩
theorem EY (Bl Bn : Nat) (rs : List Sx.Rl) (name : Tx.Bs) (ra : Option Addr) (rcap : Nat) (w : World) (h : bN w (.slice ra rs.length rcap) rs) (hok : ∀ r ∈ rs, Sx.fV r) (hrs : rs.length ≤ 40)
  (cl : w.cell? ⟨Bl, 0, none⟩ = some (.slice ra rs.length rcap)) (cn : w.cell? ⟨Bn, 0, none⟩ = some (af name)) (hBl : Bl < w.heap.size) (hBn : Bn < w.heap.size) (hN : (Sx.turnsOf rs name).length ≤ 10000) :
  Calls Tryz.prog 172 #[.func (.func 127) #[] #[.pointer (some ⟨Bl, 0, none⟩), .pointer (some ⟨Bn, 0, none⟩)]] w
   fun e w' => ∃ v, e = .returned v ∧ w'.ownsRow w.heap.size 120 4 v (Sx.turnsOf rs name).length ((Sx.turnsOf rs name).flatMap dw) ∧ Below w.heap.size w w' := by
 have C := hid (Ar Bl Bn rs name ra rcap w h hok hrs cl cn hBl hBn hN)
 clear h hok cl cn hN
 go_enter Tryz.func172, Tryz.ntmps172
 go_wp2_with fail
 refine C.out.mono ?_
 rintro e w1 ⟨v, rfl, hown, hb⟩
 go_wp2
 go_ret
 exact ⟨_, rfl, hown, hb⟩
/- there are not too many -/
theorem wh {rs : List Sx.Rl} {name : Tx.Bs} (h : ∀ r ∈ rs, Sx.fV r) (hl : rs.length ≤ 40) : (Sx.turnsOf rs name).length ≤ 10000 := by
 have key : ∀ l : List Sx.Rl, (∀ r ∈ l, Sx.fV r) → (Sx.turnsOf l name).length ≤ 201 * l.length := by
  intro l
  induction l with
  | nil => intro _; simp [Sx.turnsOf]
  | cons r l ih =>
    intro hr
    have ih := ih fun x hx => hr x (by simp [hx])
    have ok := hr r (by simp)
    have hm : (Sx.ko r).length ≤ 201 := by have := ok.frm; have := ok.le; have := ok.to; simp [Sx.ko, Sx.many]; omega
    unfold Sx.turnsOf at ih ⊢
    cases q : (r.name == name)
    ·simp only [List.filter_cons, q, Bool.false_eq_true, if_false, List.length_cons]; omega
    ·simp only [List.filter_cons, q, if_true, List.flatMap_cons, List.length_append, List.length_cons]; omega
 have := key rs h
 omega
end
end Go.Proofs.YtkhlkohlccndgaaGreat
namespace Go.Proofs
open Go.Shelf
def Tryz.vG : Go.Shelf.Ren := ⟨fun | 6 => 173 | 15 => 202 | 14 => 201 | 28 => 221 | 29 => 222 | 20 => 213 | 21 => 214 | 22 => 215 | 23 => 216 | 24 => 217 | 25 => 218 | 26 => 219 | 27 => 220 | 46 => 236 | 47 => 237 | 48 => 238 | 49 => 239 | 50 => 240 | 57 => 245 | n => n, fun | 22 => 110 | 24 => 120 | 25 => 191 | 3 => 3 | 39 => 230 | 0 => 0 | 53 => 258 | 55 => 260 | 4 => 4 | 46 => 251 | 45 => 250 | 50 => 255 | 5 => 5 | 9 => 9 | 66 => 266 | 70 => 270 | 76 => 276 | 77 => 139 | n => n, fun | n => n⟩
theorem Tryz.uq : Go.Proofs.SlLaysF0.n6 Tryz.prog Tryz.vG := {
 mixed := by kernel_rfl
 f6 := ⟨Tryz.f173.name, by decide, Tryz.func173.trans (congrArg some (by kernel_rfl))⟩
 f14 := ⟨Tryz.f201.name, by decide, Tryz.func201.trans (congrArg some (by kernel_rfl))⟩
 f15 := Tryz.func202.trans (congrArg some (by kernel_rfl))
 f20 := ⟨Tryz.f213.name, by decide, Tryz.func213.trans (congrArg some (by kernel_rfl))⟩
 f21 := ⟨Tryz.f214.name, by decide, Tryz.func214.trans (congrArg some (by kernel_rfl))⟩
 f22 := ⟨Tryz.f215.name, by decide, Tryz.func215.trans (congrArg some (by kernel_rfl))⟩
 f23 := ⟨Tryz.f216.name, by decide, Tryz.func216.trans (congrArg some (by kernel_rfl))⟩
 f24 := ⟨Tryz.f217.name, by decide, Tryz.func217.trans (congrArg some (by kernel_rfl))⟩
 f25 := ⟨Tryz.f218.name, by decide, Tryz.func218.trans (congrArg some (by kernel_rfl))⟩
 f26 := ⟨Tryz.f219.name, by decide, Tryz.func219.trans (congrArg some (by kernel_rfl))⟩
 f27 := ⟨Tryz.f220.name, by decide, Tryz.func220.trans (congrArg some (by kernel_rfl))⟩
 f28 := Tryz.func221.trans (congrArg some (by kernel_rfl))
 f29 := Tryz.func222.trans (congrArg some (by kernel_rfl))
 f46 := ⟨Tryz.f236.name, by decide, Tryz.func236.trans (congrArg some (by kernel_rfl))⟩
 f47 := Tryz.func237.trans (congrArg some (by kernel_rfl))
 f48 := Tryz.func238.trans (congrArg some (by kernel_rfl))
 f49 := ⟨Tryz.f239.name, by decide, Tryz.func239.trans (congrArg some (by kernel_rfl))⟩
 f50 := ⟨Tryz.f240.name, by decide, Tryz.func240.trans (congrArg some (by kernel_rfl))⟩
 f57 := ⟨Tryz.f245.name, by decide, Tryz.func245.trans (congrArg some (by kernel_rfl))⟩
 t0 := Tryz.underlying0
 a0 := Tryz.isAgg0
 z0 := Tryz.sizeOf0
 v0 := Tryz.zeroValue0
 t3 := Tryz.underlying3
 a3 := Tryz.isAgg3
 z3 := Tryz.sizeOf3
 v3 := Tryz.zeroValue3
 t4 := Tryz.underlying4
 a4 := Tryz.isAgg4
 z4 := Tryz.sizeOf4
 v4 := Tryz.zeroValue4
 t5 := Tryz.underlying5
 a5 := Tryz.isAgg5
 z5 := Tryz.sizeOf5
 v5 := Tryz.zeroValue5
 t9 := Tryz.underlying9
 a9 := Tryz.isAgg9
 z9 := Tryz.sizeOf9
 v9 := Tryz.zeroValue9
 t22 := Tryz.underlying110
 a22 := Tryz.isAgg110
 z22 := Tryz.sizeOf110
 v22 := Tryz.zeroValue110
 t25 := Tryz.underlying191
 a25 := Tryz.isAgg191
 z25 := Tryz.sizeOf191
 v25 := Tryz.zeroValue191
 t39 := Tryz.underlying230
 a39 := Tryz.isAgg230
 z39 := Tryz.sizeOf230
 v39 := Tryz.zeroValue230
 t45 := Tryz.underlying250
 a45 := Tryz.isAgg250
 z45 := Tryz.sizeOf250
 v45 := Tryz.zeroValue250
 t46 := Tryz.underlying251
 a46 := Tryz.isAgg251
 z46 := Tryz.sizeOf251
 v46 := Tryz.zeroValue251
 t50 := Tryz.underlying255
 a50 := Tryz.isAgg255
 z50 := Tryz.sizeOf255
 v50 := Tryz.zeroValue255
 t53 := Tryz.underlying258
 a53 := Tryz.isAgg258
 z53 := Tryz.sizeOf258
 v53 := Tryz.zeroValue258
 t55 := Tryz.underlying260
 a55 := Tryz.isAgg260
 z55 := Tryz.sizeOf260
 v55 := Tryz.zeroValue260
 t66 := Tryz.underlying266
 a66 := Tryz.isAgg266
 z66 := Tryz.sizeOf266
 v66 := Tryz.zeroValue266
 t70 := Tryz.underlying270
 a70 := Tryz.isAgg270
 z70 := Tryz.sizeOf270
 v70 := Tryz.zeroValue270
 t76 := Tryz.underlying276
 a76 := Tryz.isAgg276
 z76 := Tryz.sizeOf276
 v76 := Tryz.zeroValue276
 t77 := Tryz.underlying139
 a77 := Tryz.isAgg139
 z77 := Tryz.sizeOf139
 v77 := Tryz.zeroValue139 }
end Go.Proofs
namespace Go.Proofs.YtkhlkohlccndgaaGreat
section
open Go.RowKit Go.Shelf Go.Sort

instance : Inhabited Sx.Tn := ⟨Sx.ago⟩
def IM (x y : Sx.Tn) : Int := OA x.stands y.stands
theorem ltT (x y : Sx.Tn) : ltOf IM x y = decide (x.stands < y.stands) := by
 unfold ltOf IM OA
 by_cases h1 : x.stands < y.stands
 ·simp [h1]
 ·by_cases h2 : y.stands < x.stands <;> simp [h1, h2]
theorem swoT : SWO (ltOf IM) where
 irrefl x := by rw [ltT]; simp
 trans x y z h1 h2 := by rw [ltT] at *; simp at *; omega
 ntrans x y z h1 h2 := by rw [ltT] at *; simp at *; omega
theorem Gh (s t : Sx.Tn) (w : World) : Calls Tryz.prog 125 #[Ag s, Ag t] w fun e w' => e = .returned (.int .i64 (IM s t)) ∧ ∃ q os', w' = grow (w.drewN q) os' := by
 go_enter Tryz.func125, Tryz.ntmps125
 go_wp2_with (go_at_call 126; refine (EZ _ _ _).mono ?_; rintro e w1 ⟨rfl, rfl⟩)
 go_ret
 exact ⟨rfl, 0, _, by rw [alloc_eq_grow, alloc_eq_grow, grow_grow]; rfl⟩
theorem OB (blk off size : Nat) (w : World) : CmpLays Tryz.prog 125 #[] dw 4 IM blk off size w := fun _ _ _ _ x y => Gh x y _
theorem xA {w : World} {g n : Nat} {os : Array Obj} (d : Array Sx.Tn) : w.grownBy (sortWorldK dw 4 w g 0 n d os) (some g) := by
 refine ⟨rfl, rfl, rfl, by simp [sortWorldK, putRowK], fun k hk hne => ?_⟩
 unfold sortWorldK putRowK
 rw [heap_grow_old _ _ (by simpa using hk)]
 have : g ≠ k := fun e => hne (by rw [e])
 simp [putRow, mapBlock, Sort.ahead, Array.getElem?_modify, this]
theorem TN {w : World} {g : Nat} {cur : Array Value} {e : TypeId} {ts : List Sx.Tn} (hb : w.heap[g]? = some (.cells cur e (0, 0))) (ht : cur.toList.take (ts.length * 4) = ts.flatMap dw) : HoldsK dw 4 w g 0 ts.toArray := by
 intro j hj
 rw [size_flatK] at hj
 have hj' : j < ts.length * 4 := by simpa using hj
 refine ⟨?_, by simp [World.frozen?, hb]⟩
 rw [get_flatK _ _ _ _ hj]
 have hi : j / 4 < ts.length := by omega
 have hx : ts[j / 4]? = some ts[j / 4] := q4G hi
 have hc : (dw ts[j / 4])[j % 4]? = some ((dw ts[j / 4])[j % 4]'(by show j % 4 < 4; omega)) := q4G _
 have q := flat_get dw (z := 4) (fun _ => rfl) ts (j / 4) _ hx (j % 4) _ hc
 rw [show j / 4 * 4 + j % 4 = j by omega] at q
 have h1 : (cur.toList.take (ts.length * 4))[j]? = (ts.flatMap dw)[j]? := by rw [ht]
 rw [List.getElem?_take_of_lt hj', q] at h1
 simp only [World.cell?, hb, Nat.zero_add]
 simp only [Option.isSome_none, Bool.false_eq_true, if_false]
 rw [← Array.getElem?_toList, h1]
 simp [hi]
 rw [hc]; rfl
theorem Ns {w : World} {g n cap : Nat} {d : Array Sx.Tn} (hH : HoldsK dw 4 w g 0 d) (hg : g < w.heap.size) (hn : d.size = n) : kU w (.slice (some ⟨g, 0, none⟩) n cap) d.toList := by
 refine ⟨some ⟨g, 0, none⟩, cap, by simp [hn], fun _ => ⟨g, 0, rfl, hg, fun i x hx k u hu => ?_⟩⟩
 have hi : i < d.size := by have := (q4L.1 hx).1; simpa using this
 have hk : k < 4 := (q4L.1 hu).1
 have q := (HoldsK.cell hH hi hk).1
 have ex : d[i]! = x := by
  rw [getElem!_pos d i hi]
  have := (q4L.1 hx).2
  simpa using this
 have eu : (dw x)[k]! = u := by
  rw [getElem!_pos _ k (by show k < 4; exact hk)]
  exact (q4L.1 hu).2
 rw [ex, eu] at q
 exact q
def qz (ts o : List Sx.Tn) : Prop := o.Perm ts ∧ Sx.jb o
theorem Gi : qz [] [] := ⟨.refl _, by simp [Sx.jb]⟩
theorem JC {ts : List Sx.Tn} {d : Array Sx.Tn} (hp : PermIn 0 ts.toArray.size ts.toArray d) (hs : SortedIn (ltOf IM) 0 ts.toArray.size d) : qz ts d.toList := by
 obtain ⟨h1, _, h3⟩ := hp
 refine ⟨?_, ?_⟩
 ·have e1 : d.extract 0 ts.toArray.size = d := by rw [← h1]; simp
  have e2 : ts.toArray.extract 0 ts.toArray.size = ts.toArray := by simp
  rw [e1, e2] at h3
  simpa using h3
 ·refine List.pairwise_iff_getElem.2 fun i j hi hj hij => ?_
  have hj' : j < d.size := by simpa using hj
  have q := hs i j (Nat.zero_le _) hij (by rw [← h1]; exact hj')
  rw [ltT, getElem!_pos d j hj', getElem!_pos d i (by omega)] at q
  simp at q
  simpa using q
theorem AX (ts : List Sx.Tn) (v : Value) (B : Nat) (w : World) (h : w.ownsRow B 120 4 v ts.length (ts.flatMap dw)) (hl : ts.length ≤ 10000) :
  Calls Tryz.prog 173 #[v, .func (.func 125) #[] #[]] w fun e w' => e = .returned (.tuple #[]) ∧ (∃ o, qz ts o ∧ kU w' v o) ∧ ∃ r, w.grownBy w' r ∧ ∀ k, r = some k → B ≤ k := by
 rcases h.2 with ⟨rfl, h0⟩ | ⟨g, cap, cur, rfl, hB, hg, h1, h2, h3, h4⟩
 ·have e : ts = [] := List.length_eq_zero_iff.1 h0
  subst e
  have hcon := AnyF.slices_SortFunc_none Tryz.uq none 0 (.func (.func 125) #[] #[]) w
  change Calls Tryz.prog 173 _ _ _ at hcon
  refine hcon.mono ?_
  rintro e w' ⟨rfl, rfl⟩
  exact ⟨rfl, ⟨[], Gi, JW⟩, none, ⟨rfl, rfl, rfl, Nat.le_refl _, fun _ _ _ => rfl⟩, fun k e => by cases e⟩
 ·have hgl : g < w.heap.size := (q4A.1 hg).1
  have hH := TN hg h4
  have eg : ∀ args w, (callFunc 125 args).run Tryz.prog w = .ok (.enter 125 args) w := enters_of Tryz.func125 (by kernel_rfl) rfl
  have hcon := AnyQ.slices_SortFunc Tryz.uq 4 Tryz.isAgg120 Tryz.sizeOf120 dw (fun _ => rfl) Ii IM swoT 125 #[] g 0 cap ts.toArray w eg (OB g 0 _ w) hH hgl (by simp; omega)
  change Calls Tryz.prog 173 _ _ _ at hcon
  refine hcon.mono ?_
  rintro e w' ⟨rfl, d', n, os, hp, hs, rfl⟩
  have hH' := holdsK_sortWorldK_c dw 4 w g 0 ts.toArray d' n os hH hgl hp.1
  refine ⟨rfl, ⟨d'.toList, JC hp hs, Ns hH' (q4N hgl (size_sortWorldK_c dw 4 w g 0 n d' os)) (by rw [hp.1]; simp)⟩, some g, xA d', fun k e => by cases e; exact hB⟩
theorem FD (Bl Bn : Nat) (rs : List Sx.Rl) (name : Tx.Bs) (ra : Option Addr) (rcap : Nat) (w : World) (h : bN w (.slice ra rs.length rcap) rs) (hok : ∀ r ∈ rs, Sx.fV r) (hrs : rs.length ≤ 40)
  (cl : w.cell? ⟨Bl, 0, none⟩ = some (.slice ra rs.length rcap)) (cn : w.cell? ⟨Bn, 0, none⟩ = some (af name)) (hBl : Bl < w.heap.size) (hBn : Bn < w.heap.size) :
  Calls Tryz.prog 124 #[.func (.func 127) #[] #[.pointer (some ⟨Bl, 0, none⟩), .pointer (some ⟨Bn, 0, none⟩)], .func (.func 125) #[] #[]] w
   fun e w' => ∃ v o, e = .returned v ∧ qz (Sx.turnsOf rs name) o ∧ kU w' v o ∧ Below w.heap.size w w' := by
 have HF := hid (wh (name := name) hok hrs)
 have C := hid (EY Bl Bn rs name ra rcap w h hok hrs cl cn hBl hBn HF.out)
 clear h hok cl cn
 go_enter Tryz.func124, Tryz.ntmps124
 go_wp2_with fail
 refine C.out.mono ?_
 rintro e w1 ⟨v, rfl, hown, hb⟩
 have C2 := hid (AX _ v w.heap.size w1 hown HF.out)
 have B1 := hid hb
 obtain ⟨sa, sc, rfl⟩ := aF hown
 clear hown hb
 go_wp2_with fail
 refine C2.out.mono ?_
 rintro e w2 ⟨rfl, ⟨o, ho, hrd⟩, r, hg, hr⟩
 have B2 := B1.out.grown hg B1.out.size hr
 have HO := hid ho
 have HRD := hid hrd
 have HB2 := hid B2
 clear ho hrd hg hr B2
 go_wp2
 go_ret
 exact ⟨_, o, rfl, HO.out, HRD.out, HB2.out⟩
theorem uC (Bl Bn : Nat) (rs : List Sx.Rl) (name : Tx.Bs) (ra : Option Addr) (rcap : Nat) (w : World) (h : bN w (.slice ra rs.length rcap) rs) (hok : ∀ r ∈ rs, Sx.fV r) (hrs : rs.length ≤ 40)
  (cl : w.cell? ⟨Bl, 0, none⟩ = some (.slice ra rs.length rcap)) (cn : w.cell? ⟨Bn, 0, none⟩ = some (af name)) (hBl : Bl < w.heap.size) (hBn : Bn < w.heap.size) :
  Calls Tryz.prog 65 #[.func (.func 127) #[] #[.pointer (some ⟨Bl, 0, none⟩), .pointer (some ⟨Bn, 0, none⟩)]] w
   fun e w' => ∃ v o, e = .returned v ∧ qz (Sx.turnsOf rs name) o ∧ kU w' v o ∧ Below w.heap.size w w' := by
 have C := hid (FD Bl Bn rs name ra rcap w h hok hrs cl cn hBl hBn)
 clear h hok cl cn
 go_enter Tryz.func65, Tryz.ntmps65
 go_wp2_with fail
 refine C.out.mono ?_
 rintro e w1 ⟨v, o, rfl, ho, hrd, hb⟩
 obtain ⟨sa, sc, rfl⟩ := bQ hrd
 have HO := hid ho
 have HRD := hid hrd
 have HB := hid hb
 clear ho hrd hb
 go_wp2
 go_ret
 exact ⟨_, o, rfl, HO.out, HRD.out, HB.out⟩
end
namespace Sx

theorem src_ok {rs : List Rl} (h : eB ⟨rs, [], []⟩ = 0) : rs.length ≤ 40 ∧ ∀ r ∈ rs, fV r := by
 by_cases h40 : rs.length ≤ 40
 ·refine ⟨h40, fun r hr => xP (jq dz ?_ r hr)⟩
  have hm : fw (⟨rs, [], []⟩ : Sr) = false := by simp [fw]; omega
  rw [xQ hm] at h
  unfold orE at h
  split at h
  ·assumption
  ·rename_i q; simpa using q
 ·rw [kM (by simp [fw]; omega)] at h
  omega
structure Rh (rs : List Rl) (name : Tx.Bs) (shift : Int) : Prop where
 src : eB ⟨rs, [], []⟩ = 0
 s1 : -64800 ≤ shift
 s2 : shift ≤ 64800
 some : turnsOf rs name ≠ []
 apart_ : apart (iM (turnsOf rs name)) = true
 few : (turnsOf rs name).length ≤ 1000
 is : times rs name shift = bV shift 0 (iM (turnsOf rs name))
theorem uP {rs : List Rl} {name : Tx.Bs} {shift : Int} (h : aY rs name shift = 0) : Rh rs name shift := by
 have hi : times rs name shift = bV shift 0 (iM (turnsOf rs name)) := by unfold times; rw [if_pos h]
 unfold aY at h
 split at h
 ·rename_i q; exact absurd h q
 rename_i q1
 split at h
 ·omega
 rename_i q2
 split at h
 ·omega
 rename_i q3
 split at h
 ·omega
 rename_i q4
 split at h
 ·omega
 rename_i q5
 simp [inB] at q2
 exact ⟨by simpa using q1, by omega, by omega, by simpa using q3, by simpa using q4, by omega, hi⟩
theorem QX {rs : List Rl} {name : Tx.Bs} {shift : Int} (h : aY rs name shift ≠ 0) : times rs name shift = [] := by unfold times; rw [if_neg h]
theorem Ah {rs : List Rl} {name : Tx.Bs} (h : ∀ r ∈ rs, fV r) : ∀ t ∈ turnsOf rs name, -1000000000000 ≤ t.stands ∧ t.stands ≤ 1000000000000 := by
 intro t ht
 simp only [turnsOf, List.mem_flatMap, List.mem_filter, ko, List.mem_map, List.mem_range] at ht
 obtain ⟨r, ⟨hr, _⟩, k, hk, rfl⟩ := ht
 have ok := h r hr
 have h1 := ok.frm
 have h2 := ok.le
 have h3 := ok.to
 have h4 := ok.at_
 simp only [many] at hk
 have b := (uA ok (y := r.frm + (k : Int)) (by omega) (by omega)).2
 simp only [gU]
 omega
theorem Si {rs : List Rl} {name : Tx.Bs} {shift : Int} {i : Nat} {x y : Tm} (h : aY rs name shift = 0) (hx : (times rs name shift)[i]? = some x) (hy : (times rs name shift)[i + 1]? = some y) : x.at_ < y.at_ := by
 have k := uP h
 have ok := (src_ok k.src).2
 rw [k.is] at hx hy
 exact Ko k.s1 k.s2 (zi (sU fun r hr => (ok r hr).save)) k.apart_ hx hy
end Sx
section
open Go.RowKit Go.Shelf

namespace Sx
def CJ (shift : Int) (x : Tn × Tn) : Tm := dX shift x.1.save x.2
theorem xm (shift : Int) : ∀ (l : List Tn) (p : Tn), bV shift p.save l = (dh p l).map (CJ shift)
 | [], _ => rfl
 | t :: r, p => by simp only [bV, dh, List.map_cons, xm shift r t]; rfl
end Sx
theorem C8 {rs : List Sx.Rl} {name : Tx.Bs} {shift : Int} {o : List Sx.Tn} (hs : Sx.eB ⟨rs, [], []⟩ = 0) (h1 : -64800 ≤ shift) (h2 : shift ≤ 64800) (ho : qz (Sx.turnsOf rs name) o) :
  kg o = Sx.aY rs name shift ∧ (kg o = 0 → Sx.times rs name shift = (Sx.bY o).map (Sx.CJ shift)) := by
 have ok := (Sx.src_ok hs).2
 obtain ⟨hp, hso⟩ := ho
 have hlen := hp.length_eq
 obtain ⟨a1, a2⟩ := Sx.ordered hp hso
 have hbd : ∀ t ∈ o, -1000000000000 ≤ t.stands := fun t ht => (Sx.Ah ok t (hp.mem_iff.1 ht)).1
 have hcl := Sx.EW hbd
 have hB : Sx.inB shift (-64800) 64800 = true := by simp [Sx.inB]; omega
 have key : kg o = Sx.aY rs name shift := by
  have e2 : Sx.aY rs name shift = if (Sx.turnsOf rs name).isEmpty = true then 5 else if Sx.apart (Sx.iM (Sx.turnsOf rs name)) = false then 4 else if 1000 < (Sx.turnsOf rs name).length then 2 else 0 := by
   unfold Sx.aY
   rw [if_neg (show ¬ Sx.eB ⟨rs, [], []⟩ ≠ 0 by simp [hs]), if_neg (show ¬ Sx.inB shift (-64800) 64800 = false by simp [hB])]
  have he : o.isEmpty = (Sx.turnsOf rs name).isEmpty := by
   cases q : (Sx.turnsOf rs name) <;> cases q' : o <;> simp [q, q'] at hlen ⊢
  rw [e2]
  unfold kg
  rw [hcl, a1, hlen, he]
  cases Sx.apart (Sx.iM (Sx.turnsOf rs name)) <;> simp
 refine ⟨key, fun h0 => ?_⟩
 have h0' := key.symm.trans h0
 have k := Sx.uP h0'
 rw [k.is]
 have e : o = Sx.iM (Sx.turnsOf rs name) := a2 (by rw [a1]; exact k.apart_)
 rw [← e]
 exact Sx.xm shift o Sx.ago
end
section
open Go.RowKit Go.Shelf
attribute [local go_sem] Oper.semAt_some

def lG (w : World) (B : Nat) (v : Value) (l : List Sx.Tm) : Prop := w.ownsRow B 72 3 v l.length (l.flatMap dF)
def mW (rs : List Sx.Rl) (name : Tx.Bs) (shift : Int) (w : World) (e : Ending) (w' : World) : Prop :=
 ∃ v, e = .returned (.tuple #[v, .int .i64 (Sx.aY rs name shift)]) ∧ lG w' w.heap.size v (Sx.times rs name shift) ∧ Below w.heap.size w w'
theorem sS {rs : List Sx.Rl} {name : Tx.Bs} {shift E : Int} {w w' : World} (hE : Sx.aY rs name shift = E) (h : E ≠ 0) (hb : Below w.heap.size w w') : mW rs name shift w (.returned (.tuple #[.slice none 0 0, .int .i64 E])) w' := by
 refine ⟨_, by rw [hE], ?_, hb⟩
 unfold lG
 rw [Sx.QX (by rw [hE]; exact h)]
 exact World.ownsRow_nil _ _ _ _
theorem Tryz.FH : (Tryz.prog.info? 72).map (fun i => (i.zero, i.size, i.bytes)) = some (some (.agg #[.int .i64 0, .int .i64 0, .string ⟨#[]⟩]), 3, 32) := by kernel_rfl
theorem uO (x : Sx.Tm) : ∀ u ∈ dF x, u.oneCell' = true := by
 intro u hu; simp only [dF, List.mem_cons, List.not_mem_nil, or_false] at hu; rcases hu with rfl | rfl | rfl <;> rfl
theorem sP (w : World) (x : Sx.Tm) {e : TypeId} : ∀ (j : Nat) (u : Value), (dF x)[j]? = some u → (w.alloc (.cells #[.int .i64 x.at_, .int .i64 x.save, af x.letter] e)).cell? ((⟨w.heap.size, 0, none⟩ : Addr).add j) = some u := dO w (dF x)

theorem Ih (rs : List Sx.Rl) (rv : Value) (name : Tx.Bs) (shift : Int) (w : World) (h : bN w rv rs) (hs : ∀ r ∈ rs, r.name.length ≤ maxLen ∧ r.letter.length ≤ maxLen) (hE : Sx.eB ⟨rs, [], []⟩ ≠ 0) :
  Calls Tryz.prog 28 #[rv, af name, .int .i64 shift] w (mW rs name shift w) := by
 obtain ⟨ra, rcap, rfl⟩ := bQ h
 have BV := hid ((q4B w.heap.size w).alloc (Nat.le_refl _) (.cells #[.int .i64 shift] 3))
 have C := hid (jf rs _ _ (au h BV.out) hs)
 have HT : Hid (Sx.aY rs name shift = Sx.eB ⟨rs, [], []⟩) := by show _ = _; unfold Sx.aY; rw [if_pos hE]
 obtain ⟨E, hEE⟩ : ∃ E, Sx.eB ⟨rs, [], []⟩ = E := ⟨_, rfl⟩
 rw [hEE] at hE C HT
 have hne : (E != 0) = true := by simp [hE]
 have HE := hid hE
 clear h hs hE hEE
 go_enter Tryz.func28, Tryz.ntmps28
 go_wp2_with fail
 refine C.out.mono ?_
 rintro e w1 ⟨rfl, hb⟩
 have B1 : Hid (Below w.heap.size w w1) := BV.out.trans (hb.mono BV.out.size)
 clear hb
 go_wp2
 go_ret2
 exact sS HT.out HE.out B1.out
theorem Ie (rs : List Sx.Rl) (rv : Value) (name : Tx.Bs) (shift : Int) (w : World) (h : bN w rv rs) (hs : ∀ r ∈ rs, r.name.length ≤ maxLen ∧ r.letter.length ≤ maxLen) (hE : Sx.eB ⟨rs, [], []⟩ = 0) (hsh : ¬ (-64800 ≤ shift ∧ shift ≤ 64800)) :
  Calls Tryz.prog 28 #[rv, af name, .int .i64 shift] w (mW rs name shift w) := by
 obtain ⟨ra, rcap, rfl⟩ := bQ h
 have BV := hid ((q4B w.heap.size w).alloc (Nat.le_refl _) (.cells #[.int .i64 shift] 3))
 have SV := hid (aC w [.int .i64 shift] 3)
 have C := hid (jf rs _ _ (au h BV.out) hs)
 have HT : Hid (Sx.aY rs name shift = 3) := by show _ = _; unfold Sx.aY; rw [if_neg (by simp [hE]), if_pos (by simp [Sx.inB]; omega)]
 rw [hE] at C
 have HS := hid hsh
 clear h hs hE hsh
 by_cases h1 : shift < -64800
 all_goals
  go_enter Tryz.func28, Tryz.ntmps28
  go_wp2_with fail
  refine C.out.mono ?_
  rintro e w1 ⟨rfl, hb⟩
  have B1 : Hid (Below w.heap.size w w1) := BV.out.trans (hb.mono BV.out.size)
  obtain ⟨s0, s1⟩ := aa (ah SV.out hb) 0 rfl
  have ss := (ah SV.out hb).1
  have h2 : ¬ shift < -64800 → 64800 < shift := fun q => by have := HS.out; omega
  clear hb
  try (have h2 := h2 h1)
  go_wp2
  go_ret2
  exact sS HT.out (by decide) B1.out
end
section
open Go.RowKit Go.Shelf
attribute [local go_sem] Oper.semAt_some

theorem Ig (rs : List Sx.Rl) (rv : Value) (name : Tx.Bs) (shift : Int) (w : World) (h : bN w rv rs) (hs : ∀ r ∈ rs, r.name.length ≤ maxLen ∧ r.letter.length ≤ maxLen) (hE : Sx.eB ⟨rs, [], []⟩ = 0) (s1 : -64800 ≤ shift) (s2 : shift ≤ 64800) (hT : Sx.aY rs name shift ≠ 0) :
  Calls Tryz.prog 28 #[rv, af name, .int .i64 shift] w (mW rs name shift w) := by
 obtain ⟨ra, rcap, rfl⟩ := bQ h
 have BV := hid ((q4B w.heap.size w).alloc (Nat.le_refl _) (.cells #[.int .i64 shift] 3))
 have SV := hid (aC w [.int .i64 shift] 3)
 have C := hid (jf rs _ _ (au h BV.out) hs)
 have HOK := hid (Sx.src_ok hE)
 rw [hE] at C
 have H := hid h
 have HT := hid hT
 have HE := hid hE
 have n1 : ¬ shift < -64800 := by omega
 have n2 : ¬ 64800 < shift := by omega
 have HS : Hid (-64800 ≤ shift ∧ shift ≤ 64800) := ⟨s1, s2⟩
 clear h hs hE hT s1 s2
 go_enter Tryz.func28, Tryz.ntmps28
 go_wp2_with fail
 refine C.out.mono ?_
 rintro e w1 ⟨rfl, hb⟩
 have B1 : Hid (Below w.heap.size w w1) := BV.out.trans (hb.mono BV.out.size)
 have X1 := hid (ah SV.out hb)
 obtain ⟨t0, t1⟩ := aa X1.out 0 rfl
 have ss := X1.out.1
 clear hb BV SV C
 go_wp2_with fail
 refine (Da _ _ _ ra rs.length rcap rfl).mono ?_
 rintro e w2 ⟨rfl, hw2⟩
 have q1 : w2.cell? ⟨w1.heap.size, 0, none⟩ = some (.slice ra rs.length rcap) := by
  have := aa (aH (aC w1 [.slice ra rs.length rcap] 22) (.cells #[af name] 9)) 0 rfl
  rw [hw2]; exact this.1
 have q2 : w2.cell? ⟨w1.heap.size + 1, 0, none⟩ = some (af name) := by
  have := aa (aC (w1.alloc (.cells #[.slice ra rs.length rcap] 22)) [af name] 9) 0 rfl
  rw [World.size_alloc] at this
  rw [hw2]; exact this.1
 have z2 : w2.heap.size = w1.heap.size + 2 := by rw [hw2]; simp
 have B2 : Hid (Below w.heap.size w w2) := by
  show Below _ _ _
  rw [hw2]; exact (B1.out.alloc B1.out.size _).alloc (by have := B1.out.size; simp; omega) _
 have C2 := hid (uC w1.heap.size (w1.heap.size + 1) rs name ra rcap w2 (au H.out B2.out) HOK.out.2 HOK.out.1 q1 q2 (by omega) (by omega))
 have S2 : Hid (w.heap.size < w2.heap.size) := by show _ < _; have := ss; omega
 clear hw2 q1 q2 z2 t0 t1 ss X1
 go_wp2_with fail
 refine C2.out.mono ?_
 rintro e w3 ⟨v, o, rfl, hord, hrd, hb⟩
 have B3 : Hid (Below w.heap.size w w3) := B2.out.trans (hb.mono B2.out.size)
 obtain ⟨K, hK⟩ := Nat.exists_eq_add_of_le (Nat.zero_le 0)
 have KT := hid (C8 HE.out HS.out.1 HS.out.2 hord)
 have C3 := hid (pE o v w3 hrd (by have := hord.1.length_eq; have := wh (name := name) HOK.out.2 HOK.out.1; omega) (fun t ht => Sx.Ah HOK.out.2 t (hord.1.mem_iff.1 ht)))
 have KE : Hid (Sx.aY rs name shift = kg o) := KT.out.1.symm
 obtain ⟨E, hEE⟩ : ∃ E, kg o = E := ⟨_, rfl⟩
 rw [hEE] at C3 KE
 have hne0 : E ≠ 0 := by rw [← KE.out]; exact HT.out
 have hne : (E != 0) = true := by simp [hne0]
 have HN := hid hne0
 obtain ⟨oa, oc, rfl⟩ := bQ hrd
 clear hEE KT hord hrd hb C2 hK hne0
 go_wp2_with fail
 refine C3.out.mono ?_
 rintro e w4 ⟨rfl, hb⟩
 have B4 : Hid (Below w.heap.size w w4) := B3.out.trans (hb.mono B3.out.size)
 clear hb
 go_wp2
 go_ret2
 exact sS KE.out HN.out B4.out
end
end Go.Proofs.YtkhlkohlccndgaaGreat
