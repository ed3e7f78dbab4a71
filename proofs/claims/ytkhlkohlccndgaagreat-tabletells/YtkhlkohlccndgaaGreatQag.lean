/- Contracts of the program's fitsLimits and source.Check, whatever source. · The contract of the iterator of rule.turns. · Steps from turn to turn: in plain terms; the contract of the iterator of rule.steps. · Contracts of the iterators of slices.Values over links, zones and times, of zone.eras and zone.names, and of the functions that make them. · A region that draws its order, in a round of a loop over an iterator: what is shown of it outside a round holds of it there. · Contracts of rule.steps (the function value), rule.checkTurns$1, seek.First and seek.Has over steps, rule.checkTurns. · The contract of slices.AppendSeq over the turns of rules. · Contracts of rule.turns (the function value) and slices.Collect of it. · slices.SortFunc at a list of turns, at this dump: an application of the library s contract. · Contracts of slices.SortFunc at turns, slices.SortedFunc, rule.inOrder: the same turns, in order of how they stand. · Times of rules in plain terms, as the law asks after them. · What is wrong with turns in order, as the walk finds it, is what the plain words say; times of steps. Plain. · The contract of rule.Times. · The contract of rule.Times: turns of which something is wrong; and the whole. · The contract of rule.Times: the times of turns that are right; and the whole. · Tables in plain terms: what is wrong with one; what it tells at a time; what clocks show, and when; from one to another. · Tables in memory. -/
import Derived.Test.YtkhlkohlccndgaaGreatQz
import Derived.Test.YtkhlkohlccndgaaGreatQaf
import Derived.Test.YtkhlkohlccndgaaGreatQaa
import Derived.RangeFuncCalls
import Derived.OrdersIn
import Derived.OrdersHeld
import Derived.OwnWalkIn
import Derived.OwnWalk
import Derived.Deep.RegionHeld3
import Derived.Maps.AppendAt
import Derived.Shelf.SlSortCmp.NoneTotal
import Derived.Test.YtkhlkohlccndgaaGreatProg
set_option linter.unusedVariables false
set_option linter.unusedSimpArgs false
set_option maxRecDepth 100000
set_option maxHeartbeats 16000000
namespace Go.Proofs.YtkhlkohlccndgaaGreat
open Go.RowKit
attribute [local go_sem ↓] Go.wp_at_zero Go.wp_at_succ

theorem sFits_any (s : Sx.Sr) (ra la : Option Addr) (rcap lcap : Nat) (zv : Value) (w : World) (h : RdZones w zv s.zones) :
  Calls Tryz.prog 88 #[.agg #[.slice ra s.rules.length rcap, zv, .slice la s.links.length lcap]] w fun e w' => e = .returned (.bool (!Sx.manyB s)) ∧ Below w.heap.size w w' := by
 obtain ⟨za, zcap, rfl⟩ := rdZones_shape h
 have BV := hid ((Below.refl w.heap.size w).alloc (Nat.le_refl _) (.cells #[.slice ra s.rules.length rcap, .slice za s.zones.length zcap, .slice la s.links.length lcap] 26))
 have H := hid h
 clear h
 by_cases h1 : 40 < s.rules.length
 ·have HB : Hid (false = !Sx.manyB s) := by show _ = _; simp [Sx.manyB, h1]
  go_enter Tryz.func88, Tryz.ntmps88
  go_wp2
  go_ret
  exact ⟨ret_bool HB.out, BV.out⟩
 by_cases h2 : 20 < s.zones.length
 ·have HB : Hid (false = !Sx.manyB s) := by show _ = _; simp [Sx.manyB, h2]
  go_enter Tryz.func88, Tryz.ntmps88
  go_wp2
  go_ret
  exact ⟨ret_bool HB.out, BV.out⟩
 by_cases h3 : 20 < s.links.length
 ·have HB : Hid (false = !Sx.manyB s) := by show _ = _; simp [Sx.manyB, h3]
  go_enter Tryz.func88, Tryz.ntmps88
  go_wp2
  go_ret
  exact ⟨ret_bool HB.out, BV.out⟩
 have HN := hid (Sx.many_no h1 h2 h3)
 have HY := hid (fun (i : Nat) (z : Sx.Zn) => @Sx.many_zone s i z)
 have HV := hid (rdZones_below H.out BV.out)
 obtain ⟨n, hn⟩ : ∃ n, s.zones.length = n := ⟨_, rfl⟩
 rw [hn] at h2 BV HV ⊢
 have HL := hid hn
 clear hn H
 go_enter Tryz.func88, Tryz.ntmps88
 go_wp2_with fail
 obtain ⟨V, hV⟩ : ∃ V, w.alloc (.cells #[.slice ra s.rules.length rcap, .slice za n zcap, .slice la s.links.length lcap] 26) = V := ⟨_, rfl⟩
 rw [hV] at BV HV ⊢
 clear hV
 go_loopw [24] (fun a wr => ∃ k : Nat, k ≤ n ∧ a = .int .i64 k ∧ Hid (Below V.heap.size V wr) ∧ Hid (∀ (j : Nat) (z : Sx.Zn), j < k → s.zones[j]? = some z → ¬ 8 < z.eras.length)) (fun a _ => n - (intOf a).toNat)
 case atStart => exact ⟨0, by omega, rfl, Below.refl _ _, fun j z q => absurd q (Nat.not_lt_zero _)⟩
 case round =>
  obtain ⟨k, hk, rfl, B0, HK⟩ := hrel
  by_cases hlt : k < n
  case neg =>
   have HR : Hid (Sx.manyB s = false) := HN.out fun j z a b => HK.out j z (by have := HL.out; omega) b
   go_wp2
   go_ret
   exact ⟨ret_bool (by rw [HR.out]; rfl), BV.out.trans (B0.out.mono BV.out.size)⟩
  obtain ⟨x, hx⟩ : ∃ x, s.zones[k]? = some x := ⟨_, List.getElem?_eq_getElem (by have := HL.out; omega)⟩
  obtain ⟨rb, ro, ea, ecap, rfl, hrb, c0, c1, hre⟩ := rd_zone_at (rdZones_below HV.out B0.out) hx
  have HX := hid hx
  have B1 := hid (B0.out.alloc B0.out.size (.cells #[strV x.name, .slice ea x.eras.length ecap] 44))
  obtain ⟨L, hL⟩ : ∃ L, x.eras.length = L := ⟨_, rfl⟩
  have HLL := hid hL
  rw [hL] at c1 B1
  clear hx hre hL B0
  by_cases h8 : 8 < L
  ·have HR : Hid (Sx.manyB s = true) := HY.out k x HX.out (by rw [HLL.out]; exact h8)
   go_wp2
   go_ret
   exact ⟨ret_bool (by rw [HR.out]; rfl), BV.out.trans (B1.out.mono BV.out.size)⟩
  ·have HK2 : Hid (∀ (j : Nat) (z : Sx.Zn), j < k + 1 → s.zones[j]? = some z → ¬ 8 < z.eras.length) := by
    intro j z hj hz
    by_cases q : j < k
    ·exact HK.out j z q hz
    ·have : j = k := by omega
     subst this
     rw [HX.out] at hz
     cases hz
     rw [HLL.out]; exact h8
   clear HK
   go_wp2
   go_roundw
   case rel => exact ⟨k + 1, by omega, by go_num, B1, HK2⟩
   case measure => simp [intOf]; omega
theorem srcE_or (s : Sx.Sr) (h : Sx.manyB s = false) : Sx.srcE s = Sx.firstE id [Sx.firstE Sx.ruleE s.rules, Sx.firstE Sx.zoneE s.zones, Sx.firstE Sx.linkE s.links] := by
 rw [Sx.src_few h]
 simp only [Sx.orE, Sx.firstE, id]
 split
 ·rfl
 ·split
  ·rfl
  ·split <;> simp_all
theorem many_few {s : Sx.Sr} (h : Sx.manyB s = false) : s.rules.length ≤ 40 ∧ s.zones.length ≤ 20 ∧ s.links.length ≤ 20 ∧ ∀ z ∈ s.zones, z.eras.length ≤ 8 := by
 simp [Sx.manyB] at h
 obtain ⟨⟨⟨h1, h2⟩, h3⟩, h4⟩ := h
 exact ⟨by omega, by omega, by omega, fun z hz => by have := h4 z hz; omega⟩
structure SrH (B : Nat) (r z l : Value) (w : World) : Prop where
 c0 : w.cell? ⟨B, 0, none⟩ = some r
 c1 : w.cell? ⟨B, 1, none⟩ = some z
 c2 : w.cell? ⟨B, 2, none⟩ = some l
theorem srH_below {B : Nat} {r z l : Value} {w w' : World} (h : SrH B r z l w) (hb : Below w.heap.size w w') (hB : B < w.heap.size) : SrH B r z l w' :=
 ⟨(hb.cell (p := ⟨B, 0, none⟩) hB).trans h.c0, (hb.cell (p := ⟨B, 1, none⟩) hB).trans h.c1, (hb.cell (p := ⟨B, 2, none⟩) hB).trans h.c2⟩
structure SrcAt (r z l : Value) (rs : List Sx.Rl) (zs : List Sx.Zn) (ls : List Sx.Lk) (m : Int) (w : World) : Prop where
 rules : RdRules w r rs
 zones : RdZones w z zs
 links : RdLinks w l ls
 cap : CapZs w z zs
 max : w.cell? ⟨0, 0, none⟩ = some (.int .i64 m)
 pos : 0 < w.heap.size
theorem src_at {r z l : Value} {rs : List Sx.Rl} {zs : List Sx.Zn} {ls : List Sx.Lk} {m : Int} {w w' : World} (hb : Below w.heap.size w w') (h1 : RdRules w r rs) (h2 : RdZones w z zs) (h3 : RdLinks w l ls) (h4 : CapZs w z zs) (h5 : w.cell? ⟨0, 0, none⟩ = some (.int .i64 m)) (h6 : 0 < w.heap.size) : SrcAt r z l rs zs ls m w' :=
 ⟨rd_below h1 hb, rdZones_below h2 hb, rd_below h3 hb, capZs_below h4 h2 hb, (hb.cell (p := ⟨0, 0, none⟩) h6).trans h5, Nat.lt_of_lt_of_le h6 hb.size⟩
theorem src_at2 {r z l : Value} {rs : List Sx.Rl} {zs : List Sx.Zn} {ls : List Sx.Lk} {m : Int} {w w' : World} (h : SrcAt r z l rs zs ls m w) (hb : Below w.heap.size w w') : SrcAt r z l rs zs ls m w' :=
 src_at hb h.rules h.zones h.links h.cap h.max h.pos
theorem sCheck_any (s : Sx.Sr) (r z l : Value) (m : Int) (w : World) (h : RdSrc w r z l s) (hcp : CapZs w z s.zones) (hs : SizedS s) (hm : w.cell? ⟨0, 0, none⟩ = some (.int .i64 m)) (h0 : 0 < w.heap.size) :
  Calls Tryz.prog 42 #[.agg #[r, z, l]] w fun e w' => e = .returned (.int .i64 (Sx.srcE s)) ∧ Below w.heap.size w w' := by
 obtain ⟨rs, zs, ls⟩ := s
 obtain ⟨h1, h2, h3⟩ := h
 dsimp only at h1 h2 h3 hcp
 obtain ⟨ra, rcap, rfl⟩ := rd_shape h1
 obtain ⟨za, zcap, rfl⟩ := rdZones_shape h2
 obtain ⟨la, lcap, rfl⟩ := rd_shape h3
 have BV := hid ((Below.refl w.heap.size w).alloc (Nat.le_refl _) (.cells [.slice ra rs.length rcap, .slice za zs.length zcap, .slice la ls.length lcap].toArray 26))
 have XV := hid (ca_new w [.slice ra rs.length rcap, .slice za zs.length zcap, .slice la ls.length lcap] 26)
 have FT := hid (sFits_any ⟨rs, zs, ls⟩ ra la rcap lcap (.slice za zs.length zcap) _ (rdZones_below h2 BV.out))
 obtain ⟨M, hM⟩ : ∃ M, Sx.manyB ⟨rs, zs, ls⟩ = M := ⟨_, rfl⟩
 rw [hM] at FT
 have HM := hid hM
 have H1 := hid h1
 have H2 := hid h2
 have H3 := hid h3
 have HS := hid hs
 have HC := hid hcp
 have HMM := hid hm
 have H0 := hid h0
 clear h1 h2 h3 hs hcp hm h0 hM
 cases M
 case true =>
  have HR : Hid (Sx.srcE ⟨rs, zs, ls⟩ = 2) := Sx.src_many HM.out
  go_enter Tryz.func42, Tryz.ntmps42
  go_wp2_with fail
  refine FT.out.mono ?_
  rintro e w1 ⟨rfl, hb⟩
  have B1 : Hid (Below w.heap.size w w1) := BV.out.trans (hb.mono BV.out.size)
  go_wp2
  go_ret
  exact ⟨ret_int HR.out.symm, B1.out⟩
 have HR := hid (srcE_or ⟨rs, zs, ls⟩ HM.out)
 have HF := hid (many_few HM.out)
 dsimp only at HF
 obtain ⟨B, hB⟩ : ∃ B, w.heap.size = B := ⟨_, rfl⟩
 have HB := hid hB
 rw [hB] at XV
 clear hB
 go_enter Tryz.func42, Tryz.ntmps42
 go_wp2_with fail
 refine FT.out.mono ?_
 rintro e w1 ⟨rfl, hb⟩
 have B1 : Hid (Below w.heap.size w w1) := BV.out.trans (hb.mono BV.out.size)
 have X1 := hid (ca_below XV.out hb)
 clear hb XV BV FT
 go_upto_region 3 with fail
 rw [HB.out]
 have sB : B < w1.heap.size := X1.out.1
 have SD : SrH B (.slice ra rs.length rcap) (.slice za zs.length zcap) (.slice la ls.length lcap) w1.drew := ⟨(ca_at X1.out 0 rfl).1, (ca_at X1.out 1 rfl).1, (ca_at X1.out 2 rfl).1⟩
 have BD : Below w.heap.size w w1.drew := ⟨B1.out.os, B1.out.tape, B1.out.output, B1.out.size, B1.out.block⟩
 have P1 := src_at BD H1.out H2.out H3.out HC.out HMM.out H0.out
 refine wp_region_held_drew (S := fun w' => SrH B (.slice ra rs.length rcap) (.slice za zs.length zcap) (.slice la ls.length lcap) w') (by kernel_rfl) SD (fun hHeld => ?_)
 refine tkH 0 ?vz1 rfl ?z1 ?_
 case z1 => (intro w hSw; obtain ⟨s0, s1, s2⟩ := hSw; go_simp; try with_reducible rfl)
 try simp only [Act.put, jP, jO, jS, jG, jH, jI]
 refine tkH 1 ?vz2 rfl ?z2 ?_
 case z2 => (intro w hSw; obtain ⟨s0, s1, s2⟩ := hSw; go_simp; try with_reducible rfl)
 try simp only [Act.put, jP, jO, jS, jG, jH, jI]
 refine tkH 3 ?vz3 rfl ?z3 ?_
 case z3 => (intro w hSw; obtain ⟨s0, s1, s2⟩ := hSw; go_simp; try with_reducible rfl)
 try simp only [Act.put, jP, jO, jS, jG, jH, jI]
 refine tkH 4 ?vz4 rfl ?z4 ?_
 case z4 => (intro w hSw; obtain ⟨s0, s1, s2⟩ := hSw; go_simp; try with_reducible rfl)
 try simp only [Act.put, jP, jO, jS, jG, jH, jI]
 refine tkH 6 ?vz5 rfl ?z5 ?_
 case z5 => (intro w hSw; obtain ⟨s0, s1, s2⟩ := hSw; go_simp; try with_reducible rfl)
 try simp only [Act.put, jP, jO, jS, jG, jH, jI]
 refine tkH 7 ?vz6 rfl ?z6 ?_
 case z6 => (intro w hSw; obtain ⟨s0, s1, s2⟩ := hSw; go_simp; try with_reducible rfl)
 try simp only [Act.put, jP, jO, jS, jG, jH, jI]
 refine rdH 2 rfl fun K hK => ?_
 go_simp
 refine (firstRule_any rs _ _ P1.rules HS.out.rules HF.out.1).mono ?_
 rintro e v1 ⟨rfl, hb⟩
 have S1 : SrH B (.slice ra rs.length rcap) (.slice za zs.length zcap) (.slice la ls.length lcap) v1 := srH_below SD hb sB
 have L1 : B < v1.heap.size := Nat.lt_of_lt_of_le sB hb.size
 have BB1 : Hid (Below w.heap.size w v1) := Below.trans BD (hb.mono (Below.size BD))
 have P2 := src_at2 P1 hb
 clear hb
 refine hK.out _ _ ?_ (fun hHeld => ?_)
 ·exact S1
 clear hK K
 try simp only [Act.put, jP, jO, jS, jG, jH, jI]
 refine rdH 5 rfl fun K hK => ?_
 go_simp
 refine (firstZone_any zs _ m _ P2.zones (fun x hx => ⟨(HS.out.zones x hx).1, (HS.out.zones x hx).2, by have := HF.out.2.2.2 x hx; omega⟩) P2.cap (by have := HF.out.2.1; omega) P2.max P2.pos).mono ?_
 rintro e v2 ⟨rfl, hb⟩
 have S2 : SrH B (.slice ra rs.length rcap) (.slice za zs.length zcap) (.slice la ls.length lcap) v2 := srH_below S1 hb L1
 have L2 : B < v2.heap.size := Nat.lt_of_lt_of_le L1 hb.size
 have BB2 : Hid (Below w.heap.size w v2) := Below.trans BB1.out (hb.mono (Below.size BB1.out))
 have P3 := src_at2 P2 hb
 clear hb
 refine hK.out _ _ ?_ (fun hHeld => ?_)
 ·exact S2
 clear hK K
 try simp only [Act.put, jP, jO, jS, jG, jH, jI]
 refine rdH 8 rfl fun K hK => ?_
 go_simp
 refine (firstLink_any ls _ m _ P3.links HS.out.links (by have := HF.out.2.2.1; omega) P3.max P3.pos).mono ?_
 rintro e v3 ⟨rfl, hb⟩
 have S3 : SrH B (.slice ra rs.length rcap) (.slice za zs.length zcap) (.slice la ls.length lcap) v3 := srH_below S2 hb L2
 have L3 : B < v3.heap.size := Nat.lt_of_lt_of_le L2 hb.size
 have BB3 : Hid (Below w.heap.size w v3) := Below.trans BB2.out (hb.mono (Below.size BB2.out))
 have P4 := src_at2 P3 hb
 clear hb
 have CN := hid (ca_new v3 ([Sx.firstE Sx.ruleE rs, Sx.firstE Sx.zoneE zs, Sx.firstE Sx.linkE ls].map (Value.int .i64)) 28)
 refine hK.out _ _ ?_ (fun hHeld => ?_)
 ·exact S3
 clear hK K
 try simp only [Act.put, jP, jO, jS, jG, jH, jI]
 refine rdH 9 rfl fun K hK => ?_
 go_simp
 refine hK.out _ _ ?_ (fun hHeld => ?_)
 ·exact srH_below S3 ((Below.refl _ _).alloc (Nat.le_refl _) _) L3
 clear hK K
 try simp only [Act.put, jP, jO, jS, jG, jH, jI]
 refine rdH 10 rfl fun K hK => ?_
 go_simp
 refine (or_any [Sx.firstE Sx.ruleE rs, Sx.firstE Sx.zoneE zs, Sx.firstE Sx.linkE ls] v3.heap.size 3 _ CN.out (by simp)).mono ?_
 rintro e w2 ⟨rfl, rfl⟩
 refine hK.out _ _ ?_ (fun hHeld => ?_)
 ·exact hHeld
 clear hK K
 try simp only [Act.put, jP, jO, jS, jG, jH, jI]
 refine tkH 11 ?vz7 rfl ?z7 ?_
 case z7 => (intro w hSw; obtain ⟨s0, s1, s2⟩ := hSw; go_simp; try with_reducible rfl)
 try simp only [Act.put, jP, jO, jS, jG, jH, jI]
 refine wpAnyH_done (by kernel_rfl) ?_ _
 have BF : Below w.heap.size w (v3.alloc (.cells ([Sx.firstE Sx.ruleE rs, Sx.firstE Sx.zoneE zs, Sx.firstE Sx.linkE ls].map (Value.int .i64)).toArray 28)) := BB3.out.alloc BB3.out.size _
 go_wp2
 go_ret
 exact ⟨ret_int (by rw [HR.out]), BF⟩
end Go.Proofs.YtkhlkohlccndgaaGreat
namespace Go.Proofs.YtkhlkohlccndgaaGreat
open Go.RowKit Go.Shelf
attribute [local go_sem] Oper.semAt_some

theorem turns_prefix {rs : List Sx.Rl} {name : Tx.Bs} {i k : Nat} {r : Sx.Rl} (h : rs[i]? = some r) (hn : (r.name == name) = true) (hk : k ≤ Sx.many r) : (Sx.turnsOf (rs.take i) name ++ Sx.turnsTo r k) <+: Sx.turnsOf rs name := by
 have e := Sx.turnsOf_take (name := name) h
 rw [hn, if_pos rfl] at e
 have p1 : Sx.turnsTo r k <+: Sx.turnsR r := by
  rw [← Sx.turnsTo_all]
  unfold Sx.turnsTo
  refine ⟨((List.range (Sx.many r)).drop k).map (fun (j : Nat) => Sx.turnIn r (r.frm + (j : Int))), ?_⟩
  rw [← List.map_append]
  congr 1
  have : (List.range (Sx.many r)).take k = List.range k := by rw [List.take_range, Nat.min_eq_left hk]
  rw [← this]; exact List.take_append_drop _ _
 have p2 : Sx.turnsOf (rs.take (i + 1)) name <+: Sx.turnsOf rs name := by
  have : rs = rs.take (i + 1) ++ rs.drop (i + 1) := (List.take_append_drop _ _).symm
  refine ⟨Sx.turnsOf (rs.drop (i + 1)) name, ?_⟩
  conv => rhs; rw [this]
  unfold Sx.turnsOf
  rw [List.filter_append, List.flatMap_append]
 refine List.IsPrefix.trans ?_ p2
 rw [e]
 obtain ⟨t, ht⟩ := p1
 exact ⟨t, by rw [List.append_assoc, ht]⟩
theorem turns_lt {rs : List Sx.Rl} {name : Tx.Bs} {i k : Nat} {r : Sx.Rl} (h : rs[i]? = some r) (hn : (r.name == name) = true) (hk : k < Sx.many r) : (Sx.turnsOf (rs.take i) name ++ Sx.turnsTo r k).length < (Sx.turnsOf rs name).length := by
 have := (turns_prefix h hn (k := k + 1) (by omega)).length_le
 rw [Sx.turnsTo_succ] at this
 simp at this ⊢
 omega
def Kp (n₀ : Nat) (T : TypeId) (Bs : Nat) (W W' : World) : Prop := Below n₀ W W' ∧ KeepT T Bs W W'
theorem turns1_in (n l Bl Bn Bs : Nat) (hn : 1 ≤ n) (rs : List Sx.Rl) (name : Tx.Bs) (ra : Option Addr) (rcap : Nat) (W0 W : World) (h : RdRules W0 (.slice ra rs.length rcap) rs) (hok : ∀ r ∈ rs, Sx.RuleOk r) (hrs : rs.length ≤ 40)
  (cl : W0.cell? ⟨Bl, 0, none⟩ = some (.slice ra rs.length rcap)) (cn : W0.cell? ⟨Bn, 0, none⟩ = some (strV name)) (hBl : Bl < W0.heap.size) (hBn : Bn < W0.heap.size) (hBs : Bs < W.heap.size) (hW : Below W0.heap.size W0 W)
  (J Jx : List Sx.Tn → World → Prop) (hJ : AbidesFrom W.heap.size J)
  (hY : ∀ pre x W1, J pre W1 → pre.length < (Sx.turnsOf rs name).length → YieldAt Fence.wide (n - 1) Tryz.prog l #[turnV x] W1 fun e W' => (e = .returned (.bool true) ∧ J (pre ++ [x]) W' ∧ Kp W0.heap.size 120 Bs W1 W') ∨ (e = .returned (.bool false) ∧ Jx (pre ++ [x]) W'))
  (h0 : J [] W) :
  CallsIn Fence.wide n Tryz.prog 127 #[.func (.yield l) #[] #[], .pointer (some ⟨Bl, 0, none⟩), .pointer (some ⟨Bn, 0, none⟩)] W fun e W' => (∃ v, e = .returned v) ∧ ((∃ ys, ys = Sx.turnsOf rs name ∧ J ys W') ∨ (∃ pre, pre <+: Sx.turnsOf rs name ∧ Jx pre W')) := by
 have HY := hid hY
 have HJ := hid hJ
 have H := hid h
 have HOK := hid hok
 have cl1 := (hW.cell (p := ⟨Bl, 0, none⟩) hBl).trans cl
 have HCN := hid cn
 clear hY hJ h hok cl cn
 refine callsIn_of_wp Tryz.func127 rfl trivial ?_ rfl
 simp only [Tryz.ntmps127, List.size_toArray, List.length_cons, List.length_nil, Nat.reduceAdd, Nat.reduceSub, Array.replicate_succ, Array.replicate_zero, List.push_toArray, List.append_toArray, List.nil_append, List.cons_append]
 gi_wp2
 gi_loopw [9] (fun a wr => ∃ i : Nat, i ≤ rs.length ∧ a = .int .i64 i ∧ Hid (J (Sx.turnsOf (rs.take i) name) wr) ∧ Hid (Below W0.heap.size W0 wr) ∧ Hid (W.heap.size ≤ wr.heap.size)) (fun a _ => rs.length - (intOf a).toNat)
 case atStart => exact ⟨0, Nat.zero_le _, rfl, h0, hW, Nat.le_refl _⟩
 case round =>
  obtain ⟨i, hi, rfl, JS, B0, SZ⟩ := hrel
  by_cases hlt : i < rs.length
  case neg =>
   have e : rs.take i = rs := List.take_of_length_le (by omega)
   rw [e] at JS
   gi_wp2
   go_end0
   exact ⟨⟨_, rfl⟩, .inl ⟨_, rfl, JS.out⟩⟩
  obtain ⟨r, hx⟩ : ∃ r, rs[i]? = some r := ⟨_, List.getElem?_eq_getElem hlt⟩
  obtain ⟨rb, ro, rfl, hrb, hc⟩ := rd_elem (rd_below H.out B0.out) hx
  obtain ⟨c0, c1, c2, c3, c4, c5, c6, c7, c8, c9, c10⟩ := rd_rule hc
  have HX := hid hx
  have ok := HOK.out r (List.mem_of_getElem? hx)
  have cn1 : wr.cell? ⟨Bn, 0, none⟩ = some (strV name) := (B0.out.cell (p := ⟨Bn, 0, none⟩) hBn).trans HCN.out
  have sBn : Bn < wr.heap.size := Nat.lt_of_lt_of_le hBn B0.out.size
  clear hc hx
  cases hnm : (r.name == name)
  ·have hnm' : (r.name != name) = true := by simp [bne, hnm]
   have JN : Hid (J (Sx.turnsOf (rs.take (i + 1)) name) (wr.alloc (.cells (ruleCells r).toArray 40))) := by
    show J _ _
    rw [Sx.turnsOf_take HX.out, hnm, if_neg (by decide), List.append_nil]
    exact HJ.out _ _ _ none JS.out (World.grownBy_alloc wr _ none) (fun r e => by cases e)
   have BN := hid (B0.out.alloc B0.out.size (.cells (ruleCells r).toArray 40))
   have SN : Hid (W.heap.size ≤ (wr.alloc (.cells (ruleCells r).toArray 40)).heap.size) := by show _ ≤ _; have := SZ.out; simp; omega
   gi_wp2
   go_roundw
   case rel => exact ⟨i + 1, by omega, by go_num, JN, BN, SN⟩
   case measure => simp [intOf]; omega
  ·have hnm' : (r.name != name) = false := by simp [bne, hnm]
   have HNM := hid hnm
   have J1 : Hid (J (Sx.turnsOf (rs.take i) name ++ Sx.turnsTo r 0) (wr.alloc (.cells (ruleCells r).toArray 40))) := by
    show J _ _
    simp only [Sx.turnsTo, List.range_zero, List.map_nil, List.append_nil]
    exact HJ.out _ _ _ none JS.out (World.grownBy_alloc wr _ none) (fun r e => by cases e)
   have B1 := hid (B0.out.alloc B0.out.size (.cells (ruleCells r).toArray 40))
   have S1 : Hid (W.heap.size ≤ (wr.alloc (.cells (ruleCells r).toArray 40)).heap.size) := by show _ ≤ _; have := SZ.out; simp; omega
   have K1 : Hid ((wr.alloc (.cells (ruleCells r).toArray 40)).heap[wr.heap.size]? = some (.cells (ruleCells r).toArray 40)) := World.alloc_heap_new wr _
   have hRs : Hid (Bs ≠ wr.heap.size) := by show _ ≠ _; have := SZ.out; omega
   have HOKR := hid ok
   have X1 := hid (ca_new wr (ruleCells r) 40)
   obtain ⟨f1, f2, f3, _, _, fa, _, _⟩ := ok
   have hmany : Hid ((Sx.many r : Int) = r.to - r.frm + 1) := by show _ = _; simp [Sx.many]; omega
   gi_wp2
   obtain ⟨Rb, hRb⟩ : ∃ Rb, wr.heap.size = Rb := ⟨_, rfl⟩
   obtain ⟨V, hV⟩ : ∃ V, wr.alloc (.cells (ruleCells r).toArray 40) = V := ⟨_, rfl⟩
   rw [show wr.alloc (.cells #[strV r.name, .int .i64 r.frm, .int .i64 r.to, .int .i64 r.month, .int .i64 r.kind, .int .i64 r.wk, .int .i64 r.n, .int .i64 r.at_, .int .i64 r.clock, .int .i64 r.save, strV r.letter] 40) = V from hV, hRb]
   rw [hV] at J1 B1 S1 K1 X1
   rw [hRb] at K1 hRs X1
   clear hV c0 c1 c2 c3 c4 c5 c6 c7 c8 c9 c10 hrb JS B0 cn1 sBn SZ
   gi_loopw [6] (fun y wq => ∃ k : Nat, k ≤ Sx.many r ∧ y = .int .i64 (r.frm + (k : Int)) ∧ Hid (J (Sx.turnsOf (rs.take i) name ++ Sx.turnsTo r k) wq) ∧ Hid (Below W0.heap.size W0 wq) ∧ Hid (wq.heap[Rb]? = some (.cells (ruleCells r).toArray 40)) ∧ Hid (CellsAt wq Rb (ruleCells r)) ∧ Hid (W.heap.size ≤ wq.heap.size)) (fun y _ => (r.to + 1 - intOf y).toNat)
   case atStart => exact ⟨0, Nat.zero_le _, by simp, J1, B1, K1, X1, S1⟩
   case round =>
    clear J1 B1 K1 S1 X1
    obtain ⟨k, hk, rfl, J1, B1, K1, X1, S1⟩ := hrel
    have sR := X1.out.1
    obtain ⟨x0, _⟩ := ca_at X1.out 0 rfl
    obtain ⟨x1, _⟩ := ca_at X1.out 1 rfl
    obtain ⟨x2, _⟩ := ca_at X1.out 2 rfl
    obtain ⟨x3, _⟩ := ca_at X1.out 3 rfl
    obtain ⟨x4, _⟩ := ca_at X1.out 4 rfl
    obtain ⟨x5, _⟩ := ca_at X1.out 5 rfl
    obtain ⟨x6, _⟩ := ca_at X1.out 6 rfl
    obtain ⟨x7, _⟩ := ca_at X1.out 7 rfl
    obtain ⟨x8, _⟩ := ca_at X1.out 8 rfl
    obtain ⟨x9, _⟩ := ca_at X1.out 9 rfl
    obtain ⟨x10, _⟩ := ca_at X1.out 10 rfl
    by_cases hlk : k < Sx.many r
    case neg =>
     have hke : k = Sx.many r := by omega
     have hgt : ¬ r.frm + (k : Int) ≤ r.to := by have := hmany.out; omega
     have JN : Hid (J (Sx.turnsOf (rs.take (i + 1)) name) wr) := by
      have := J1.out
      rw [hke, Sx.turnsTo_all] at this
      show J _ _
      rw [Sx.turnsOf_take HX.out, HNM.out, if_pos rfl]
      exact this
     gi_wp2
     go_roundw
     case rel => exact ⟨i + 1, by omega, by go_num, JN, B1, S1⟩
     case measure => simp [intOf]; omega
    have hle : r.frm + (k : Int) ≤ r.to := by have := hmany.out; omega
    have OY := hid (Sx.on_year HOKR.out (y := r.frm + (k : Int)) (by omega) (by omega))
    have HC := hid (turnIn_any r (r.frm + (k : Int)) wr OY.out.1 fa.1 fa.2)
    obtain ⟨T, hT⟩ : ∃ T, Sx.turnIn r (r.frm + (k : Int)) = T := ⟨_, rfl⟩
    rw [hT] at HC
    have HT := hid hT
    have HLT := hid (turns_lt HX.out HNM.out hlk)
    clear hT
    gi_wp2_with (refine ⟨trivial, ?_⟩; gi_at_call 128; refine (callsIn_wide.2 HC.out).mono ?_; rintro e w1 ⟨rfl, hb⟩; have J2 := HJ.out _ _ _ none J1.out (below_grown hb) (fun r e => by cases e); obtain ⟨fn, tmps, assign, body, hy, hR⟩ := HY.out _ T w1 J2 HLT.out)
    refine hR.mono ?_
    have KB := K1.out
    have B2 : Below W0.heap.size W0 w1 := B1.out.trans (hb.mono B1.out.size)
    have X2 := ca_below X1.out hb
    have K2 : w1.heap[Rb]? = some (.cells (ruleCells r).toArray 40) := by rw [hb.block Rb sR]; exact KB
    have S2 : W.heap.size ≤ w1.heap.size := Nat.le_trans S1.out hb.size
    rintro e W3 (⟨rfl, hJ3, hk3⟩ | ⟨rfl, hJx3⟩)
    ·have JN : Hid (J (Sx.turnsOf (rs.take i) name ++ Sx.turnsTo r (k + 1)) W3) := by
      show J _ _
      rw [Sx.turnsTo_succ, HT.out, ← List.append_assoc]
      exact hJ3
     have BN : Hid (Below W0.heap.size W0 W3) := B2.trans hk3.1
     have KN : Hid (W3.heap[Rb]? = some (.cells (ruleCells r).toArray 40)) := hk3.2.cells Rb _ _ K2 (by decide) (Ne.symm hRs.out)
     have XN : Hid (CellsAt W3 Rb (ruleCells r)) := ca_block X2 (Nat.lt_of_lt_of_le X2.1 hk3.2.size) (by rw [KN.out, K2])
     have SN : Hid (W.heap.size ≤ W3.heap.size) := Nat.le_trans S2 hk3.2.size
     clear hk3 hJ3 B2 X2 K2 S2 hb hR hy J2 KB J1 B1 K1 X1 S1
     gi_wp2
     go_roundw
     case rel => exact ⟨k + 1, by omega, by go_num, JN, BN, KN, XN, SN⟩
     case measure => simp [intOf]; omega
    ·have PX : Hid ((Sx.turnsOf (rs.take i) name ++ Sx.turnsTo r k ++ [T]) <+: Sx.turnsOf rs name) := by
      have := turns_prefix HX.out HNM.out (k := k + 1) (by omega)
      rw [Sx.turnsTo_succ, HT.out, ← List.append_assoc] at this
      exact this
     gi_wp2
     refine bodyPost_ret (results_none rfl _ _ _) rfl ?_
     exact ⟨⟨_, rfl⟩, .inr ⟨_, PX.out, hJx3⟩⟩
end Go.Proofs.YtkhlkohlccndgaaGreat
namespace Go.Proofs.YtkhlkohlccndgaaGreat
open Go.RowKit Go.Shelf
attribute [local go_sem] Oper.semAt_some

namespace Sx
def ago : Tn := ⟨-1099511627776, 0, 0, []⟩
def stepsFrom : Tn → List Tn → List (Tn × Tn)
 | _, [] => []
 | p, t :: r => (p, t) :: stepsFrom t r
def stepsOf (l : List Tn) : List (Tn × Tn) := stepsFrom ago l
def lastT (p : Tn) (l : List Tn) : Tn := (l.getLast?).getD p
theorem stepsFrom_append : ∀ (l : List Tn) (p t : Tn), stepsFrom p (l ++ [t]) = stepsFrom p l ++ [(lastT p l, t)]
 | [], p, t => rfl
 | u :: r, p, t => by
   simp only [List.cons_append, stepsFrom, stepsFrom_append r u t, lastT, List.getLast?_cons]
   cases r.getLast? <;> rfl
theorem stepsFrom_len : ∀ (l : List Tn) (p : Tn), (stepsFrom p l).length = l.length
 | [], p => rfl
 | u :: r, p => by simp [stepsFrom, stepsFrom_len r u]
theorem take_snoc {α : Type} {l : List α} {i : Nat} {t : α} (h : l[i]? = some t) : l.take (i + 1) = l.take i ++ [t] := by
 rw [List.take_add_one, h]; rfl
theorem steps_next {l : List Tn} {i : Nat} {t : Tn} (h : l[i]? = some t) : stepsOf (l.take (i + 1)) = stepsOf (l.take i) ++ [(lastT ago (l.take i), t)] := by
 unfold stepsOf; rw [take_snoc h, stepsFrom_append]
theorem last_next {l : List Tn} {i : Nat} {t : Tn} (h : l[i]? = some t) : lastT ago (l.take (i + 1)) = t := by
 rw [take_snoc h]; simp [lastT]
theorem stepsFrom_prefix : ∀ (a b : List Tn) (p : Tn), stepsFrom p a <+: stepsFrom p (a ++ b)
 | [], b, p => by simp [stepsFrom]
 | u :: r, b, p => by
   simp only [List.cons_append, stepsFrom]
   obtain ⟨t, ht⟩ := stepsFrom_prefix r b u
   exact ⟨t, by simp [ht]⟩
theorem steps_prefix (l : List Tn) (i : Nat) : stepsOf (l.take i) <+: stepsOf l := by
 have := stepsFrom_prefix (l.take i) (l.drop i) ago
 rwa [List.take_append_drop] at this
end Sx
def RdTurns := Rd 4 turnC
def RdTimes := Rd 3 timeC
theorem rd_turn {w : World} {b o i : Nat} {t : Sx.Tn} (h : ∀ k u, (turnC t)[k]? = some u → w.cell? ⟨b, o + i * 4 + k, none⟩ = some u) :
  w.cell? ⟨b, o + i * 4, none⟩ = some (.int .i64 t.stands) ∧ w.cell? ⟨b, o + i * 4 + 1, none⟩ = some (.int .i64 t.clock) ∧ w.cell? ⟨b, o + i * 4 + 2, none⟩ = some (.int .i64 t.save) ∧ w.cell? ⟨b, o + i * 4 + 3, none⟩ = some (strV t.letter) :=
 ⟨h 0 _ rfl, h 1 _ rfl, h 2 _ rfl, h 3 _ rfl⟩
theorem ca_heap2 {W : World} {b : Nat} {vs : List Value} {t : TypeId} (h : W.heap[b]? = some (.cells vs.toArray t (0, 0))) : CellsAt W b vs := by
 refine ⟨(Array.getElem?_eq_some_iff.1 h).1, fun k v hv => ?_⟩
 simp [World.cell?, World.frozen?, h, hv]
/- four cells of a block written one by one -/
theorem put4 {W : World} {b : Nat} {t : TypeId} {c0 c1 c2 c3 : Value} (v0 v1 v2 v3 : Value) (h : W.heap[b]? = some (.cells #[c0, c1, c2, c3] t)) :
  ((((W.setCell ⟨b, 0, none⟩ v0).setCell ⟨b, 1, none⟩ v1).setCell ⟨b, 2, none⟩ v2).setCell ⟨b, 3, none⟩ v3).heap[b]? = some (.cells #[v0, v1, v2, v3] t) := by
 obtain ⟨hlt, e⟩ := Array.getElem?_eq_some_iff.1 h
 simp [World.setCell, Array.getElem?_modify, h]
theorem grown4 (W : World) (b : Nat) (v0 v1 v2 v3 : Value) : W.grownBy ((((W.setCell ⟨b, 0, none⟩ v0).setCell ⟨b, 1, none⟩ v1).setCell ⟨b, 2, none⟩ v2).setCell ⟨b, 3, none⟩ v3) (some b) := by
 refine ⟨rfl, rfl, rfl, by simp, fun k hk hn => ?_⟩
 have hne : k ≠ b := fun e => hn (by rw [e])
 rw [Below.heap_setCell _ _ _ _ hne, Below.heap_setCell _ _ _ _ hne, Below.heap_setCell _ _ _ _ hne, Below.heap_setCell _ _ _ _ hne]

theorem steps1_in (n l Bo Bs : Nat) (hn : 1 ≤ n) (ts : List Sx.Tn) (ra : Option Addr) (rcap : Nat) (W0 W : World) (h : RdTurns W0 (.slice ra ts.length rcap) ts) (hts : ts.length ≤ 10000)
  (cl : W.cell? ⟨Bo, 0, none⟩ = some (.slice ra ts.length rcap)) (hBo : Bo < W.heap.size) (hBs : Bs < W.heap.size) (hW : Below W0.heap.size W0 W)
  (J Jx : List (Sx.Tn × Sx.Tn) → World → Prop) (hJ : AbidesC W.heap.size J)
  (hY : ∀ pre x W1, J pre W1 → pre ++ [x] <+: Sx.stepsOf ts → YieldAt Fence.wide (n - 1) Tryz.prog l #[stepV x.1 x.2] W1 fun e W' => (e = .returned (.bool true) ∧ J (pre ++ [x]) W' ∧ Kp W0.heap.size 72 Bs W1 W') ∨ (e = .returned (.bool false) ∧ Jx (pre ++ [x]) W'))
  (h0 : J [] W) :
  CallsIn Fence.wide n Tryz.prog 131 #[.func (.yield l) #[] #[], .pointer (some ⟨Bo, 0, none⟩)] W fun e W' => (∃ v, e = .returned v) ∧ ((∃ ys, ys = Sx.stepsOf ts ∧ J ys W') ∨ (∃ pre, pre <+: Sx.stepsOf ts ∧ Jx pre W')) := by
 have HY := hid hY
 have HJ := hid hJ
 have H := hid h
 have cl1 := cl
 have sBo : Bo < W.heap.size := hBo
 have J0 : Hid (J (Sx.stepsOf (ts.take 0)) (W.alloc (.cells (turnC Sx.ago).toArray 120))) := hJ _ _ _ none h0 (World.grownBy_alloc W _ none) (fun r e => by cases e)
 have B0 := hid (hW.alloc hW.size (.cells (turnC Sx.ago).toArray 120))
 have F0 : Hid ((W.alloc (.cells (turnC Sx.ago).toArray 120)).heap[W.heap.size]? = some (.cells (turnC (Sx.lastT Sx.ago (ts.take 0))).toArray 120)) := World.alloc_heap_new W _
 have S0 : Hid (W.heap.size < (W.alloc (.cells (turnC Sx.ago).toArray 120)).heap.size) := by show _ < _; simp
 have hsB : Hid (Bs ≠ W.heap.size ∧ W0.heap.size ≤ W.heap.size) := ⟨by omega, hW.size⟩
 have BsL := hid hBs
 clear hY hJ h cl h0
 refine callsIn_of_wp Tryz.func131 rfl trivial ?_ rfl
 simp only [Tryz.ntmps131, List.size_toArray, List.length_cons, List.length_nil, Nat.reduceAdd, Nat.reduceSub, Array.replicate_succ, Array.replicate_zero, List.push_toArray, List.append_toArray, List.nil_append, List.cons_append]
 gi_wp2
 obtain ⟨Fb, hFb⟩ : ∃ Fb, W.heap.size = Fb := ⟨_, rfl⟩
 rw [hFb] at HJ F0 S0 hsB BsL ⊢
 obtain ⟨V, hV⟩ : ∃ V, W.alloc (.cells (turnC Sx.ago).toArray 120) = V := ⟨_, rfl⟩
 rw [show W.alloc (.cells #[.int .i64 (-1099511627776), .int .i64 0, .int .i64 0, .string ⟨#[]⟩] 120) = V from hV]
 rw [hV] at J0 B0 F0 S0
 clear hV hFb hW hBs cl1 sBo
 gi_loopw [9] (fun a wr => ∃ i : Nat, i ≤ ts.length ∧ a = .int .i64 i ∧ Hid (J (Sx.stepsOf (ts.take i)) wr) ∧ Hid (Below W0.heap.size W0 wr) ∧ Hid (wr.heap[Fb]? = some (.cells (turnC (Sx.lastT Sx.ago (ts.take i))).toArray 120)) ∧ Hid (Fb < wr.heap.size)) (fun a _ => ts.length - (intOf a).toNat)
 case atStart => exact ⟨0, Nat.zero_le _, rfl, J0, B0, F0, S0⟩
 case round =>
  clear J0 B0 F0 S0
  obtain ⟨i, hi, rfl, JS, B0, F0, SZ⟩ := hrel
  by_cases hlt : i < ts.length
  case neg =>
   have e : ts.take i = ts := List.take_of_length_le (by omega)
   rw [e] at JS
   gi_wp2
   go_end0
   exact ⟨⟨_, rfl⟩, .inl ⟨_, rfl, JS.out⟩⟩
  obtain ⟨t, hx⟩ : ∃ t, ts[i]? = some t := ⟨_, List.getElem?_eq_getElem hlt⟩
  obtain ⟨rb, ro, rfl, hrb, hc⟩ := rd_elem (rd_below H.out B0.out) hx
  obtain ⟨c0, c1, c2, c3⟩ := rd_turn hc
  have HX := hid hx
  have HL := hid (Sx.steps_next hx)
  have HN := hid (Sx.last_next hx)
  obtain ⟨p, hp⟩ : ∃ p, Sx.lastT Sx.ago (ts.take i) = p := ⟨_, rfl⟩
  rw [hp] at F0 HL
  have CF := ca_heap2 F0.out
  obtain ⟨f0, z0⟩ := ca_at CF 0 rfl
  obtain ⟨f1, z1⟩ := ca_at CF 1 rfl
  obtain ⟨f2, z2⟩ := ca_at CF 2 rfl
  obtain ⟨f3, z3⟩ := ca_at CF 3 rfl
  have sF := SZ.out
  have J2 : Hid (J (Sx.stepsOf (ts.take i)) (wr.alloc (.cells (turnC t).toArray 120))) := HJ.out _ _ _ none JS.out (World.grownBy_alloc wr _ none) (fun r e => by cases e)
  have B2 := hid (B0.out.alloc B0.out.size (.cells (turnC t).toArray 120))
  have PX : Hid ((Sx.stepsOf (ts.take i) ++ [(p, t)]) <+: Sx.stepsOf ts) := by
   show _ <+: _
   rw [← HL.out]
   exact Sx.steps_prefix ts (i + 1)
  clear hc hx hp CF
  obtain ⟨fn, tmps, assign, body, hy, hR⟩ := HY.out _ (p, t) (wr.alloc (.cells #[.int .i64 t.stands, .int .i64 t.clock, .int .i64 t.save, strV t.letter] 120)) J2.out PX.out
  dsimp only at hy
  have HR := hid hR
  have K2 : Hid ((wr.alloc (.cells (turnC t).toArray 120)).heap[wr.heap.size]? = some (.cells (turnC t).toArray 120)) := World.alloc_heap_new wr _
  have F2 : Hid ((wr.alloc (.cells (turnC t).toArray 120)).heap[Fb]? = some (.cells (turnC p).toArray 120)) := by show _ = _; rw [Below.heap_alloc _ _ _ sF]; exact F0.out
  have hT : Hid (Bs ≠ wr.heap.size ∧ W0.heap.size ≤ wr.heap.size ∧ Fb < wr.heap.size) := ⟨by have := hsB.out; have := BsL.out; omega, B0.out.size, SZ.out⟩
  clear hR
  gi_wp2
  refine HR.out.mono ?_
  clear HR hy f0 f1 f2 f3 z0 z1 z2 z3 c0 c1 c2 c3 hrb F0 JS B0 SZ sF J2
  obtain ⟨Tb, hTb⟩ : ∃ Tb, wr.heap.size = Tb := ⟨_, rfl⟩
  obtain ⟨X, hX⟩ : ∃ X, wr.alloc (.cells (turnC t).toArray 120) = X := ⟨_, rfl⟩
  rw [show wr.alloc (.cells #[.int .i64 t.stands, .int .i64 t.clock, .int .i64 t.save, strV t.letter] 120) = X from hX]
  rw [hX] at K2 F2 B2
  rw [hTb] at K2 hT ⊢
  clear hX hTb
  rintro e W3 (⟨rfl, hJ3, hk3⟩ | ⟨rfl, hJx3⟩)
  ·have F3 : W3.heap[Fb]? = some (.cells (turnC p).toArray 120) := hk3.2.cells Fb _ _ F2.out (by decide) (Ne.symm hsB.out.1)
   have T3 : W3.heap[Tb]? = some (.cells (turnC t).toArray 120) := hk3.2.cells Tb _ _ K2.out (by decide) (Ne.symm hT.out.1)
   have B3 : Below W0.heap.size W0 W3 := B2.out.trans hk3.1
   have s3 : Fb < W3.heap.size := (Array.getElem?_eq_some_iff.1 F3).1
   have st3 : Tb < W3.heap.size := (Array.getElem?_eq_some_iff.1 T3).1
   obtain ⟨f0, z0⟩ := ca_at (ca_heap2 F3) 0 rfl
   obtain ⟨f1, z1⟩ := ca_at (ca_heap2 F3) 1 rfl
   obtain ⟨f2, z2⟩ := ca_at (ca_heap2 F3) 2 rfl
   obtain ⟨f3, z3⟩ := ca_at (ca_heap2 F3) 3 rfl
   obtain ⟨c0, _⟩ := ca_at (ca_heap2 T3) 0 rfl
   obtain ⟨c1, _⟩ := ca_at (ca_heap2 T3) 1 rfl
   obtain ⟨c2, _⟩ := ca_at (ca_heap2 T3) 2 rfl
   obtain ⟨c3, _⟩ := ca_at (ca_heap2 T3) 3 rfl
   have G := grown4 W3 Fb (.int .i64 t.stands) (.int .i64 t.clock) (.int .i64 t.save) (strV t.letter)
   have JN : Hid (J (Sx.stepsOf (ts.take (i + 1))) ((((W3.setCell ⟨Fb, 0, none⟩ (.int .i64 t.stands)).setCell ⟨Fb, 1, none⟩ (.int .i64 t.clock)).setCell ⟨Fb, 2, none⟩ (.int .i64 t.save)).setCell ⟨Fb, 3, none⟩ (strV t.letter))) := by
    show J _ _
    rw [HL.out]
    exact HJ.out _ _ _ _ hJ3 G (fun r e => by cases e; exact ⟨Nat.le_refl _, .inl rfl⟩)
   have BN := hid (B3.grown G B3.size (fun k e => by cases e; exact hsB.out.2))
   have FN : Hid (((((W3.setCell ⟨Fb, 0, none⟩ (.int .i64 t.stands)).setCell ⟨Fb, 1, none⟩ (.int .i64 t.clock)).setCell ⟨Fb, 2, none⟩ (.int .i64 t.save)).setCell ⟨Fb, 3, none⟩ (strV t.letter)).heap[Fb]? = some (.cells (turnC (Sx.lastT Sx.ago (ts.take (i + 1)))).toArray 120)) := by
    show _ = _
    rw [HN.out]
    exact put4 _ _ _ _ F3
   have SN : Hid (Fb < ((((W3.setCell ⟨Fb, 0, none⟩ (.int .i64 t.stands)).setCell ⟨Fb, 1, none⟩ (.int .i64 t.clock)).setCell ⟨Fb, 2, none⟩ (.int .i64 t.save)).setCell ⟨Fb, 3, none⟩ (strV t.letter)).heap.size) := Nat.lt_of_lt_of_le s3 G.size
   clear hk3 hJ3 B3 G F3 T3 F2 K2 B2
   gi_wp2
   go_roundw
   case rel => exact ⟨i + 1, by omega, by go_num, JN, BN, FN, SN⟩
   case measure => simp [intOf]; omega
  ·gi_wp2
   refine bodyPost_ret (results_none rfl _ _ _) rfl ?_
   exact ⟨⟨_, rfl⟩, .inr ⟨_, PX.out, hJx3⟩⟩
theorem steps_stops (n Bo Bs : Nat) (hn : 1 ≤ n) (ts : List Sx.Tn) (ra : Option Addr) (rcap : Nat) (W0 w : World) (h : RdTurns W0 (.slice ra ts.length rcap) ts) (hts : ts.length ≤ 10000)
  (cl : w.cell? ⟨Bo, 0, none⟩ = some (.slice ra ts.length rcap)) (hBo : Bo < w.heap.size) (hBs : Bs < w.heap.size) (hW : Below W0.heap.size W0 w) :
  SeqC Fence.wide n Tryz.prog 131 #[.pointer (some ⟨Bo, 0, none⟩)] (fun x : Sx.Tn × Sx.Tn => #[stepV x.1 x.2]) (Kp W0.heap.size 72 Bs) (fun ys => ys = Sx.stepsOf ts) (fun pre => pre <+: Sx.stepsOf ts) w :=
 fun l J Jx W hW1 hJ hJx hY h0 => steps1_in n l Bo Bs hn ts ra rcap W0 W h hts ((hW1.cell (p := ⟨Bo, 0, none⟩) hBo).trans cl) (Nat.lt_of_lt_of_le hBo hW1.size) (Nat.lt_of_lt_of_le hBs hW1.size) (hW.trans (hW1.mono hW.size)) J Jx hJ hY h0
end Go.Proofs.YtkhlkohlccndgaaGreat
namespace Go.Proofs.YtkhlkohlccndgaaGreat
open Go.RowKit Go.Shelf
attribute [local go_sem] Oper.semAt_some

/- zones with the slices of their eras -/
structure ZV where
 z : Sx.Zn
 a : Option Addr
 c : Nat
abbrev zvS (p : ZV) : Value := .slice p.a p.z.eras.length p.c
def zvCells (p : ZV) : List Value := [strV p.z.name, .slice p.a p.z.eras.length p.c]
abbrev zvV (p : ZV) : Value := .agg #[strV p.z.name, .slice p.a p.z.eras.length p.c]
structure RdZv (w : World) (v : Value) (zs : List Sx.Zn) (ps : List ZV) : Prop where
 fst : ps.map ZV.z = zs
 rd : Rd 2 zvCells w v ps
 eras : ∀ p ∈ ps, RdEras w (.slice p.a p.z.eras.length p.c) p.z.eras
 cap : ∀ p ∈ ps, p.z.eras.length ≤ p.c
def zvOf (p : Sx.Zn × Value) : ZV := match p.2 with
 | .slice a _ c => ⟨p.1, a, c⟩
 | _ => ⟨p.1, none, 0⟩
theorem zvOf_z (p : Sx.Zn × Value) : (zvOf p).z = p.1 := by unfold zvOf; split <;> rfl
theorem rdZv_of {w : World} {v : Value} {zs : List Sx.Zn} (h : RdZones w v zs) (hc : CapZs w v zs) : ∃ ps, RdZv w v zs ps := by
 obtain ⟨vs, h1, h2, h3⟩ := h
 obtain ⟨a, cap, e1, e2⟩ := h2
 have hl : ((zs.zip vs).map fun p => (p.1.name, p.2)).length = zs.length := by simp [h1]
 have hpl : ((zs.zip vs).map zvOf).length = zs.length := by simp [h1]
 have at_ : ∀ (i : Nat) (p : ZV), ((zs.zip vs).map zvOf)[i]? = some p → ∃ ev, vs[i]? = some ev ∧ zs[i]? = some p.z ∧ ev = .slice p.a p.z.eras.length p.c := by
  intro i p hp
  rw [List.getElem?_map] at hp
  cases q : (zs.zip vs)[i]? with
  | none => rw [q] at hp; cases hp
  | some zv =>
    rw [q] at hp
    obtain ⟨z, ev⟩ := zv
    obtain ⟨a1, a2⟩ := List.getElem?_zip_eq_some.1 q
    obtain ⟨ea, ec, rfl⟩ := rd_shape (h3 i ev z a2 a1)
    simp [zvOf] at hp
    subst hp
    exact ⟨_, a2, a1, rfl⟩
 have ne_of : ∀ {i : Nat} {p : ZV}, ((zs.zip vs).map zvOf)[i]? = some p → (zs.zip vs).map (fun p => (p.1.name, p.2)) ≠ [] := by
  intro i p hp q
  have h0 := congrArg List.length q
  have h1' := (List.getElem?_eq_some_iff.1 hp).1
  rw [hl, List.length_nil] at h0
  rw [hpl, h0] at h1'
  exact absurd h1' (Nat.not_lt_zero _)
 have cell : ∀ (i : Nat) (p : ZV), ((zs.zip vs).map zvOf)[i]? = some p → ((zs.zip vs).map fun p => (p.1.name, p.2))[i]? = some (p.z.name, .slice p.a p.z.eras.length p.c) := by
  intro i p hp
  obtain ⟨ev, a1, a2, rfl⟩ := at_ i p hp
  rw [List.getElem?_map, (List.getElem?_zip_eq_some (z := (p.z, .slice p.a p.z.eras.length p.c))).2 ⟨a2, a1⟩]; rfl
 refine ⟨(zs.zip vs).map zvOf, ?_, ⟨a, cap, by rw [e1, hl, hpl], fun hn => ?_⟩, fun p hp => ?_, fun p hp => ?_⟩
 ·rw [List.map_map]
  have : (ZV.z ∘ zvOf) = Prod.fst := by funext p; exact zvOf_z p
  rw [this]
  exact List.map_fst_zip (by omega)
 ·obtain ⟨b, o, q1, q2, q3⟩ := e2 (by intro q; apply hn; have h0 := congrArg List.length q; rw [hl] at h0; exact List.length_eq_zero_iff.1 (by rw [hpl]; simpa using h0))
  exact ⟨b, o, q1, q2, fun i x hx k u hu => q3 i _ (cell i x hx) k u hu⟩
 ·obtain ⟨i, hi⟩ := List.mem_iff_getElem?.1 hp
  obtain ⟨ev, a1, a2, rfl⟩ := at_ i p hi
  exact h3 i _ _ a1 a2
 ·obtain ⟨i, hi⟩ := List.mem_iff_getElem?.1 hp
  obtain ⟨ev, a1, a2, rfl⟩ := at_ i p hi
  obtain ⟨b, o, q1, q2, q3⟩ := e2 (ne_of hi)
  obtain ⟨a', c', q4, q5⟩ := hc i p.z b o cap a2 (by rw [e1, q1, hl]) (.slice p.a p.z.eras.length p.c) (q3 i _ (cell i p hi) 1 _ rfl)
  simp at q4
  omega
theorem rdZv_below {w w' : World} {v : Value} {zs : List Sx.Zn} {ps : List ZV} (h : RdZv w v zs ps) (hb : Below w.heap.size w w') : RdZv w' v zs ps :=
 ⟨h.fst, rd_below h.rd hb, fun p hp => rd_below (h.eras p hp) hb, h.cap⟩
theorem rdZv_len {w : World} {v : Value} {zs : List Sx.Zn} {ps : List ZV} (h : RdZv w v zs ps) : ps.length = zs.length := by rw [← h.fst]; simp
theorem abC_own {β : Type} {J : β → World → Prop} (h : AllocJ J) {s : β} {W : World} (hs : J s W) (o : Obj) : J s (W.alloc o) := h s W o hs
theorem valsL_in (Kp : World → World → Prop) (n l Bo : Nat) (hn : 1 ≤ n) (xs : List Sx.Lk) (ra : Option Addr) (rcap : Nat) (W : World) (h : ∀ A, Kp W A → RdLinks A (.slice ra xs.length rcap) xs) (hxs : xs.length ≤ 10000)
  (cl : W.cell? ⟨Bo, 0, none⟩ = some (.slice ra xs.length rcap)) (hBo : Bo < W.heap.size) (hW : Kp W W) (hKt : ∀ A B C, Kp A B → Kp B C → Kp A C) (hKa : ∀ A o, Kp W A → Kp A (A.alloc o))
  (J Jx : List Sx.Lk → World → Prop) (hJ : AllocJ J)
  (hY : ∀ pre x W1, J pre W1 → pre ++ [x] <+: xs → YieldAt Fence.wide (n - 1) Tryz.prog l #[linkV x] W1 fun e W' => (e = .returned (.bool true) ∧ J (pre ++ [x]) W' ∧ Kp W1 W') ∨ (e = .returned (.bool false) ∧ Jx (pre ++ [x]) W'))
  (h0 : J [] W) :
  CallsIn Fence.wide n Tryz.prog 160 #[.func (.yield l) #[] #[], .pointer (some ⟨Bo, 0, none⟩)] W fun e W' => (∃ v, e = .returned v) ∧ ((∃ ys, ys = xs ∧ J ys W') ∨ (∃ pre, pre <+: xs ∧ Jx pre W')) := by
 have HY := hid hY
 have HJ := hid hJ
 have H := hid h
 have J0 : Hid (J (xs.take 0) W) := h0
 have B0 := hid hW
 have HT := hid hKt
 have HA := hid hKa
 clear hY hJ h h0 hW hKt hKa
 refine callsIn_of_wp Tryz.func160 rfl trivial ?_ rfl
 simp only [Tryz.ntmps160, List.size_toArray, List.length_cons, List.length_nil, Nat.reduceAdd, Nat.reduceSub, Array.replicate_succ, Array.replicate_zero, List.push_toArray, List.append_toArray, List.nil_append, List.cons_append]
 gi_wp2
 clear cl hBo
 gi_loopw [7] (fun a wr => ∃ i : Nat, i ≤ xs.length ∧ a = .int .i64 i ∧ Hid (J (xs.take i) wr) ∧ Hid (Kp W wr)) (fun a _ => xs.length - (intOf a).toNat)
 case atStart => exact ⟨0, Nat.zero_le _, rfl, J0, B0⟩
 case round =>
  clear J0 B0
  obtain ⟨i, hi, rfl, JS, B0⟩ := hrel
  by_cases hlt : i < xs.length
  case neg =>
   have e : xs.take i = xs := List.take_of_length_le (by omega)
   rw [e] at JS
   gi_wp2
   go_end0
   exact ⟨⟨_, rfl⟩, .inl ⟨_, rfl, JS.out⟩⟩
  obtain ⟨x, hx⟩ : ∃ x, xs[i]? = some x := ⟨_, List.getElem?_eq_getElem hlt⟩
  obtain ⟨rb, ro, rfl, hrb, hc⟩ := rd_elem (H.out wr B0.out) hx
  obtain ⟨c0, c1⟩ := rd_link hc
  have HL : Hid (xs.take (i + 1) = xs.take i ++ [x]) := Sx.take_snoc hx
  have PX : Hid (xs.take i ++ [x] <+: xs) := by show _ <+: _; rw [← HL.out]; exact List.take_prefix _ _
  have J2 : Hid (J (xs.take i) (wr.alloc (.cells #[strV x.to, strV x.name] 35))) := abC_own HJ.out JS.out _
  have B2 : Hid (Kp W (wr.alloc (.cells #[strV x.to, strV x.name] 35))) := HT.out _ _ _ B0.out (HA.out _ _ B0.out)
  clear hc hx
  obtain ⟨fn, tmps, assign, body, hy, hR⟩ := HY.out _ x (wr.alloc (.cells #[strV x.to, strV x.name] 35)) J2.out PX.out
  try dsimp only at hy
  have HR := hid hR
  clear hR
  gi_wp2
  refine HR.out.mono ?_
  clear HR hy JS B0 J2 hrb
  rintro e W3 (⟨rfl, hJ3, hk3⟩ | ⟨rfl, hJx3⟩)
  ·have B3 : Hid (Kp W W3) := HT.out _ _ _ B2.out hk3
   have JN : Hid (J (xs.take (i + 1)) W3) := by show J _ _; rw [HL.out]; exact hJ3
   clear hJ3 hk3 B2
   gi_wp2
   go_roundw
   case rel => exact ⟨i + 1, by omega, by go_num, JN, B3⟩
   case measure => simp [intOf]; omega
  ·gi_wp2
   refine bodyPost_ret (results_none rfl _ _ _) rfl ?_
   exact ⟨⟨_, rfl⟩, .inr ⟨_, PX.out, hJx3⟩⟩
theorem valsL_gen (Kp : World → World → Prop) (n Bo : Nat) (hn : 1 ≤ n) (xs : List Sx.Lk) (ra : Option Addr) (rcap : Nat) (w : World) (h : ∀ W A, Below w.heap.size w W → Kp W A → RdLinks A (.slice ra xs.length rcap) xs) (hxs : xs.length ≤ 10000)
  (cl : w.cell? ⟨Bo, 0, none⟩ = some (.slice ra xs.length rcap)) (hBo : Bo < w.heap.size) (hr : ∀ W, Below w.heap.size w W → Kp W W) (hKt : ∀ A B C, Kp A B → Kp B C → Kp A C) (hKa : ∀ W A o, Below w.heap.size w W → Kp W A → Kp A (A.alloc o)) :
  SeqD Fence.wide n Tryz.prog 160 #[.pointer (some ⟨Bo, 0, none⟩)] (fun x : Sx.Lk => #[linkV x]) Kp (fun ys => ys = xs) (fun pre => pre <+: xs) w :=
 fun l J Jx W hW1 hJ hJx hY h0 => valsL_in Kp n l Bo hn xs ra rcap W (fun A => h W A hW1) hxs ((hW1.cell (p := ⟨Bo, 0, none⟩) hBo).trans cl) (Nat.lt_of_lt_of_le hBo hW1.size) (hr W hW1) hKt (fun A o => hKa W A o hW1) J Jx hJ hY h0
theorem valsL_seq (n Bo : Nat) (hn : 1 ≤ n) (xs : List Sx.Lk) (ra : Option Addr) (rcap : Nat) (W0 w : World) (h : RdLinks W0 (.slice ra xs.length rcap) xs) (hxs : xs.length ≤ 10000)
  (cl : w.cell? ⟨Bo, 0, none⟩ = some (.slice ra xs.length rcap)) (hBo : Bo < w.heap.size) (hW : Below W0.heap.size W0 w) :
  SeqD Fence.wide n Tryz.prog 160 #[.pointer (some ⟨Bo, 0, none⟩)] (fun x : Sx.Lk => #[linkV x]) (Below W0.heap.size) (fun ys => ys = xs) (fun pre => pre <+: xs) w :=
 valsL_gen _ n Bo hn xs ra rcap w (fun W A h1 h2 => rd_below h (hW.trans ((h1.mono hW.size).trans h2))) hxs cl hBo (fun W _ => Below.refl _ _) (fun _ _ _ a b => a.trans b) (fun W A o h1 h2 => (Below.refl _ _).alloc (Nat.le_trans hW.size (Nat.le_trans h1.size h2.size)) _)
theorem valsL_any (ra : Option Addr) (n rcap : Nat) (w : World) :
  Calls Tryz.prog 104 #[.slice ra n rcap] w fun e w' => e = .returned (.func (.func 160) #[] #[.pointer (some ⟨w.heap.size, 0, none⟩)]) ∧ w' = w.alloc (.cells #[.slice ra n rcap] 24) := by
 go_enter Tryz.func104, Tryz.ntmps104
 go_wp2
 go_ret
 exact ⟨rfl, rfl⟩
theorem valsZ_in (Kp : World → World → Prop) (n l Bo : Nat) (hn : 1 ≤ n) (xs : List ZV) (ra : Option Addr) (rcap : Nat) (W : World) (h : ∀ A, Kp W A → Rd 2 zvCells A (.slice ra xs.length rcap) xs) (hxs : xs.length ≤ 10000)
  (cl : W.cell? ⟨Bo, 0, none⟩ = some (.slice ra xs.length rcap)) (hBo : Bo < W.heap.size) (hW : Kp W W) (hKt : ∀ A B C, Kp A B → Kp B C → Kp A C) (hKa : ∀ A o, Kp W A → Kp A (A.alloc o))
  (J Jx : List ZV → World → Prop) (hJ : AllocJ J)
  (hY : ∀ pre x W1, J pre W1 → pre ++ [x] <+: xs → YieldAt Fence.wide (n - 1) Tryz.prog l #[zvV x] W1 fun e W' => (e = .returned (.bool true) ∧ J (pre ++ [x]) W' ∧ Kp W1 W') ∨ (e = .returned (.bool false) ∧ Jx (pre ++ [x]) W'))
  (h0 : J [] W) :
  CallsIn Fence.wide n Tryz.prog 161 #[.func (.yield l) #[] #[], .pointer (some ⟨Bo, 0, none⟩)] W fun e W' => (∃ v, e = .returned v) ∧ ((∃ ys, ys = xs ∧ J ys W') ∨ (∃ pre, pre <+: xs ∧ Jx pre W')) := by
 have HY := hid hY
 have HJ := hid hJ
 have H := hid h
 have J0 : Hid (J (xs.take 0) W) := h0
 have B0 := hid hW
 have HT := hid hKt
 have HA := hid hKa
 clear hY hJ h h0 hW hKt hKa
 refine callsIn_of_wp Tryz.func161 rfl trivial ?_ rfl
 simp only [Tryz.ntmps161, List.size_toArray, List.length_cons, List.length_nil, Nat.reduceAdd, Nat.reduceSub, Array.replicate_succ, Array.replicate_zero, List.push_toArray, List.append_toArray, List.nil_append, List.cons_append]
 gi_wp2
 clear cl hBo
 gi_loopw [7] (fun a wr => ∃ i : Nat, i ≤ xs.length ∧ a = .int .i64 i ∧ Hid (J (xs.take i) wr) ∧ Hid (Kp W wr)) (fun a _ => xs.length - (intOf a).toNat)
 case atStart => exact ⟨0, Nat.zero_le _, rfl, J0, B0⟩
 case round =>
  clear J0 B0
  obtain ⟨i, hi, rfl, JS, B0⟩ := hrel
  by_cases hlt : i < xs.length
  case neg =>
   have e : xs.take i = xs := List.take_of_length_le (by omega)
   rw [e] at JS
   gi_wp2
   go_end0
   exact ⟨⟨_, rfl⟩, .inl ⟨_, rfl, JS.out⟩⟩
  obtain ⟨x, hx⟩ : ∃ x, xs[i]? = some x := ⟨_, List.getElem?_eq_getElem hlt⟩
  obtain ⟨rb, ro, rfl, hrb, hc⟩ := rd_elem (H.out wr B0.out) hx
  have c0 : wr.cell? ⟨rb, ro + i * 2, none⟩ = some (strV x.z.name) := hc 0 _ rfl
  have c1 : wr.cell? ⟨rb, ro + i * 2 + 1, none⟩ = some (.slice x.a x.z.eras.length x.c) := hc 1 _ rfl
  have HL : Hid (xs.take (i + 1) = xs.take i ++ [x]) := Sx.take_snoc hx
  have PX : Hid (xs.take i ++ [x] <+: xs) := by show _ <+: _; rw [← HL.out]; exact List.take_prefix _ _
  have J2 : Hid (J (xs.take i) (wr.alloc (.cells #[strV x.z.name, .slice x.a x.z.eras.length x.c] 44))) := abC_own HJ.out JS.out _
  have B2 : Hid (Kp W (wr.alloc (.cells #[strV x.z.name, .slice x.a x.z.eras.length x.c] 44))) := HT.out _ _ _ B0.out (HA.out _ _ B0.out)
  clear hc hx
  obtain ⟨fn, tmps, assign, body, hy, hR⟩ := HY.out _ x (wr.alloc (.cells #[strV x.z.name, .slice x.a x.z.eras.length x.c] 44)) J2.out PX.out
  try dsimp only at hy
  have HR := hid hR
  clear hR
  gi_wp2
  refine HR.out.mono ?_
  clear HR hy JS B0 J2 hrb
  rintro e W3 (⟨rfl, hJ3, hk3⟩ | ⟨rfl, hJx3⟩)
  ·have B3 : Hid (Kp W W3) := HT.out _ _ _ B2.out hk3
   have JN : Hid (J (xs.take (i + 1)) W3) := by show J _ _; rw [HL.out]; exact hJ3
   clear hJ3 hk3 B2
   gi_wp2
   go_roundw
   case rel => exact ⟨i + 1, by omega, by go_num, JN, B3⟩
   case measure => simp [intOf]; omega
  ·gi_wp2
   refine bodyPost_ret (results_none rfl _ _ _) rfl ?_
   exact ⟨⟨_, rfl⟩, .inr ⟨_, PX.out, hJx3⟩⟩
theorem valsZ_gen (Kp : World → World → Prop) (n Bo : Nat) (hn : 1 ≤ n) (xs : List ZV) (ra : Option Addr) (rcap : Nat) (w : World) (h : ∀ W A, Below w.heap.size w W → Kp W A → Rd 2 zvCells A (.slice ra xs.length rcap) xs) (hxs : xs.length ≤ 10000)
  (cl : w.cell? ⟨Bo, 0, none⟩ = some (.slice ra xs.length rcap)) (hBo : Bo < w.heap.size) (hr : ∀ W, Below w.heap.size w W → Kp W W) (hKt : ∀ A B C, Kp A B → Kp B C → Kp A C) (hKa : ∀ W A o, Below w.heap.size w W → Kp W A → Kp A (A.alloc o)) :
  SeqD Fence.wide n Tryz.prog 161 #[.pointer (some ⟨Bo, 0, none⟩)] (fun x : ZV => #[zvV x]) Kp (fun ys => ys = xs) (fun pre => pre <+: xs) w :=
 fun l J Jx W hW1 hJ hJx hY h0 => valsZ_in Kp n l Bo hn xs ra rcap W (fun A => h W A hW1) hxs ((hW1.cell (p := ⟨Bo, 0, none⟩) hBo).trans cl) (Nat.lt_of_lt_of_le hBo hW1.size) (hr W hW1) hKt (fun A o => hKa W A o hW1) J Jx hJ hY h0
theorem valsZ_seq (n Bo : Nat) (hn : 1 ≤ n) (xs : List ZV) (ra : Option Addr) (rcap : Nat) (W0 w : World) (h : Rd 2 zvCells W0 (.slice ra xs.length rcap) xs) (hxs : xs.length ≤ 10000)
  (cl : w.cell? ⟨Bo, 0, none⟩ = some (.slice ra xs.length rcap)) (hBo : Bo < w.heap.size) (hW : Below W0.heap.size W0 w) :
  SeqD Fence.wide n Tryz.prog 161 #[.pointer (some ⟨Bo, 0, none⟩)] (fun x : ZV => #[zvV x]) (Below W0.heap.size) (fun ys => ys = xs) (fun pre => pre <+: xs) w :=
 valsZ_gen _ n Bo hn xs ra rcap w (fun W A h1 h2 => rd_below h (hW.trans ((h1.mono hW.size).trans h2))) hxs cl hBo (fun W _ => Below.refl _ _) (fun _ _ _ a b => a.trans b) (fun W A o h1 h2 => (Below.refl _ _).alloc (Nat.le_trans hW.size (Nat.le_trans h1.size h2.size)) _)
theorem valsZ_any (ra : Option Addr) (n rcap : Nat) (w : World) :
  Calls Tryz.prog 107 #[.slice ra n rcap] w fun e w' => e = .returned (.func (.func 161) #[] #[.pointer (some ⟨w.heap.size, 0, none⟩)]) ∧ w' = w.alloc (.cells #[.slice ra n rcap] 23) := by
 go_enter Tryz.func107, Tryz.ntmps107
 go_wp2
 go_ret
 exact ⟨rfl, rfl⟩
theorem valsT_in (Kp : World → World → Prop) (n l Bo : Nat) (hn : 1 ≤ n) (xs : List Sx.Tm) (ra : Option Addr) (rcap : Nat) (W : World) (h : ∀ A, Kp W A → RdTimes A (.slice ra xs.length rcap) xs) (hxs : xs.length ≤ 10000)
  (cl : W.cell? ⟨Bo, 0, none⟩ = some (.slice ra xs.length rcap)) (hBo : Bo < W.heap.size) (hW : Kp W W) (hKt : ∀ A B C, Kp A B → Kp B C → Kp A C) (hKa : ∀ A o, Kp W A → Kp A (A.alloc o))
  (J Jx : List Sx.Tm → World → Prop) (hJ : AllocJ J)
  (hY : ∀ pre x W1, J pre W1 → pre ++ [x] <+: xs → YieldAt Fence.wide (n - 1) Tryz.prog l #[timeV x] W1 fun e W' => (e = .returned (.bool true) ∧ J (pre ++ [x]) W' ∧ Kp W1 W') ∨ (e = .returned (.bool false) ∧ Jx (pre ++ [x]) W'))
  (h0 : J [] W) :
  CallsIn Fence.wide n Tryz.prog 163 #[.func (.yield l) #[] #[], .pointer (some ⟨Bo, 0, none⟩)] W fun e W' => (∃ v, e = .returned v) ∧ ((∃ ys, ys = xs ∧ J ys W') ∨ (∃ pre, pre <+: xs ∧ Jx pre W')) := by
 have HY := hid hY
 have HJ := hid hJ
 have H := hid h
 have J0 : Hid (J (xs.take 0) W) := h0
 have B0 := hid hW
 have HT := hid hKt
 have HA := hid hKa
 clear hY hJ h h0 hW hKt hKa
 refine callsIn_of_wp Tryz.func163 rfl trivial ?_ rfl
 simp only [Tryz.ntmps163, List.size_toArray, List.length_cons, List.length_nil, Nat.reduceAdd, Nat.reduceSub, Array.replicate_succ, Array.replicate_zero, List.push_toArray, List.append_toArray, List.nil_append, List.cons_append]
 gi_wp2
 clear cl hBo
 gi_loopw [7] (fun a wr => ∃ i : Nat, i ≤ xs.length ∧ a = .int .i64 i ∧ Hid (J (xs.take i) wr) ∧ Hid (Kp W wr)) (fun a _ => xs.length - (intOf a).toNat)
 case atStart => exact ⟨0, Nat.zero_le _, rfl, J0, B0⟩
 case round =>
  clear J0 B0
  obtain ⟨i, hi, rfl, JS, B0⟩ := hrel
  by_cases hlt : i < xs.length
  case neg =>
   have e : xs.take i = xs := List.take_of_length_le (by omega)
   rw [e] at JS
   gi_wp2
   go_end0
   exact ⟨⟨_, rfl⟩, .inl ⟨_, rfl, JS.out⟩⟩
  obtain ⟨x, hx⟩ : ∃ x, xs[i]? = some x := ⟨_, List.getElem?_eq_getElem hlt⟩
  obtain ⟨rb, ro, rfl, hrb, hc⟩ := rd_elem (H.out wr B0.out) hx
  have c0 : wr.cell? ⟨rb, ro + i * 3, none⟩ = some (.int .i64 x.at_) := hc 0 _ rfl
  have c1 : wr.cell? ⟨rb, ro + i * 3 + 1, none⟩ = some (.int .i64 x.save) := hc 1 _ rfl
  have c2 : wr.cell? ⟨rb, ro + i * 3 + 2, none⟩ = some (strV x.letter) := hc 2 _ rfl
  have HL : Hid (xs.take (i + 1) = xs.take i ++ [x]) := Sx.take_snoc hx
  have PX : Hid (xs.take i ++ [x] <+: xs) := by show _ <+: _; rw [← HL.out]; exact List.take_prefix _ _
  have J2 : Hid (J (xs.take i) (wr.alloc (.cells #[.int .i64 x.at_, .int .i64 x.save, strV x.letter] 72))) := abC_own HJ.out JS.out _
  have B2 : Hid (Kp W (wr.alloc (.cells #[.int .i64 x.at_, .int .i64 x.save, strV x.letter] 72))) := HT.out _ _ _ B0.out (HA.out _ _ B0.out)
  clear hc hx
  obtain ⟨fn, tmps, assign, body, hy, hR⟩ := HY.out _ x (wr.alloc (.cells #[.int .i64 x.at_, .int .i64 x.save, strV x.letter] 72)) J2.out PX.out
  try dsimp only at hy
  have HR := hid hR
  clear hR
  gi_wp2
  refine HR.out.mono ?_
  clear HR hy JS B0 J2 hrb
  rintro e W3 (⟨rfl, hJ3, hk3⟩ | ⟨rfl, hJx3⟩)
  ·have B3 : Hid (Kp W W3) := HT.out _ _ _ B2.out hk3
   have JN : Hid (J (xs.take (i + 1)) W3) := by show J _ _; rw [HL.out]; exact hJ3
   clear hJ3 hk3 B2
   gi_wp2
   go_roundw
   case rel => exact ⟨i + 1, by omega, by go_num, JN, B3⟩
   case measure => simp [intOf]; omega
  ·gi_wp2
   refine bodyPost_ret (results_none rfl _ _ _) rfl ?_
   exact ⟨⟨_, rfl⟩, .inr ⟨_, PX.out, hJx3⟩⟩
theorem valsT_gen (Kp : World → World → Prop) (n Bo : Nat) (hn : 1 ≤ n) (xs : List Sx.Tm) (ra : Option Addr) (rcap : Nat) (w : World) (h : ∀ W A, Below w.heap.size w W → Kp W A → RdTimes A (.slice ra xs.length rcap) xs) (hxs : xs.length ≤ 10000)
  (cl : w.cell? ⟨Bo, 0, none⟩ = some (.slice ra xs.length rcap)) (hBo : Bo < w.heap.size) (hr : ∀ W, Below w.heap.size w W → Kp W W) (hKt : ∀ A B C, Kp A B → Kp B C → Kp A C) (hKa : ∀ W A o, Below w.heap.size w W → Kp W A → Kp A (A.alloc o)) :
  SeqD Fence.wide n Tryz.prog 163 #[.pointer (some ⟨Bo, 0, none⟩)] (fun x : Sx.Tm => #[timeV x]) Kp (fun ys => ys = xs) (fun pre => pre <+: xs) w :=
 fun l J Jx W hW1 hJ hJx hY h0 => valsT_in Kp n l Bo hn xs ra rcap W (fun A => h W A hW1) hxs ((hW1.cell (p := ⟨Bo, 0, none⟩) hBo).trans cl) (Nat.lt_of_lt_of_le hBo hW1.size) (hr W hW1) hKt (fun A o => hKa W A o hW1) J Jx hJ hY h0
theorem valsT_seq (n Bo : Nat) (hn : 1 ≤ n) (xs : List Sx.Tm) (ra : Option Addr) (rcap : Nat) (W0 w : World) (h : RdTimes W0 (.slice ra xs.length rcap) xs) (hxs : xs.length ≤ 10000)
  (cl : w.cell? ⟨Bo, 0, none⟩ = some (.slice ra xs.length rcap)) (hBo : Bo < w.heap.size) (hW : Below W0.heap.size W0 w) :
  SeqD Fence.wide n Tryz.prog 163 #[.pointer (some ⟨Bo, 0, none⟩)] (fun x : Sx.Tm => #[timeV x]) (Below W0.heap.size) (fun ys => ys = xs) (fun pre => pre <+: xs) w :=
 valsT_gen _ n Bo hn xs ra rcap w (fun W A h1 h2 => rd_below h (hW.trans ((h1.mono hW.size).trans h2))) hxs cl hBo (fun W _ => Below.refl _ _) (fun _ _ _ a b => a.trans b) (fun W A o h1 h2 => (Below.refl _ _).alloc (Nat.le_trans hW.size (Nat.le_trans h1.size h2.size)) _)
theorem valsT_any (ra : Option Addr) (n rcap : Nat) (w : World) :
  Calls Tryz.prog 113 #[.slice ra n rcap] w fun e w' => e = .returned (.func (.func 163) #[] #[.pointer (some ⟨w.heap.size, 0, none⟩)]) ∧ w' = w.alloc (.cells #[.slice ra n rcap] 68) := by
 go_enter Tryz.func113, Tryz.ntmps113
 go_wp2
 go_ret
 exact ⟨rfl, rfl⟩

/- eras of zones, zone by zone -/
def erasOf (ps : List ZV) : List Sx.Er := ps.flatMap fun p => p.z.eras
theorem erasOf_take {ps : List ZV} {i : Nat} {p : ZV} (h : ps[i]? = some p) : erasOf (ps.take (i + 1)) = erasOf (ps.take i) ++ p.z.eras := by
 rw [Sx.take_snoc h]; simp [erasOf]
theorem erasOf_part {ps : List ZV} {i k : Nat} {p : ZV} (h : ps[i]? = some p) (hk : k ≤ p.z.eras.length) : erasOf (ps.take i) ++ p.z.eras.take k <+: erasOf ps := by
 have e : ps = ps.take i ++ p :: ps.drop (i + 1) := by
  have := List.take_append_drop (i + 1) ps
  rw [Sx.take_snoc h] at this
  simpa using this.symm
 have e2 : erasOf ps = erasOf (ps.take i) ++ (p.z.eras ++ erasOf (ps.drop (i + 1))) := by
  conv => lhs; rw [e]
  simp [erasOf]
 rw [e2]
 refine (List.prefix_append_right_inj _).2 ?_
 exact (List.take_prefix _ _).trans (List.prefix_append _ _)
theorem eras1_in (Kp : World → World → Prop) (n l Bo : Nat) (hn : 1 ≤ n) (xs : List ZV) (zs : List Sx.Zn) (ra : Option Addr) (rcap : Nat) (W : World) (h : ∀ A, Kp W A → RdZv A (.slice ra xs.length rcap) zs xs) (hxs : xs.length ≤ 10000) (hes : ∀ p ∈ xs, p.z.eras.length ≤ 10000)
  (cl : W.cell? ⟨Bo, 0, none⟩ = some (.slice ra xs.length rcap)) (hBo : Bo < W.heap.size) (hW : Kp W W) (hKt : ∀ A B C, Kp A B → Kp B C → Kp A C) (hKa : ∀ A o, Kp W A → Kp A (A.alloc o))
  (J Jx : List Sx.Er → World → Prop) (hJ : AllocJ J)
  (hY : ∀ pre x W1, J pre W1 → pre ++ [x] <+: erasOf xs → YieldAt Fence.wide (n - 1) Tryz.prog l #[eraV x] W1 fun e W' => (e = .returned (.bool true) ∧ J (pre ++ [x]) W' ∧ Kp W1 W') ∨ (e = .returned (.bool false) ∧ Jx (pre ++ [x]) W'))
  (h0 : J [] W) :
  CallsIn Fence.wide n Tryz.prog 110 #[.func (.yield l) #[] #[], .pointer (some ⟨Bo, 0, none⟩)] W fun e W' => (∃ v, e = .returned v) ∧ ((∃ ys, ys = erasOf xs ∧ J ys W') ∨ (∃ pre, pre <+: erasOf xs ∧ Jx pre W')) := by
 have HY := hid hY
 have HJ := hid hJ
 have H := hid h
 have HES := hid hes
 have J0 : Hid (J (erasOf (xs.take 0)) W) := h0
 have B0 := hid hW
 have HTT := hid hKt
 have HAA := hid hKa
 clear hY hJ h h0 hW hes hKt hKa
 refine callsIn_of_wp Tryz.func110 rfl trivial ?_ rfl
 simp only [Tryz.ntmps110, List.size_toArray, List.length_cons, List.length_nil, Nat.reduceAdd, Nat.reduceSub, Array.replicate_succ, Array.replicate_zero, List.push_toArray, List.append_toArray, List.nil_append, List.cons_append]
 gi_wp2
 clear cl hBo
 gi_loopw [9] (fun a wr => ∃ i : Nat, i ≤ xs.length ∧ a = .int .i64 i ∧ Hid (J (erasOf (xs.take i)) wr) ∧ Hid (Kp W wr)) (fun a _ => xs.length - (intOf a).toNat)
 case atStart => exact ⟨0, Nat.zero_le _, rfl, J0, B0⟩
 case round =>
  clear J0 B0
  obtain ⟨i, hi, rfl, JS, B0⟩ := hrel
  by_cases hlt : i < xs.length
  case neg =>
   have e : xs.take i = xs := List.take_of_length_le (by omega)
   rw [e] at JS
   gi_wp2
   go_end0
   exact ⟨⟨_, rfl⟩, .inl ⟨_, rfl, JS.out⟩⟩
  obtain ⟨x, hx⟩ : ∃ x, xs[i]? = some x := ⟨_, List.getElem?_eq_getElem hlt⟩
  obtain ⟨rb, ro, rfl, hrb, hc⟩ := rd_elem (H.out wr B0.out).rd hx
  have c0 : wr.cell? ⟨rb, ro + i * 2, none⟩ = some (strV x.z.name) := hc 0 _ rfl
  have c1 : wr.cell? ⟨rb, ro + i * 2 + 1, none⟩ = some (.slice x.a x.z.eras.length x.c) := hc 1 _ rfl
  have HR0 : Hid (∀ A, Kp W A → RdEras A (.slice x.a x.z.eras.length x.c) x.z.eras) := fun A hA => (H.out A hA).eras x (List.mem_of_getElem? hx)
  have HX := hid hx
  have hel := HES.out x (List.mem_of_getElem? hx)
  have J2 : Hid (J (erasOf (xs.take i) ++ x.z.eras.take 0) (wr.alloc (.cells #[strV x.z.name, .slice x.a x.z.eras.length x.c] 44))) := by
   show J _ _; rw [List.take_zero, List.append_nil]; exact abC_own HJ.out JS.out _
  have B2 : Hid (Kp W (wr.alloc (.cells #[strV x.z.name, .slice x.a x.z.eras.length x.c] 44))) := HTT.out _ _ _ B0.out (HAA.out _ _ B0.out)
  have Z0 := ca_new wr [strV x.z.name, .slice x.a x.z.eras.length x.c] 44
  obtain ⟨z1, _⟩ := ca_at Z0 1 rfl
  have zs0 := Z0.1
  clear hc hx JS B0 Z0
  obtain ⟨L, hL⟩ : ∃ L, x.z.eras.length = L := ⟨_, rfl⟩
  obtain ⟨ea, hEA⟩ : ∃ ea, x.a = ea := ⟨_, rfl⟩
  have HL := hid hL
  rw [hL, hEA] at c1 HR0 J2 B2 z1 zs0
  rw [hL] at hel
  clear hL hEA
  gi_wp2
  obtain ⟨V, hV⟩ : ∃ V, wr.alloc (.cells #[strV x.z.name, .slice ea L x.c] 44) = V := ⟨_, rfl⟩
  rw [hV] at J2 B2 ⊢
  clear hV c0 c1 z1 zs0 hrb
  gi_loopw [16] (fun a wr => ∃ k : Nat, k ≤ L ∧ a = .int .i64 k ∧ Hid (J (erasOf (xs.take i) ++ x.z.eras.take k) wr) ∧ Hid (Kp W wr)) (fun a _ => L - (intOf a).toNat)
  case atStart => exact ⟨0, Nat.zero_le _, rfl, J2, B2⟩
  case round =>
   clear J2 B2
   obtain ⟨k, hk, rfl, JS, B0⟩ := hrel
   by_cases hlk : k < L
   case neg =>
    have JN : Hid (J (erasOf (xs.take (i + 1))) wr) := by
     show J _ _
     rw [erasOf_take HX.out]
     have e : x.z.eras.take k = x.z.eras := List.take_of_length_le (by have := HL.out; omega)
     have := JS.out
     rwa [e] at this
    clear JS
    gi_wp2
    go_roundw
    case rel => exact ⟨i + 1, by omega, by go_num, JN, B0⟩
    case measure => simp [intOf]; omega
   obtain ⟨y, hy⟩ : ∃ y, x.z.eras[k]? = some y := ⟨_, List.getElem?_eq_getElem (by have := HL.out; omega)⟩
   obtain ⟨eb, eo, rfl, heb, hc⟩ := rd_elem (HR0.out wr B0.out) hy
   obtain ⟨c0, c1, c2, c3, c4, c5, c6, c7, c8, c9⟩ := rd_era hc
   have HT : Hid (x.z.eras.take (k + 1) = x.z.eras.take k ++ [y]) := Sx.take_snoc hy
   have PX : Hid ((erasOf (xs.take i) ++ x.z.eras.take k) ++ [y] <+: erasOf xs) := by
    show _ <+: _
    rw [List.append_assoc, ← HT.out]
    exact erasOf_part HX.out (by have := HL.out; omega)
   have J3 : Hid (J (erasOf (xs.take i) ++ x.z.eras.take k) (wr.alloc (.cells #[.int .i64 y.shift, strV y.rules, .int .i64 y.save, strV y.format, .bool y.opn, .int .i64 y.uy, .int .i64 y.um, .int .i64 y.ud, .int .i64 y.uat, .int .i64 y.uclock] 67))) := abC_own HJ.out JS.out _
   have B3 : Hid (Kp W (wr.alloc (.cells #[.int .i64 y.shift, strV y.rules, .int .i64 y.save, strV y.format, .bool y.opn, .int .i64 y.uy, .int .i64 y.um, .int .i64 y.ud, .int .i64 y.uat, .int .i64 y.uclock] 67))) := HTT.out _ _ _ B0.out (HAA.out _ _ B0.out)
   clear hc hy
   obtain ⟨fn, tmps, assign, body, hy, hR⟩ := HY.out _ y (wr.alloc (.cells #[.int .i64 y.shift, strV y.rules, .int .i64 y.save, strV y.format, .bool y.opn, .int .i64 y.uy, .int .i64 y.um, .int .i64 y.ud, .int .i64 y.uat, .int .i64 y.uclock] 67)) J3.out PX.out
   try dsimp only at hy
   have HR := hid hR
   clear hR
   gi_wp2
   refine HR.out.mono ?_
   clear HR hy JS B0 J3 heb c0 c1 c2 c3 c4 c5 c6 c7 c8 c9
   rintro e W3 (⟨rfl, hJ3, hk3⟩ | ⟨rfl, hJx3⟩)
   ·have B4 : Hid (Kp W W3) := HTT.out _ _ _ B3.out hk3
    have JN : Hid (J (erasOf (xs.take i) ++ x.z.eras.take (k + 1)) W3) := by show J _ _; rw [HT.out, ← List.append_assoc]; exact hJ3
    clear hJ3 hk3 B3
    gi_wp2
    go_roundw
    case rel => exact ⟨k + 1, by omega, by go_num, JN, B4⟩
    case measure => simp [intOf]; omega
   ·gi_wp2
    refine bodyPost_ret (results_none rfl _ _ _) rfl ?_
    exact ⟨⟨_, rfl⟩, .inr ⟨_, PX.out, hJx3⟩⟩
theorem eras_gen (Kp : World → World → Prop) (n Bo : Nat) (hn : 1 ≤ n) (xs : List ZV) (zs : List Sx.Zn) (ra : Option Addr) (rcap : Nat) (w : World) (h : ∀ W A, Below w.heap.size w W → Kp W A → RdZv A (.slice ra xs.length rcap) zs xs) (hxs : xs.length ≤ 10000) (hes : ∀ p ∈ xs, p.z.eras.length ≤ 10000)
  (cl : w.cell? ⟨Bo, 0, none⟩ = some (.slice ra xs.length rcap)) (hBo : Bo < w.heap.size) (hr : ∀ W, Below w.heap.size w W → Kp W W) (hKt : ∀ A B C, Kp A B → Kp B C → Kp A C) (hKa : ∀ W A o, Below w.heap.size w W → Kp W A → Kp A (A.alloc o)) :
  SeqD Fence.wide n Tryz.prog 110 #[.pointer (some ⟨Bo, 0, none⟩)] (fun x : Sx.Er => #[eraV x]) Kp (fun ys => ys = erasOf xs) (fun pre => pre <+: erasOf xs) w :=
 fun l J Jx W hW1 hJ hJx hY h0 => eras1_in Kp n l Bo hn xs zs ra rcap W (fun A => h W A hW1) hxs hes ((hW1.cell (p := ⟨Bo, 0, none⟩) hBo).trans cl) (Nat.lt_of_lt_of_le hBo hW1.size) (hr W hW1) hKt (fun A o => hKa W A o hW1) J Jx hJ hY h0
theorem eras_seq (n Bo : Nat) (hn : 1 ≤ n) (xs : List ZV) (zs : List Sx.Zn) (ra : Option Addr) (rcap : Nat) (W0 w : World) (h : RdZv W0 (.slice ra xs.length rcap) zs xs) (hxs : xs.length ≤ 10000) (hes : ∀ p ∈ xs, p.z.eras.length ≤ 10000)
  (cl : w.cell? ⟨Bo, 0, none⟩ = some (.slice ra xs.length rcap)) (hBo : Bo < w.heap.size) (hW : Below W0.heap.size W0 w) :
  SeqD Fence.wide n Tryz.prog 110 #[.pointer (some ⟨Bo, 0, none⟩)] (fun x : Sx.Er => #[eraV x]) (Below W0.heap.size) (fun ys => ys = erasOf xs) (fun pre => pre <+: erasOf xs) w :=
 eras_gen _ n Bo hn xs zs ra rcap w (fun W A h1 h2 => rdZv_below h (hW.trans ((h1.mono hW.size).trans h2))) hxs hes cl hBo (fun W _ => Below.refl _ _) (fun _ _ _ a b => a.trans b) (fun W A o h1 h2 => (Below.refl _ _).alloc (Nat.le_trans hW.size (Nat.le_trans h1.size h2.size)) _)
theorem eras_any (ra : Option Addr) (n rcap : Nat) (w : World) :
  Calls Tryz.prog 49 #[.slice ra n rcap] w fun e w' => e = .returned (.func (.func 110) #[] #[.pointer (some ⟨w.heap.size, 0, none⟩)]) ∧ w' = w.alloc (.cells #[.slice ra n rcap] 23) := by
 go_enter Tryz.func49, Tryz.ntmps49
 go_wp2
 go_ret
 exact ⟨rfl, rfl⟩

/- names by which zones are found -/
def namesOf (zs : List Sx.Zn) (ls : List Sx.Lk) : List Tx.Bs := zs.map Sx.Zn.name ++ ls.map Sx.Lk.name
theorem names_z {zs : List Sx.Zn} {ls : List Sx.Lk} {i : Nat} : (zs.take i).map Sx.Zn.name <+: namesOf zs ls := by
 unfold namesOf
 rw [List.map_take]
 exact (List.take_prefix _ _).trans (List.prefix_append _ _)
theorem names_l {zs : List Sx.Zn} {ls : List Sx.Lk} {i : Nat} : zs.map Sx.Zn.name ++ (ls.take i).map Sx.Lk.name <+: namesOf zs ls := by
 unfold namesOf
 rw [List.map_take]
 exact (List.prefix_append_right_inj _).2 (List.take_prefix _ _)
def KpB (n₀ Bo : Nat) (A B : World) : Prop := Below n₀ A B ∧ (Bo < A.heap.size → B.heap[Bo]? = A.heap[Bo]?)
theorem kpb_t {n₀ Bo : Nat} {A B C : World} (h : KpB n₀ Bo A B) (k : KpB n₀ Bo B C) : KpB n₀ Bo A C :=
 ⟨h.1.trans k.1, fun q => (k.2 (Nat.lt_of_lt_of_le q h.1.size)).trans (h.2 q)⟩
theorem kpb_b {n₀ Bo : Nat} {w : World} (hn : n₀ ≤ w.heap.size) (hB : Bo < w.heap.size) (W : World) (l : Nat) (o o' : Obj) (a : w.heap.size ≤ l) (b : W.heap[l]? = some o) (c : o.isCells = false) (d : o.isWalk = false) : KpB n₀ Bo W (W.putObj l o') :=
 ⟨belowK_b hn W l o o' a b c d, fun _ => World.putObj_heap_other (by omega)⟩
theorem kpb_alloc {n₀ Bo : Nat} {W wr W3 : World} {o : Obj} (h : KpB n₀ Bo (wr.alloc o) W3) (hB : Bo < W.heap.size) (k : wr.heap[Bo]? = W.heap[Bo]? ∧ W.heap.size ≤ wr.heap.size) : W3.heap[Bo]? = W.heap[Bo]? ∧ W.heap.size ≤ W3.heap.size := by
 have l : Bo < wr.heap.size := Nat.lt_of_lt_of_le hB k.2
 have s := h.1.size
 simp at s
 exact ⟨(h.2 (by simp; omega)).trans ((Below.heap_alloc _ _ _ l).trans k.1), by omega⟩
theorem names1_in (n l Bo : Nat) (hn : 1 ≤ n) (xs : List ZV) (zs : List Sx.Zn) (ls : List Sx.Lk) (za la : Option Addr) (zcap lcap : Nat) (W0 W : World) (h : RdZv W0 (.slice za xs.length zcap) zs xs) (hl : RdLinks W0 (.slice la ls.length lcap) ls) (hxs : xs.length ≤ 10000) (hls : ls.length ≤ 10000)
  (c1 : W.cell? ⟨Bo, 1, none⟩ = some (.slice za xs.length zcap)) (c2 : W.cell? ⟨Bo, 2, none⟩ = some (.slice la ls.length lcap)) (hBo : Bo < W.heap.size) (hW : Below W0.heap.size W0 W)
  (J Jx : List Tx.Bs → World → Prop) (hJ : AllocJ J)
  (hY : ∀ pre x W1, J pre W1 → pre ++ [x] <+: namesOf zs ls → YieldAt Fence.wide (n - 1) Tryz.prog l #[strV x] W1 fun e W' => (e = .returned (.bool true) ∧ J (pre ++ [x]) W' ∧ KpB W0.heap.size Bo W1 W') ∨ (e = .returned (.bool false) ∧ Jx (pre ++ [x]) W'))
  (h0 : J [] W) :
  CallsIn Fence.wide n Tryz.prog 157 #[.func (.yield l) #[] #[], .pointer (some ⟨Bo, 0, none⟩)] W fun e W' => (∃ v, e = .returned v) ∧ ((∃ ys, ys = namesOf zs ls ∧ J ys W') ∨ (∃ pre, pre <+: namesOf zs ls ∧ Jx pre W')) := by
 have HY := hid hY
 have HJ := hid hJ
 have H := hid h
 have HLK := hid hl
 have C2 := hid c2
 have HB := hid hBo
 have HZL := hid (rdZv_len h)
 have HF := hid h.fst
 have J0 : Hid (J ((zs.take 0).map Sx.Zn.name) W) := h0
 have B0 := hid hW
 have hBW : Bo < W.heap.size := hBo
 clear hY hJ h h0 hW hl c2 hBo
 refine callsIn_of_wp Tryz.func157 rfl trivial ?_ rfl
 simp only [Tryz.ntmps157, List.size_toArray, List.length_cons, List.length_nil, Nat.reduceAdd, Nat.reduceSub, Array.replicate_succ, Array.replicate_zero, List.push_toArray, List.append_toArray, List.nil_append, List.cons_append]
 gi_wp2
 clear c1 hBW
 gi_loopw [10] (fun a wr => ∃ i : Nat, i ≤ xs.length ∧ a = .int .i64 i ∧ Hid (J ((zs.take i).map Sx.Zn.name) wr) ∧ Hid (Below W0.heap.size W0 wr) ∧ Hid (wr.heap[Bo]? = W.heap[Bo]? ∧ W.heap.size ≤ wr.heap.size)) (fun a _ => xs.length - (intOf a).toNat)
 case atStart => exact ⟨0, Nat.zero_le _, rfl, J0, B0, ⟨rfl, Nat.le_refl _⟩⟩
 case round =>
  clear J0 B0
  obtain ⟨i, hi, rfl, JS, B0, K0⟩ := hrel
  by_cases hlt : i < xs.length
  case pos =>
   obtain ⟨x, hx⟩ : ∃ x, xs[i]? = some x := ⟨_, List.getElem?_eq_getElem hlt⟩
   have hzx : zs[i]? = some x.z := by rw [← HF.out, List.getElem?_map, hx]; rfl
   obtain ⟨rb, ro, rfl, hrb, hc⟩ := rd_elem (rd_below H.out.rd B0.out) hx
   obtain ⟨zn, ea, ec⟩ := x
   dsimp only at hzx
   have c0 : wr.cell? ⟨rb, ro + i * 2, none⟩ = some (strV zn.name) := hc 0 _ rfl
   have c1 : wr.cell? ⟨rb, ro + i * 2 + 1, none⟩ = some (.slice ea zn.eras.length ec) := hc 1 _ rfl
   have HT : Hid ((zs.take (i + 1)).map Sx.Zn.name = (zs.take i).map Sx.Zn.name ++ [zn.name]) := by show _ = _; rw [Sx.take_snoc hzx]; simp
   have PX : Hid ((zs.take i).map Sx.Zn.name ++ [zn.name] <+: namesOf zs ls) := by show _ <+: _; rw [← HT.out]; exact names_z
   have J2 : Hid (J ((zs.take i).map Sx.Zn.name) (wr.alloc (.cells #[strV zn.name, .slice ea zn.eras.length ec] 44))) := abC_own HJ.out JS.out _
   have B2 := hid (B0.out.alloc B0.out.size (.cells #[strV zn.name, .slice ea zn.eras.length ec] 44))
   clear hc hx hzx
   obtain ⟨fn, tmps, assign, body, hy, hR⟩ := HY.out _ zn.name (wr.alloc (.cells #[strV zn.name, .slice ea zn.eras.length ec] 44)) J2.out PX.out
   try dsimp only at hy
   have HR := hid hR
   clear hR
   gi_wp2
   refine HR.out.mono ?_
   clear HR hy JS B0 J2 hrb
   rintro e W3 (⟨rfl, hJ3, hk3⟩ | ⟨rfl, hJx3⟩)
   ·have B3 := hid (B2.out.trans hk3.1)
    have K3 : Hid (W3.heap[Bo]? = W.heap[Bo]? ∧ W.heap.size ≤ W3.heap.size) := kpb_alloc hk3 HB.out K0.out
    have JN : Hid (J ((zs.take (i + 1)).map Sx.Zn.name) W3) := by show J _ _; rw [HT.out]; exact hJ3
    clear hJ3 hk3 B2
    gi_wp2
    go_roundw
    case rel => exact ⟨i + 1, by omega, by go_num, JN, B3, K3⟩
    case measure => simp [intOf]; omega
   ·gi_wp2
    refine bodyPost_ret (results_none rfl _ _ _) rfl ?_
    exact ⟨⟨_, rfl⟩, .inr ⟨_, PX.out, hJx3⟩⟩
  case neg =>
   have e : zs.take i = zs := List.take_of_length_le (by have := HZL.out; omega)
   rw [e] at JS
   have J5 : Hid (J (zs.map Sx.Zn.name ++ (ls.take 0).map Sx.Lk.name) wr) := by show J _ _; rw [List.take_zero, List.map_nil, List.append_nil]; exact JS.out
   have c2 := (World.cell?_of_block (w := W) (a := ⟨Bo, 2, none⟩) K0.out.1).trans C2.out
   have hBr : Bo < wr.heap.size := Nat.lt_of_lt_of_le HB.out K0.out.2
   clear JS e
   gi_wp2
   clear c2 hBr
   gi_loopw [23] (fun a wr => ∃ i : Nat, i ≤ ls.length ∧ a = .int .i64 i ∧ Hid (J (zs.map Sx.Zn.name ++ (ls.take i).map Sx.Lk.name) wr) ∧ Hid (Below W0.heap.size W0 wr) ∧ Hid (wr.heap[Bo]? = W.heap[Bo]? ∧ W.heap.size ≤ wr.heap.size)) (fun a _ => ls.length - (intOf a).toNat)
   case atStart => exact ⟨0, Nat.zero_le _, rfl, J5, B0, K0⟩
   case round =>
    clear J5 B0 K0
    obtain ⟨j, hj, rfl, JS, B0, K0⟩ := hrel
    by_cases hlj : j < ls.length
    case neg =>
     have e : ls.take j = ls := List.take_of_length_le (by omega)
     rw [e] at JS
     gi_wp2
     go_end0
     exact ⟨⟨_, rfl⟩, .inl ⟨_, rfl, JS.out⟩⟩
    obtain ⟨x, hx⟩ : ∃ x, ls[j]? = some x := ⟨_, List.getElem?_eq_getElem hlj⟩
    obtain ⟨rb, ro, rfl, hrb, hc⟩ := rd_elem (rd_below HLK.out B0.out) hx
    obtain ⟨c0, c1⟩ := rd_link hc
    have HT : Hid ((ls.take (j + 1)).map Sx.Lk.name = (ls.take j).map Sx.Lk.name ++ [x.name]) := by show _ = _; rw [Sx.take_snoc hx]; simp
    have PX : Hid ((zs.map Sx.Zn.name ++ (ls.take j).map Sx.Lk.name) ++ [x.name] <+: namesOf zs ls) := by show _ <+: _; rw [List.append_assoc, ← HT.out]; exact names_l
    have J2 : Hid (J (zs.map Sx.Zn.name ++ (ls.take j).map Sx.Lk.name) (wr.alloc (.cells #[strV x.to, strV x.name] 35))) := abC_own HJ.out JS.out _
    have B2 := hid (B0.out.alloc B0.out.size (.cells #[strV x.to, strV x.name] 35))
    clear hc hx
    obtain ⟨fn, tmps, assign, body, hy, hR⟩ := HY.out _ x.name (wr.alloc (.cells #[strV x.to, strV x.name] 35)) J2.out PX.out
    try dsimp only at hy
    have HR := hid hR
    clear hR
    gi_wp2
    refine HR.out.mono ?_
    clear HR hy JS B0 J2 hrb
    rintro e W3 (⟨rfl, hJ3, hk3⟩ | ⟨rfl, hJx3⟩)
    ·have B3 := hid (B2.out.trans hk3.1)
     have K3 : Hid (W3.heap[Bo]? = W.heap[Bo]? ∧ W.heap.size ≤ W3.heap.size) := kpb_alloc hk3 HB.out K0.out
     have JN : Hid (J (zs.map Sx.Zn.name ++ (ls.take (j + 1)).map Sx.Lk.name) W3) := by show J _ _; rw [HT.out, ← List.append_assoc]; exact hJ3
     clear hJ3 hk3 B2
     gi_wp2
     go_roundw
     case rel => exact ⟨j + 1, by omega, by go_num, JN, B3, K3⟩
     case measure => simp [intOf]; omega
    ·gi_wp2
     refine bodyPost_ret (results_none rfl _ _ _) rfl ?_
     exact ⟨⟨_, rfl⟩, .inr ⟨_, PX.out, hJx3⟩⟩
theorem names_seq (n Bo : Nat) (hn : 1 ≤ n) (xs : List ZV) (zs : List Sx.Zn) (ls : List Sx.Lk) (za la : Option Addr) (zcap lcap : Nat) (W0 w : World) (h : RdZv W0 (.slice za xs.length zcap) zs xs) (hl : RdLinks W0 (.slice la ls.length lcap) ls) (hxs : xs.length ≤ 10000) (hls : ls.length ≤ 10000)
  (c1 : w.cell? ⟨Bo, 1, none⟩ = some (.slice za xs.length zcap)) (c2 : w.cell? ⟨Bo, 2, none⟩ = some (.slice la ls.length lcap)) (hBo : Bo < w.heap.size) (hW : Below W0.heap.size W0 w) :
  SeqD Fence.wide n Tryz.prog 157 #[.pointer (some ⟨Bo, 0, none⟩)] (fun x : Tx.Bs => #[strV x]) (KpB W0.heap.size Bo) (fun ys => ys = namesOf zs ls) (fun pre => pre <+: namesOf zs ls) w :=
 fun l J Jx W hW1 hJ hJx hY h0 => names1_in n l Bo hn xs zs ls za la zcap lcap W0 W h hl hxs hls ((hW1.cell (p := ⟨Bo, 1, none⟩) hBo).trans c1) ((hW1.cell (p := ⟨Bo, 2, none⟩) hBo).trans c2) (Nat.lt_of_lt_of_le hBo hW1.size) (hW.trans (hW1.mono hW.size)) J Jx hJ hY h0
theorem names_any (ra za la : Option Addr) (n1 n2 n3 c1 c2 c3 : Nat) (w : World) :
  Calls Tryz.prog 96 #[.agg #[.slice ra n1 c1, .slice za n2 c2, .slice la n3 c3]] w fun e w' => e = .returned (.func (.func 157) #[] #[.pointer (some ⟨w.heap.size, 0, none⟩)]) ∧ w' = w.alloc (.cells #[.slice ra n1 c1, .slice za n2 c2, .slice la n3 c3] 26) := by
 go_enter Tryz.func96, Tryz.ntmps96
 go_wp2
 go_ret
 exact ⟨rfl, rfl⟩
end Go.Proofs.YtkhlkohlccndgaaGreat
namespace Go.Proofs.YtkhlkohlccndgaaGreat
open Go.RowKit

theorem operIn_of {l n : Nat} {P : Program} {o : Oper} {a : Act} {w : World} {K : Act → World → Prop} {Q : Exit → Act → World → Prop} (hd : ∀ c, o.op ≠ .defer c) (h : o.wp P a w K Q) : o.wpIn (Fence.wide.inRound l) n P a w K Q := by
 unfold Oper.wp at h
 unfold Oper.wpIn
 refine ⟨fun _ _ => trivial, ?_⟩
 rw [Oper.semAt_plain _ _ _ hd]
 generalize (execOp a.eval o).run P w = r at h ⊢
 cases r with
 | ok n' w' =>
   cases n' with
   | value v => exact h
   | skip => exact h
   | defer d => exact h
   | enter f args => exact ⟨fun q => (by cases q), CallsIn.inRound l (callsIn_wide.2 h)⟩
   | row row args =>
     refine ⟨fun q => (by cases q), fun c cs _ => ?_⟩
     obtain ⟨v, w2, r, s⟩ := h c cs
     exact ⟨v, w2, r, stepsIn_wide.2 s⟩
   | _ => exact h.elim
 | halt x w' => cases x <;> first | exact h | exact h.elim
theorem anyIn_of {l n : Nat} {P : Program} {md : Region.Mode} {ops : Array Oper} {Q : Exit → Act → World → Prop} (hd : ∀ (i : Nat) (o : Oper), ops[i]? = some o → ∀ c, o.op ≠ Op.defer c) (hQ : ¬ LetsOut Q) :
  ∀ (fuel : Nat) (listed : Array Bool) (a : Act) (w : World), wpAny P md ops Q fuel listed a w → wpAnyIn (Fence.wide.inRound l) n P md ops Q fuel listed a w
 | 0, _, _, _, h => h
 | fuel + 1, listed, a, w, h => by
   refine ⟨h.1, fun i hi => ?_⟩
   have h2 := h.2 i hi
   unfold wpOp at h2
   unfold wpOpIn
   cases ho : ops[i]? with
   | none =>
     simp only [ho] at h2 ⊢
     exact anyIn_of hd hQ fuel _ _ _ h2
   | some o =>
     simp only [ho] at h2 ⊢
     cases q : Region.wanted o (yielded ops a.tmps) with
     | true =>
       rw [q, if_pos rfl] at h2
       rw [if_pos rfl]
       rcases h2 with h3 | h3
       ·exact Oper.wpIn_mono (fun a' w' h' => anyIn_of hd hQ fuel _ a' w' h') (operIn_of (hd i o ho) h3)
       ·exact absurd h3.2 hQ
     | false =>
       rw [q, if_neg (by decide)] at h2
       rw [if_neg (by decide)]
       exact ⟨fun _ _ => trivial, anyIn_of hd hQ fuel _ _ _ h2⟩
/- the door: a drawing region in a round, by the held walk -/
theorem regionIn_held {l n : Nat} {P : Program} {id : Nat} {ops : Array Oper} {Q : Exit → Act → World → Prop} {a : Act} {w : World} {S : World → Prop} (hm : P.follows .mixedOrders = true)
  (hd : ops.all (fun (o : Oper) => match o.op with | Op.defer _ => false | _ => true) = true) (hQ : ¬ LetsOut Q) (hS : S w.drew)
  (h : S w.drew → wpAnyH P .any ops Q S ops.size (Array.replicate ops.size false) a w.drew) : (Code.region id ops true).wpIn (Fence.wide.inRound l) n P Q a w := by
 refine wpIn_region_any hm (anyIn_of ?_ hQ _ _ _ _ (wpAny_of_held _ _ _ _ (h hS)))
 intro i o ho c hc
 obtain ⟨hi, rfl⟩ := Array.getElem?_eq_some_iff.1 ho
 have := (Array.all_eq_true.1 hd) i hi
 rw [hc] at this
 cases this
/- append where there is room: the slice keeps its block -/
theorem step_append_fits {P : Program} {ops : Array Oper} {o : Oper} {a : Act} {w : World} {K : Act → World → Prop} {Q : Exit → Act → World → Prop} {E : Prop}
  (hg : o.guard = none) (s x : Operand) (t : TypeId) (hop : o.op = Op.call { callee := Callee.builtin Builtin.append, args := #[s, x], argTypes := #[t, t] })
  (base : Nat) (e : TypeId) (i : TypeInfo) (size : Nat) (h1 : P.underlying t = some (.slice e)) (h2 : P.info? e = some i) (h4 : i.size = size)
  (g k cap : Nat) (xs : List Value) (hs : a.eval s = .slice (some ⟨g, 0, none⟩) k cap) (hown : w.ownsRow base e size (.slice (some ⟨g, 0, none⟩) k cap) k xs)
  (ad : Addr) (m c : Nat) (news : List Value) (hx : a.eval x = .slice (some ad) m c) (hn : news.length = m * size) (hc : ∀ j u, news[j]? = some u → w.cell? (ad.add j) = some u) (h1c : ∀ u ∈ news, u.oneCell' = true) (b1 : k + m ≤ cap)
  (hK : ∀ w', w'.ownsRow base e size (.slice (some ⟨g, 0, none⟩) (k + m) cap) (k + m) (xs ++ news) → w.grownBy w' (some g) → K (a.put o.dst (.slice (some ⟨g, 0, none⟩) (k + m) cap)) w') :
  if Region.wanted o (yielded ops a.tmps) = true then Oper.wp P o a w K Q else E := by
 have hw : Region.wanted o (yielded ops a.tmps) = true := by simp [Region.wanted, hg]
 rw [if_pos hw]
 obtain ⟨w', hrun, r1, r2⟩ := run_append_fits (P := P) w base t o.type e i size h1 h2 h4 g k cap xs hown ad m c news hn hc h1c b1
 unfold Oper.wp
 simp [execOp, hop, resolve, invoke, builtin, hs, hx, hrun, Result.andThen]
 exact hK w' r1 r2
end Go.Proofs.YtkhlkohlccndgaaGreat
namespace Go.Proofs.YtkhlkohlccndgaaGreat
open Go.RowKit Go.Shelf
attribute [local go_sem] Oper.semAt_some

namespace Sx
def close (x : Tn × Tn) : Bool := decide (x.2.stands - x.1.stands < 172800)
theorem close_apartFrom : ∀ (l : List Tn) (p : Tn), (stepsFrom p l).any close = !apartFrom p.stands l
 | [], p => rfl
 | t :: r, p => by
   simp only [stepsFrom, List.any_cons, close_apartFrom r t, apartFrom, close]
   cases apartFrom t.stands r <;> by_cases h : 172800 ≤ t.stands - p.stands <;> simp [h] <;> omega
theorem close_apart {l : List Tn} (h : ∀ t ∈ l, -1000000000000 ≤ t.stands) : (stepsOf l).any close = !apart l := by
 match l, h with
 | [], _ => rfl
 | t :: r, h =>
   have h1 := h t (by simp)
   simp only [stepsOf, stepsFrom, List.any_cons, close_apartFrom, apart, close, ago]
   rw [decide_eq_false (by omega)]
   rfl
end Sx
def stepC (x : Sx.Tn × Sx.Tn) : List Value := [.int .i64 x.1.stands, .int .i64 x.1.clock, .int .i64 x.1.save, strV x.1.letter, .int .i64 x.2.stands, .int .i64 x.2.clock, .int .i64 x.2.save, strV x.2.letter]
def noT : Sx.Tn := ⟨0, 0, 0, []⟩
def noS : Sx.Tn × Sx.Tn := (noT, noT)
theorem steps_any (ra : Option Addr) (n rcap : Nat) (w : World) :
  Calls Tryz.prog 68 #[.slice ra n rcap] w fun e w' => e = .returned (.func (.func 131) #[] #[.pointer (some ⟨w.heap.size, 0, none⟩)]) ∧ w' = w.alloc (.cells #[.slice ra n rcap] 110) := by
 go_enter Tryz.func68, Tryz.ntmps68
 go_wp2
 go_ret
 exact ⟨rfl, rfl⟩
theorem check1_any (x : Sx.Tn × Sx.Tn) (w : World) (h1 : -2000000000000 ≤ x.1.stands) (h2 : x.1.stands ≤ 2000000000000) (h3 : -2000000000000 ≤ x.2.stands) (h4 : x.2.stands ≤ 2000000000000) :
  Calls Tryz.prog 130 #[stepV x.1 x.2] w fun e w' => e = .returned (.bool (Sx.close x)) ∧ Below w.heap.size w w' := by
 obtain ⟨p, t⟩ := x
 dsimp only at h1 h2 h3 h4 ⊢
 have EC : Hid (Sx.close (p, t) = decide (t.stands - p.stands < 172800)) := rfl
 go_enter Tryz.func130, Tryz.ntmps130
 go_wp2
 go_ret
 exact ⟨by rw [EC.out]; rfl, (Below.refl _ _).alloc (Nat.le_refl _) _⟩
theorem ownC_heap {β : Type} {B k : Nat} {o : Obj} (h : k < B) : OwnC B (fun (_ : β) W => W.heap[k]? = some o) :=
 fun _ W W' row hs hg hr => (hg.block k (Array.getElem?_eq_some_iff.1 hs).1 (fun e => by have := (hr k e.symm).1; omega)).trans hs
theorem ownC_pure {β : Type} {B : Nat} (p : β → Prop) : OwnC B (fun s (_ : World) => p s) := fun _ _ _ _ hs _ _ => hs
theorem kpC_t {n₀ Bs : Nat} {T : TypeId} {A B C : World} (h : Kp n₀ T Bs A B) (k : Kp n₀ T Bs B C) : Kp n₀ T Bs A C := ⟨h.1.trans k.1, keepT_t h.2 k.2⟩
theorem kpC_b {n₀ Bs : Nat} {T : TypeId} {w : World} (hn : n₀ ≤ w.heap.size) (W : World) (l : Nat) (o o' : Obj) (a : w.heap.size ≤ l) (b : W.heap[l]? = some o) (c : o.isCells = false) (d : o.isWalk = false) : Kp n₀ T Bs W (W.putObj l o') :=
 ⟨belowK_b hn W l o o' a b c d, keepT_b (w := w) W l o o' a b c d⟩
theorem kp_grow {n₀ Bs : Nat} {T : TypeId} {W W' : World} (hb : Below W.heap.size W W') (hn : n₀ ≤ W.heap.size) : Kp n₀ T Bs W W' :=
 ⟨hb.mono hn, hb.size, fun k cs t a _ _ => by rw [hb.block k (Array.getElem?_eq_some_iff.1 a).1]; exact a⟩
theorem keeps_below {W W' : World} (hb : Below W.heap.size W W') : KeepsOthers W W' :=
 ⟨hb.size, fun k o hk _ => (hb.block k (Array.getElem?_eq_some_iff.1 hk).1).trans hk⟩
theorem ownC_ex {β γ : Type} {B : Nat} {I : γ → β → World → Prop} (h : ∀ x, OwnC B (I x)) : OwnC B (fun s W => ∃ x, I x s W) :=
 fun s W W' row ⟨x, hs⟩ hg hr => ⟨x, h x s W W' row hs hg hr⟩
theorem steps_mem : ∀ (l : List Sx.Tn) (p : Sx.Tn) (x : Sx.Tn × Sx.Tn), x ∈ Sx.stepsFrom p l → (x.1 = p ∨ x.1 ∈ l) ∧ x.2 ∈ l
 | [], p, x, h => by simp [Sx.stepsFrom] at h
 | t :: r, p, x, h => by
   simp only [Sx.stepsFrom, List.mem_cons] at h
   rcases h with rfl | h
   ·exact ⟨.inl rfl, by simp⟩
   ·have := steps_mem r t x h
    exact ⟨.inr (by rcases this.1 with e | e <;> simp [e]), by simp [this.2]⟩
theorem prefix_mem {α : Type} {pre l : List α} {x : α} (h : pre ++ [x] <+: l) : x ∈ l := h.subset (by simp)
theorem below_put {n : Nat} {A B : World} (h : Below n A B) {k : Nat} (hk : n ≤ k) (c : Nat) (v : Value) : Below n A (B.setCell ⟨k, c, none⟩ v) := below_set h hk v
theorem put_at {W : World} {b : Nat} {t : TypeId} {cs : Array Value} (h : W.heap[b]? = some (.cells cs t)) (i : Nat) (v : Value) : (W.setCell ⟨b, i, none⟩ v).heap[b]? = some (.cells (cs.setIfInBounds i v) t) := by
 obtain ⟨hlt, e⟩ := Array.getElem?_eq_some_iff.1 h
 simp [World.setCell, Array.getElem?_modify, h]
theorem put8 {W : World} {b : Nat} {t : TypeId} {c0 c1 c2 c3 c4 c5 c6 c7 : Value} (v0 v1 v2 v3 v4 v5 v6 v7 : Value) (h : W.heap[b]? = some (.cells #[c0, c1, c2, c3, c4, c5, c6, c7] t)) :
  ((((((((W.setCell ⟨b, 0, none⟩ v0).setCell ⟨b, 1, none⟩ v1).setCell ⟨b, 2, none⟩ v2).setCell ⟨b, 3, none⟩ v3).setCell ⟨b, 4, none⟩ v4).setCell ⟨b, 5, none⟩ v5).setCell ⟨b, 6, none⟩ v6).setCell ⟨b, 7, none⟩ v7).heap[b]? = some (.cells #[v0, v1, v2, v3, v4, v5, v6, v7] t) := by
 have e := put_at (put_at (put_at (put_at (put_at (put_at (put_at (put_at h 0 v0) 1 v1) 2 v2) 3 v3) 4 v4) 5 v5) 6 v6) 7 v7
 simp only [List.setIfInBounds_toArray, List.set_cons_zero, List.set_cons_succ] at e
 exact e
theorem put1 {W : World} {b : Nat} {t : TypeId} {c0 : Value} (v0 : Value) (h : W.heap[b]? = some (.cells #[c0] t)) : (W.setCell ⟨b, 0, none⟩ v0).heap[b]? = some (.cells #[v0] t) := by
 obtain ⟨hlt, e⟩ := Array.getElem?_eq_some_iff.1 h
 simp [World.setCell, Array.getElem?_modify, h]
theorem grown_put {W W' : World} {b : Nat} (h : W.grownBy W' (some b)) (i : Nat) (v : Value) : W.grownBy (W'.setCell ⟨b, i, none⟩ v) (some b) :=
 ⟨h.os, h.tape, h.output, by simpa using h.size, fun k hk hn => (Below.heap_setCell _ _ _ _ (fun e => hn (by rw [e]))).trans (h.block k hk hn)⟩
theorem grown_same (W : World) (b : Nat) : W.grownBy W (some b) := ⟨rfl, rfl, rfl, Nat.le_refl _, fun _ _ _ => rfl⟩
theorem grown8 (W : World) (b : Nat) (v0 v1 v2 v3 v4 v5 v6 v7 : Value) : W.grownBy ((((((((W.setCell ⟨b, 0, none⟩ v0).setCell ⟨b, 1, none⟩ v1).setCell ⟨b, 2, none⟩ v2).setCell ⟨b, 3, none⟩ v3).setCell ⟨b, 4, none⟩ v4).setCell ⟨b, 5, none⟩ v5).setCell ⟨b, 6, none⟩ v6).setCell ⟨b, 7, none⟩ v7) (some b) :=
 grown_put (grown_put (grown_put (grown_put (grown_put (grown_put (grown_put (grown_put (grown_same W b) 0 v0) 1 v1) 2 v2) 3 v3) 4 v4) 5 v5) 6 v6) 7 v7
theorem keeps_grown {W W' : World} {b : Nat} {cs : Array Value} {t : TypeId} (hg : W.grownBy W' (some b)) (h : W.heap[b]? = some (.cells cs t)) : KeepsOthers W W' :=
 KeepsOthers.of_grownBy hg (fun j o e ho => by cases e; rw [h] at ho; cases ho; rfl)
theorem first_end {w W : World} {N D : Nat} {a : Act} {x : Sx.Tn × Sx.Tn} {b : Bool} (hN : w.heap.size = N) (h4 : a.tmps.getD 4 undef = .pointer (some ⟨N + 1, 0, none⟩)) (h5 : a.tmps.getD 5 undef = .pointer (some ⟨N + 1 + 1, 0, none⟩)) (hd : a.defers = [{ target := .collected D, args := #[] }])
  (i1 : W.heap[N + 1]? = some (.cells (stepC x).toArray 122)) (i2 : W.heap[N + 1 + 1]? = some (.cells #[.bool b] 4)) (hD : N + 1 + 1 < D) (hK : W.heap[D]? = some (.deferred (some []))) (hB : Below w.heap.size w W) :
  bodyPostM Fence.wide 4 Tryz.prog Tryz.f175 (fun e w' => ∃ p t : Sx.Tn, e = .returned (.tuple #[stepV p t, .bool b]) ∧ Below w.heap.size w w') .ret a W := by
 obtain ⟨tm, df⟩ := a
 dsimp only at h4 h5 hd
 subst hd
 rw [Array.getD_eq_getD_getElem?] at h4 h5
 have hX := belowK_b (w := w) (Nat.le_refl _) W D _ (.deferred none) (by omega) hK rfl rfl
 have j1 : (W.putObj D (.deferred none)).heap[N + 1]? = some (.cells (stepC x).toArray 122) := (World.putObj_heap_other (by omega)).trans i1
 have j2 : (W.putObj D (.deferred none)).heap[N + 1 + 1]? = some (.cells #[.bool b] 4) := (World.putObj_heap_other (by omega)).trans i2
 refine ⟨by simp, .inl ⟨_, _, rfl, run_takeDeferred hK, ?_⟩⟩
 have BX := hB.trans hX
 generalize W.putObj D (.deferred none) = X at j1 j2 BX ⊢
 obtain ⟨y0, _⟩ := ca_at (ca_heap2 j1) 0 rfl
 obtain ⟨y1, _⟩ := ca_at (ca_heap2 j1) 1 rfl
 obtain ⟨y2, _⟩ := ca_at (ca_heap2 j1) 2 rfl
 obtain ⟨y3, _⟩ := ca_at (ca_heap2 j1) 3 rfl
 obtain ⟨y4, _⟩ := ca_at (ca_heap2 j1) 4 rfl
 obtain ⟨y5, _⟩ := ca_at (ca_heap2 j1) 5 rfl
 obtain ⟨y6, _⟩ := ca_at (ca_heap2 j1) 6 rfl
 obtain ⟨y7, _⟩ := ca_at (ca_heap2 j1) 7 rfl
 have b0 := (ca_at (ca_heap2 (vs := [.bool b]) j2) 0 rfl).1
 clear j1 j2 i1 i2 hK hB hX
 refine ⟨.tuple #[stepV x.1 x.2, .bool b], ?_, x.1, x.2, rfl, BX⟩
 simp [results, Tryz.results175, go_sem, *]
theorem seekFirst_any (Bo : Nat) (ts : List Sx.Tn) (ra : Option Addr) (rcap : Nat) (w : World) (h : RdTurns w (.slice ra ts.length rcap) ts) (hts : ts.length ≤ 10000) (hbd : ∀ t ∈ ts, -1000000000000 ≤ t.stands ∧ t.stands ≤ 1000000000000)
  (cl : w.cell? ⟨Bo, 0, none⟩ = some (.slice ra ts.length rcap)) (hBo : Bo < w.heap.size) :
  Calls Tryz.prog 175 #[.func (.func 131) #[] #[.pointer (some ⟨Bo, 0, none⟩)], .func (.func 130) #[] #[]] w
   fun e w' => ∃ p t : Sx.Tn, e = .returned (.tuple #[stepV p t, .bool ((Sx.stepsOf ts).any Sx.close)]) ∧ Below w.heap.size w w' := by
 refine (callsIn_wide (n := 4)).1 ?_
 refine callsIn_of_wp_marks Tryz.func175 rfl trivial ?_ rfl
 simp only [Tryz.ntmps175, List.size_toArray, List.length_cons, List.length_nil, Nat.reduceAdd, Nat.reduceSub, Array.replicate_succ, Array.replicate_zero, List.push_toArray, List.append_toArray, List.nil_append, List.cons_append]
 gi_wp2
 obtain ⟨N, hN⟩ : ∃ N, w.heap.size = N := ⟨_, rfl⟩
 obtain ⟨V, hV⟩ : ∃ V, (((w.alloc (.cells #[.func (.func 130) #[] #[]] 195)).alloc (.cells (stepC noS).toArray 122)).alloc (.cells #[.bool false] 4)) = V := ⟨_, rfl⟩
 rw [show (((w.alloc (.cells #[.func (.func 130) #[] #[]] 195)).alloc (.cells #[.int .i64 0, .int .i64 0, .int .i64 0, .string ⟨#[]⟩, .int .i64 0, .int .i64 0, .int .i64 0, .string ⟨#[]⟩] 122)).alloc (.cells #[.bool false] 4)) = V from hV]
 have vS : V.heap.size = N + 3 := by rw [← hV, ← hN]; simp
 have v0 : V.heap[N]? = some (.cells #[.func (.func 130) #[] #[]] 195) := by
  rw [← hV, Below.heap_alloc _ _ _ (by simp; omega), Below.heap_alloc _ _ _ (by simp; omega), ← hN]; exact World.alloc_heap_new w _
 have v1 : V.heap[N + 1]? = some (.cells (stepC noS).toArray 122) := by
  rw [← hV, Below.heap_alloc _ _ _ (by simp; omega), ← hN]
  have := World.alloc_heap_new (w.alloc (.cells #[.func (.func 130) #[] #[]] 195)) (.cells (stepC noS).toArray 122)
  rwa [World.size_alloc] at this
 have v2 : V.heap[N + 1 + 1]? = some (.cells #[.bool false] 4) := by
  rw [← hV, ← hN]
  have := World.alloc_heap_new ((w.alloc (.cells #[.func (.func 130) #[] #[]] 195)).alloc (.cells (stepC noS).toArray 122)) (.cells #[.bool false] 4)
  rwa [World.size_alloc, World.size_alloc] at this
 have vB : Below w.heap.size w V := by
  rw [← hV]; exact (((Below.refl _ w).alloc (Nat.le_refl _) _).alloc (by simp) _).alloc (by simp; omega) _
 rw [hN]
 refine wpIn_range_c rfl (by omega) (gf := 131) (lb := #[.pointer (some ⟨Bo, 0, none⟩)]) rfl trivial (enters_of Tryz.func131 (by kernel_rfl) rfl)
  (steps_stops 3 Bo N (by omega) ts ra rcap w _ h hts ((vB.cell (p := ⟨Bo, 0, none⟩) hBo).trans cl) (Nat.lt_of_lt_of_le hBo vB.size) (by omega) vB) kpC_t (kpC_b (by omega)) (Below.refl _ _) (fun _ => rfl)
  (fun pre W => (W.heap[N]? = some (.cells #[.func (.func 130) #[] #[]] 195) ∧ W.heap[N + 1]? = some (.cells (stepC noS).toArray 122) ∧ W.heap[N + 1 + 1]? = some (.cells #[.bool false] 4)) ∧ Below w.heap.size w W ∧ pre.any Sx.close = false)
  (fun c pre W => c = .ret ∧ (∃ x, W.heap[N + 1]? = some (.cells (stepC x).toArray 122)) ∧ W.heap[N + 1 + 1]? = some (.cells #[.bool true] 4) ∧ Below w.heap.size w W ∧ pre.any Sx.close = true)
  (OwnC.and (OwnC.and (ownC_heap (by omega)) (OwnC.and (ownC_heap (by omega)) (ownC_heap (by omega)))) (OwnC.and (ownC_below (Nat.le_refl _) (by omega)) (ownC_pure _)))
  (fun c => OwnC.and (ownC_pure _) (OwnC.and (ownC_ex fun x => ownC_heap (by omega)) (OwnC.and (ownC_heap (by omega)) (OwnC.and (ownC_below (Nat.le_refl _) (by omega)) (ownC_pure _)))))
  ⟨⟨v0, v1, v2⟩, vB, rfl⟩
  (fun x a' W => ∃ Bx, N + 1 + 1 < Bx ∧ W.heap[Bx]? = some (.cells (stepC x).toArray 122 (0, 0)) ∧ a' = { tmps := #[.func (.func 131) #[] #[.pointer (some ⟨Bo, 0, none⟩)], .func (.func 130) #[] #[], undef, .pointer (some ⟨N, 0, none⟩), .pointer (some ⟨N + 1, 0, none⟩), .pointer (some ⟨N + 1 + 1, 0, none⟩), .pointer (some ⟨Bx, 0, none⟩), undef, .func (.func 131) #[] #[.pointer (some ⟨Bo, 0, none⟩)], stepV x.1 x.2, undef, undef, undef, undef, undef], defers := [] })
  ?hAx ?assign ?body ?done ?stop
 case hAx =>
  rintro x a' _ X Y row ⟨Bx, q1, q2, q3⟩ hg hr
  refine ⟨Bx, q1, ?_, q3⟩
  rw [hg.block Bx (Array.getElem?_eq_some_iff.1 q2).1 (fun e => by obtain ⟨_, o, ho, hc⟩ := hr Bx e.symm; rw [q2] at ho; cases ho; simp [Obj.isCells] at hc)]
  exact q2
 case assign =>
  rintro l pre ⟨p, t⟩ W K ⟨⟨i0, i1, i2⟩, iB, iP⟩ sz hK
  rw [vS] at sz
  have KB := hid ((Below.refl W.heap.size W).alloc (Nat.le_refl _) (.cells (stepC (p, t)).toArray 122))
  have R := hid (hK { tmps := #[.func (.func 131) #[] #[.pointer (some ⟨Bo, 0, none⟩)], .func (.func 130) #[] #[], undef, .pointer (some ⟨N, 0, none⟩), .pointer (some ⟨N + 1, 0, none⟩), .pointer (some ⟨N + 1 + 1, 0, none⟩), .pointer (some ⟨W.heap.size, 0, none⟩), undef, .func (.func 131) #[] #[.pointer (some ⟨Bo, 0, none⟩)], stepV p t, undef, undef, undef, undef, undef], defers := [] } (W.alloc (.cells (stepC (p, t)).toArray 122)) ((KeepsOthers.alloc _ _).from _) (kp_grow KB.out iB.size)
   ⟨⟨(KB.out.block _ (Array.getElem?_eq_some_iff.1 i0).1).trans i0, (KB.out.block _ (Array.getElem?_eq_some_iff.1 i1).1).trans i1, (KB.out.block _ (Array.getElem?_eq_some_iff.1 i2).1).trans i2⟩, iB.alloc iB.size _, iP⟩ ⟨W.heap.size, by omega, World.alloc_heap_new W _, rfl⟩)
  clear hK i0 i1 i2
  gi_wp2
  exact R.out
 case body =>
  rintro l pre ⟨p, t⟩ a' W hl ⟨r, hr⟩ ⟨⟨i0, i1, i2⟩, iB, iP⟩ ⟨Bx, hBx, hX, rfl⟩ hpx sz
  have hm := steps_mem ts Sx.ago (p, t) (prefix_mem hpx)
  dsimp only at hm
  have hb1 : -2000000000000 ≤ p.stands ∧ p.stands ≤ 2000000000000 := by
   rcases hm.1 with rfl | e
   ·simp [Sx.ago]
   ·have := hbd _ e; omega
  have hb2 := hbd _ hm.2
  have HC := hid (check1_any (p, t) W hb1.1 hb1.2 (by dsimp only; omega) (by dsimp only; omega))
  obtain ⟨x0, _⟩ := ca_at (ca_heap2 hX) 0 rfl
  obtain ⟨x1, _⟩ := ca_at (ca_heap2 hX) 1 rfl
  obtain ⟨x2, _⟩ := ca_at (ca_heap2 hX) 2 rfl
  obtain ⟨x3, _⟩ := ca_at (ca_heap2 hX) 3 rfl
  obtain ⟨x4, _⟩ := ca_at (ca_heap2 hX) 4 rfl
  obtain ⟨x5, _⟩ := ca_at (ca_heap2 hX) 5 rfl
  obtain ⟨x6, _⟩ := ca_at (ca_heap2 hX) 6 rfl
  obtain ⟨x7, _⟩ := ca_at (ca_heap2 hX) 7 rfl
  have f0 := (ca_at (ca_heap2 (vs := [.func (.func 130) #[] #[]]) i0) 0 rfl).1
  have sx := (Array.getElem?_eq_some_iff.1 hX).1
  have s0 := (Array.getElem?_eq_some_iff.1 i0).1
  have HX := hid hX
  have I0 := hid i0
  have I1 := hid i1
  have I2 := hid i2
  have IB := hid iB
  clear hm hb1 hb2 hX i0 i1 i2 iB hr hpx
  dsimp only at HC
  obtain ⟨C, hC⟩ : ∃ C, Sx.close (p, t) = C := ⟨_, rfl⟩
  rw [hC] at HC
  have HCC := hid hC
  have IP := hid iP
  have SV : Hid (V.heap.size = N + 3 ∧ w.heap.size = N) := ⟨vS, hN⟩
  clear hC iP
  cases C
  case false =>
   gi_wp2_with (refine ⟨trivial, ?_⟩; gi_at_call 130; refine (CallsIn.inRound l (callsIn_wide.2 HC.out)).mono ?_; rintro e w1 ⟨rfl, hb⟩)
   refine ⟨(keeps_below hb).from _, kp_grow hb IB.out.size, ⟨(hb.block _ (Array.getElem?_eq_some_iff.1 I0.out).1).trans I0.out, (hb.block _ (Array.getElem?_eq_some_iff.1 I1.out).1).trans I1.out, (hb.block _ (Array.getElem?_eq_some_iff.1 I2.out).1).trans I2.out⟩, IB.out.trans (hb.mono IB.out.size), ?_⟩
   rw [List.any_append, IP.out]; simp [HCC.out]
  case true =>
   gi_wp2_with (refine ⟨trivial, ?_⟩; gi_at_call 130; refine (CallsIn.inRound l (callsIn_wide.2 HC.out)).mono ?_; rintro e w1 ⟨rfl, hb⟩; have HB := hid hb; have CX := ca_below (ca_heap2 HX.out) hb; obtain ⟨y0, _⟩ := ca_at CX 0 rfl; obtain ⟨y1, _⟩ := ca_at CX 1 rfl; obtain ⟨y2, _⟩ := ca_at CX 2 rfl; obtain ⟨y3, _⟩ := ca_at CX 3 rfl; obtain ⟨y4, _⟩ := ca_at CX 4 rfl; obtain ⟨y5, _⟩ := ca_at CX 5 rfl; obtain ⟨y6, _⟩ := ca_at CX 6 rfl; obtain ⟨y7, _⟩ := ca_at CX 7 rfl; have CR := ca_below (ca_heap2 I1.out) hb; obtain ⟨r0, q0⟩ := ca_at CR 0 rfl; obtain ⟨r1, q1⟩ := ca_at CR 1 rfl; obtain ⟨r2, q2⟩ := ca_at CR 2 rfl; obtain ⟨r3, q3⟩ := ca_at CR 3 rfl; obtain ⟨r4, q4⟩ := ca_at CR 4 rfl; obtain ⟨r5, q5⟩ := ca_at CR 5 rfl; obtain ⟨r6, q6⟩ := ca_at CR 6 rfl; obtain ⟨r7, q7⟩ := ca_at CR 7 rfl; have CB := ca_below (ca_heap2 (vs := [.bool false]) I2.out) hb; obtain ⟨b0, b1⟩ := ca_at CB 0 rfl; have sR := CR.1; have sB := CB.1; clear hb CX CR CB)
   have G1 := grown8 w1 (N + 1) (.int .i64 p.stands) (.int .i64 p.clock) (.int .i64 p.save) (strV p.letter) (.int .i64 t.stands) (.int .i64 t.clock) (.int .i64 t.save) (strV t.letter)
   have hb := HB.out
   have e1 := (hb.block _ (Array.getElem?_eq_some_iff.1 I1.out).1).trans I1.out
   have e2 := (hb.block _ (Array.getElem?_eq_some_iff.1 I2.out).1).trans I2.out
   have p1 := put8 (.int .i64 p.stands) (.int .i64 p.clock) (.int .i64 p.save) (strV p.letter) (.int .i64 t.stands) (.int .i64 t.clock) (.int .i64 t.save) (strV t.letter) e1
   have p2 := (G1.block (N + 1 + 1) (Array.getElem?_eq_some_iff.1 e2).1 (by simp)).trans e2
   have p3 := put1 (.bool true) p2
   have G2 := grownBy_setCell' ((((((((w1.setCell ⟨N + 1, 0, none⟩ (.int .i64 p.stands)).setCell ⟨N + 1, 1, none⟩ (.int .i64 p.clock)).setCell ⟨N + 1, 2, none⟩ (.int .i64 p.save)).setCell ⟨N + 1, 3, none⟩ (strV p.letter)).setCell ⟨N + 1, 4, none⟩ (.int .i64 t.stands)).setCell ⟨N + 1, 5, none⟩ (.int .i64 t.clock)).setCell ⟨N + 1, 6, none⟩ (.int .i64 t.save)).setCell ⟨N + 1, 7, none⟩ (strV t.letter)) (N + 1 + 1) (.bool true)
   have B1 := IB.out.trans (hb.mono IB.out.size)
   have B2 := B1.grown G1 B1.size (fun k e => by cases e; have := SV.out; omega)
   have B3 := B2.grown G2 B2.size (fun k e => by cases e; have := SV.out; omega)
   refine ⟨(((keeps_below hb).trans (keeps_grown G1 e1)).trans (keeps_grown G2 p2)).from _, rfl, ⟨(p, t), ?_⟩, p3, B3, ?_⟩
   ·exact (G2.block (N + 1) (Array.getElem?_eq_some_iff.1 p1).1 (by simp)).trans p1
   ·rw [List.any_append]; simp [HCC.out]
 case done =>
  rintro D ys W hD rfl ⟨⟨i0, i1, i2⟩, iB, iP⟩ hK
  rw [vS] at hD
  have hD0 : N + 1 + 1 < D := by omega
  have CR := ca_heap2 i1
  have CB := ca_heap2 (vs := [.bool false]) i2
  obtain ⟨r0, q0⟩ := ca_at CR 0 rfl
  obtain ⟨r1, q1⟩ := ca_at CR 1 rfl
  obtain ⟨r2, q2⟩ := ca_at CR 2 rfl
  obtain ⟨r3, q3⟩ := ca_at CR 3 rfl
  obtain ⟨r4, q4⟩ := ca_at CR 4 rfl
  obtain ⟨r5, q5⟩ := ca_at CR 5 rfl
  obtain ⟨r6, q6⟩ := ca_at CR 6 rfl
  obtain ⟨r7, q7⟩ := ca_at CR 7 rfl
  obtain ⟨b0, b1⟩ := ca_at CB 0 rfl
  have sR := CR.1
  have sB := CB.1
  have HK := hid hK
  have IB := hid iB
  have IP := hid iP
  have I1 := hid i1
  have I2 := hid i2
  clear i0 i1 i2 CR CB hK iB iP v0 v1 v2 vB hV vS h hbd cl
  gi_wp2
  have G0 := World.grownBy_alloc W (.cells (stepC noS).toArray 122) none
  have G1 := grown8 W (N + 1) (.int .i64 0) (.int .i64 0) (.int .i64 0) (.string ⟨#[]⟩) (.int .i64 0) (.int .i64 0) (.int .i64 0) (.string ⟨#[]⟩)
  have p1 := put8 (.int .i64 0) (.int .i64 0) (.int .i64 0) (.string ⟨#[]⟩) (.int .i64 0) (.int .i64 0) (.int .i64 0) (.string ⟨#[]⟩) I1.out
  have p2 := (G1.block (N + 1 + 1) (Array.getElem?_eq_some_iff.1 I2.out).1 (by simp)).trans I2.out
  have p3 := put1 (.bool false) p2
  have G2 := grownBy_setCell' ((((((((W.setCell ⟨N + 1, 0, none⟩ (.int .i64 0)).setCell ⟨N + 1, 1, none⟩ (.int .i64 0)).setCell ⟨N + 1, 2, none⟩ (.int .i64 0)).setCell ⟨N + 1, 3, none⟩ (.string ⟨#[]⟩)).setCell ⟨N + 1, 4, none⟩ (.int .i64 0)).setCell ⟨N + 1, 5, none⟩ (.int .i64 0)).setCell ⟨N + 1, 6, none⟩ (.int .i64 0)).setCell ⟨N + 1, 7, none⟩ (.string ⟨#[]⟩)) (N + 1 + 1) (.bool false)
  have p4 := (G2.block (N + 1) (Array.getElem?_eq_some_iff.1 p1).1 (by simp)).trans p1
  have d1 := (G1.block D (Array.getElem?_eq_some_iff.1 HK.out).1 (by simp; omega)).trans HK.out
  have d2 := (G2.block D (Array.getElem?_eq_some_iff.1 d1).1 (by simp; omega)).trans d1
  have B2 := IB.out.grown G1 IB.out.size (fun k e => by cases e; omega)
  have B3 := B2.grown G2 B2.size (fun k e => by cases e; omega)
  have B4 := B3.alloc B3.size (.cells (stepC noS).toArray 122)
  rw [show (Sx.stepsOf ts).any Sx.close = false from IP.out]
  exact first_end (x := noS) hN rfl rfl rfl ((Below.heap_alloc _ _ _ (Array.getElem?_eq_some_iff.1 p4).1).trans p4) ((Below.heap_alloc _ _ _ (Array.getElem?_eq_some_iff.1 p3).1).trans p3) hD0 ((Below.heap_alloc _ _ _ (Array.getElem?_eq_some_iff.1 d2).1).trans d2) B4
 case stop =>
  rintro D c pre W hD hpre ⟨rfl, ⟨x, i1⟩, i2, iB, iP⟩ hK
  rw [vS] at hD
  have hA : (Sx.stepsOf ts).any Sx.close = true := by
   obtain ⟨r, hr⟩ := hpre
   rw [← hr, List.any_append, iP]; rfl
  have E := hid (first_end (a := { tmps := #[.func (.func 131) #[] #[.pointer (some ⟨Bo, 0, none⟩)], .func (.func 130) #[] #[], undef, .pointer (some ⟨N, 0, none⟩), .pointer (some ⟨N + 1, 0, none⟩), .pointer (some ⟨N + 1 + 1, 0, none⟩), undef, undef, .func (.func 131) #[] #[.pointer (some ⟨Bo, 0, none⟩)], undef, undef, undef, undef, undef, undef], defers := [{ target := .collected D, args := #[] }] }) hN rfl rfl rfl i1 i2 (show N + 1 + 1 < D by omega) hK iB)
  have HA := hid hA
  clear v0 v1 v2 vB hV vS h hbd cl i1 i2 hK iB iP hA
  gi_wp2
  rw [HA.out]
  exact E.out
theorem seekHas_any (Bo : Nat) (ts : List Sx.Tn) (ra : Option Addr) (rcap : Nat) (w : World) (h : RdTurns w (.slice ra ts.length rcap) ts) (hts : ts.length ≤ 10000) (hbd : ∀ t ∈ ts, -1000000000000 ≤ t.stands ∧ t.stands ≤ 1000000000000)
  (cl : w.cell? ⟨Bo, 0, none⟩ = some (.slice ra ts.length rcap)) (hBo : Bo < w.heap.size) :
  Calls Tryz.prog 129 #[.func (.func 131) #[] #[.pointer (some ⟨Bo, 0, none⟩)], .func (.func 130) #[] #[]] w
   fun e w' => e = .returned (.bool ((Sx.stepsOf ts).any Sx.close)) ∧ Below w.heap.size w w' := by
 have C := hid (seekFirst_any Bo ts ra rcap w h hts hbd cl hBo)
 clear h hbd cl
 go_enter Tryz.func129, Tryz.ntmps129
 go_wp2_with fail
 refine C.out.mono ?_
 rintro e w1 ⟨p, t, rfl, hb⟩
 have HB := hid hb
 clear hb
 go_wp2
 go_ret
 exact ⟨rfl, HB.out.alloc HB.out.size _⟩
/- what is wrong with turns in order -/
def turnsE (ts : List Sx.Tn) : Int := if ts.isEmpty = true then 5 else if (Sx.stepsOf ts).any Sx.close = true then 4 else if 1000 < ts.length then 2 else 0
theorem checkTurns_any (ts : List Sx.Tn) (v : Value) (w : World) (h : RdTurns w v ts) (hts : ts.length ≤ 10000) (hbd : ∀ t ∈ ts, -1000000000000 ≤ t.stands ∧ t.stands ≤ 1000000000000) :
  Calls Tryz.prog 67 #[v] w fun e w' => e = .returned (.int .i64 (turnsE ts)) ∧ Below w.heap.size w w' := by
 obtain ⟨ra, rcap, rfl⟩ := rd_shape h
 by_cases he : ts = []
 ·subst he
  have hz : Hid (turnsE [] = 5) := rfl
  clear h hts hbd
  go_enter Tryz.func67, Tryz.ntmps67
  go_wp2
  go_ret
  exact ⟨ret_int hz.out.symm, Below.refl _ _⟩
 have hl : ts.length ≠ 0 := fun q => he (List.length_eq_zero_iff.1 q)
 have hl0 : (ts.length == 0) = false := by simp [he]
 have hz : (((ts.length : Int)) == 0) = false := by simp; exact he
 have B1 := hid ((Below.refl w.heap.size w).alloc (Nat.le_refl _) (.cells #[.slice ra ts.length rcap] 110))
 have C := hid (seekHas_any w.heap.size ts ra rcap (w.alloc (.cells #[.slice ra ts.length rcap] 110)) (rd_below h B1.out) hts hbd (ca_at (ca_new w [.slice ra ts.length rcap] 110) 0 rfl).1 (by simp))
 obtain ⟨A, hA⟩ : ∃ A, (Sx.stepsOf ts).any Sx.close = A := ⟨_, rfl⟩
 have HE : Hid (turnsE ts = if A = true then 4 else if 1000 < ts.length then 2 else 0) := by
  show _ = _
  unfold turnsE
  rw [if_neg (by simp [he]), hA]
 rw [hA] at C
 clear h hbd hA
 cases A
 case true =>
  go_enter Tryz.func67, Tryz.ntmps67
  go_wp2_with (first | (go_at_call 68; refine (steps_any _ _ _ _).mono ?_; rintro e w1 ⟨rfl, rfl⟩) | (go_at_call 129; refine C.out.mono ?_; rintro e w1 ⟨rfl, hb⟩))
  go_ret
  exact ⟨ret_int (by rw [HE.out]; rfl), B1.out.trans (hb.mono B1.out.size)⟩
 case false =>
  by_cases hm : 1000 < ts.length
  ·have HE2 : Hid (turnsE ts = 2) := by show _ = _; rw [HE.out, if_neg (by decide), if_pos hm]
   go_enter Tryz.func67, Tryz.ntmps67
   go_wp2_with (first | (go_at_call 68; refine (steps_any _ _ _ _).mono ?_; rintro e w1 ⟨rfl, rfl⟩) | (go_at_call 129; refine C.out.mono ?_; rintro e w1 ⟨rfl, hb⟩))
   go_ret
   exact ⟨ret_int HE2.out.symm, B1.out.trans (hb.mono B1.out.size)⟩
  ·have HE2 : Hid (turnsE ts = 0) := by show _ = _; rw [HE.out, if_neg (by decide), if_neg hm]
   go_enter Tryz.func67, Tryz.ntmps67
   go_wp2_with (first | (go_at_call 68; refine (steps_any _ _ _ _).mono ?_; rintro e w1 ⟨rfl, rfl⟩) | (go_at_call 129; refine C.out.mono ?_; rintro e w1 ⟨rfl, hb⟩))
   go_ret
   exact ⟨ret_int HE2.out.symm, B1.out.trans (hb.mono B1.out.size)⟩
end Go.Proofs.YtkhlkohlccndgaaGreat
namespace Go.Proofs.YtkhlkohlccndgaaGreat
open Go.RowKit Go.Shelf
attribute [local go_sem] Oper.semAt_some

theorem Tryz.infoTurn : (Tryz.prog.info? 120).map (fun i => (i.zero, i.size, i.bytes)) = some (some (.agg #[.int .i64 0, .int .i64 0, .int .i64 0, .string ⟨#[]⟩]), 4, 40) := by kernel_rfl
theorem kp_t {n₀ Bs : Nat} {T : TypeId} {A B C : World} (h : Kp n₀ T Bs A B) (k : Kp n₀ T Bs B C) : Kp n₀ T Bs A C := ⟨h.1.trans k.1, keepT_t h.2 k.2⟩
theorem kp_b {n₀ Bs : Nat} {T : TypeId} {w : World} (hn : n₀ ≤ w.heap.size) (W : World) (l : Nat) (o o' : Obj) (a : w.heap.size ≤ l) (b : W.heap[l]? = some o) (c : o.isCells = false) (d : o.isWalk = false) : Kp n₀ T Bs W (W.putObj l o') :=
 ⟨belowK_b hn W l o o' a b c d, keepT_b (w := w) W l o o' a b c d⟩
theorem turns_stops (n Bl Bn Bs : Nat) (hn : 1 ≤ n) (rs : List Sx.Rl) (name : Tx.Bs) (ra : Option Addr) (rcap : Nat) (W0 w : World) (h : RdRules W0 (.slice ra rs.length rcap) rs) (hok : ∀ r ∈ rs, Sx.RuleOk r) (hrs : rs.length ≤ 40)
  (cl : W0.cell? ⟨Bl, 0, none⟩ = some (.slice ra rs.length rcap)) (cn : W0.cell? ⟨Bn, 0, none⟩ = some (strV name)) (hBl : Bl < W0.heap.size) (hBn : Bn < W0.heap.size) (hBs : Bs < w.heap.size) (hW : Below W0.heap.size W0 w) :
  SeqStopsK Fence.wide n Tryz.prog 127 #[.pointer (some ⟨Bl, 0, none⟩), .pointer (some ⟨Bn, 0, none⟩)] (fun t : Sx.Tn => #[turnV t]) (Kp W0.heap.size 120 Bs) (fun ys => ys = Sx.turnsOf rs name) (fun pre => pre <+: Sx.turnsOf rs name) (Sx.turnsOf rs name).length w :=
 fun l J Jx W hW1 hJ hJx hY h0 => turns1_in n l Bl Bn Bs hn rs name ra rcap W0 W h hok hrs cl cn hBl hBn (Nat.lt_of_lt_of_le hBs hW1.size) (hW.trans (hW1.mono hW.size)) J Jx hJ hY h0

theorem keepT_app {T : TypeId} {Bs B z n : Nat} {W w1 : World} {v u : Value} {xs : List Value} {o : Obj} (hrow : W.ownsRow B T z v n xs) (hg : (W.alloc o).grownBy w1 v.ownBlock) : KeepT T Bs W (w1.setCell ⟨Bs, 0, none⟩ u) := by
 have hs := hg.size
 simp at hs
 refine ⟨by simp; omega, fun k cs t a ht hk => ?_⟩
 have hk2 := (Array.getElem?_eq_some_iff.1 a).1
 rw [Below.heap_setCell _ _ _ _ hk, hg.block k (by simp; omega) ?_, Below.heap_alloc _ _ _ hk2]
 ·exact a
 ·intro e
  rcases hrow.2 with ⟨rfl, _⟩ | ⟨g, cap, cur, rfl, _, hh, _⟩
  ·simp [Value.ownBlock] at e
  ·simp [Value.ownBlock] at e
   subst e
   rw [hh] at a
   simp at a
   exact ht a.2.symm
theorem ca_heap {W : World} {b : Nat} {vs : List Value} {t : TypeId} (h : W.heap[b]? = some (.cells vs.toArray t (0, 0))) : CellsAt W b vs := by
 refine ⟨(Array.getElem?_eq_some_iff.1 h).1, fun k v hv => ?_⟩
 simp [World.cell?, World.frozen?, h, hv]
theorem turn_one (x : Sx.Tn) : ∀ u ∈ turnC x, u.oneCell' = true := by
 intro u hu; simp only [turnC, List.mem_cons, List.not_mem_nil, or_false] at hu; rcases hu with rfl | rfl | rfl | rfl <;> rfl
theorem turn_cells (w : World) (x : Sx.Tn) {e : TypeId} : ∀ (j : Nat) (u : Value), (turnC x)[j]? = some u → (w.alloc (.cells #[.int .i64 x.stands, .int .i64 x.clock, .int .i64 x.save, strV x.letter] e)).cell? ((⟨w.heap.size, 0, none⟩ : Addr).add j) = some u := new_cells w (turnC x)
theorem appendSeq_any (Bl Bn : Nat) (rs : List Sx.Rl) (name : Tx.Bs) (ra : Option Addr) (rcap : Nat) (w : World) (h : RdRules w (.slice ra rs.length rcap) rs) (hok : ∀ r ∈ rs, Sx.RuleOk r) (hrs : rs.length ≤ 40)
  (cl : w.cell? ⟨Bl, 0, none⟩ = some (.slice ra rs.length rcap)) (cn : w.cell? ⟨Bn, 0, none⟩ = some (strV name)) (hBl : Bl < w.heap.size) (hBn : Bn < w.heap.size) (hN : (Sx.turnsOf rs name).length ≤ 10000) :
  Calls Tryz.prog 200 #[.slice none 0 0, .func (.func 127) #[] #[.pointer (some ⟨Bl, 0, none⟩), .pointer (some ⟨Bn, 0, none⟩)]] w
   fun e w' => ∃ v, e = .returned v ∧ w'.ownsRow w.heap.size 120 4 v (Sx.turnsOf rs name).length ((Sx.turnsOf rs name).flatMap turnC) ∧ Below w.heap.size w w' := by
 obtain ⟨i0, hi, hz0, hz1, hz2⟩ := info_parts Tryz.infoTurn
 refine (callsIn_wide (n := 4)).1 ?_
 refine callsIn_of_wp_marks Tryz.func200 rfl trivial ?_ rfl
 simp only [Tryz.ntmps200, List.size_toArray, List.length_cons, List.length_nil, Nat.reduceAdd, Nat.reduceSub, Array.replicate_succ, Array.replicate_zero, List.push_toArray, List.append_toArray, List.nil_append, List.cons_append]
 gi_wp2
 have bO := Boxed.new w 110 (.slice none 0 0)
 have hB0 : Below w.heap.size w (w.alloc (.cells #[.slice none 0 0] 110)) := (Below.refl _ w).alloc (Nat.le_refl _) _
 refine wpIn_rangeFunc_ownH rfl (by omega) (gf := 127) (lb := #[.pointer (some ⟨Bl, 0, none⟩), .pointer (some ⟨Bn, 0, none⟩)]) rfl trivial (enters_of Tryz.func127 (by kernel_rfl) rfl)
  (turns_stops 3 Bl Bn w.heap.size (by omega) rs name ra rcap w _ h hok hrs cl cn hBl hBn (by simp) hB0) kp_t (kp_b (by simp)) (Below.refl _ _) (fun _ => rfl)
  (fun (pre : List Sx.Tn) W => (∃ v, Boxed W w.heap.size 110 v ∧ W.ownsRow w.heap.size 120 4 v pre.length (pre.flatMap turnC) ∧ True) ∧ Below w.heap.size w W)
  (fun _ _ _ => False)
  (OwnFrom.and (Own.from (holdsRow_own w.heap.size w.heap.size 110 120 4 (fun (pre : List Sx.Tn) => pre.length) (fun (pre : List Sx.Tn) => pre.flatMap turnC) (fun (pre : List Sx.Tn) v => True)) _) (ownFrom_below (Nat.le_refl _) (by simp)))
  (fun _ _ _ _ _ hs _ _ => hs)
  ⟨⟨_, bO, World.ownsRow_nil _ _ _ _, trivial⟩, hB0⟩
  (fun x a' W => ∃ Bx, w.heap.size < Bx ∧ W.heap[Bx]? = some (.cells (turnC x).toArray 120 (0, 0)) ∧ a' = { tmps := #[.slice none 0 0, .func (.func 127) #[] #[.pointer (some ⟨Bl, 0, none⟩), .pointer (some ⟨Bn, 0, none⟩)], .pointer (some ⟨w.heap.size, 0, none⟩), undef, .slice none 0 0, .pointer (some ⟨Bx, 0, none⟩), .func (.func 127) #[] #[.pointer (some ⟨Bl, 0, none⟩), .pointer (some ⟨Bn, 0, none⟩)], turnV x, undef, undef, undef, undef, undef], defers := [] })
  ?hAx ?assign ?body ?done ?stop
 case hAx =>
  rintro x a' _ X Y row ⟨Bx, q1, q2, q3⟩ hg hr
  refine ⟨Bx, q1, ?_, q3⟩
  rw [hg.block Bx (Array.getElem?_eq_some_iff.1 q2).1 (fun e => by obtain ⟨_, o, ho, hc⟩ := hr Bx e.symm; rw [q2] at ho; cases ho; simp [Obj.isCells] at hc)]
  exact q2
 case assign =>
  rintro l pre x W K ⟨⟨v, hv, hrow, _⟩, hB1⟩ hK
  gi_wp2
  refine hK _ _ ((KeepsOthers.alloc _ _).from _) ⟨(Below.refl _ W).alloc hB1.size _, ?_⟩ ⟨⟨v, hv.alloc _, hrow.alloc _, trivial⟩, hB1.alloc hB1.size _⟩ ⟨W.heap.size, hv.lt, World.alloc_heap_new W _, rfl⟩
  exact ⟨by simp, fun k cs t a _ _ => by rw [Below.heap_alloc _ _ _ (Array.getElem?_eq_some_iff.1 a).1]; exact a⟩
 case body =>
  rintro l pre x a' W hl ⟨r, hr⟩ ⟨⟨v, hv, hrow, _⟩, hB⟩ ⟨Bx, hBx, hX, rfl⟩ hlt
  have hc := hv.cell
  have CX := ca_heap hX
  obtain ⟨x0, _⟩ := ca_at CX 0 rfl
  obtain ⟨x1, _⟩ := ca_at CX 1 rfl
  obtain ⟨x2, _⟩ := ca_at CX 2 rfl
  obtain ⟨x3, _⟩ := ca_at CX 3 rfl
  have sx := CX.1
  have hpl : pre.length + 1 ≤ 10000 := by omega
  gi_wp2_with (gi_at_builtin; refine wpListIn_append_own _ rfl _ _ 110 rfl w.heap.size 120 i0 (.agg #[.int .i64 0, .int .i64 0, .int .i64 0, .string ⟨#[]⟩]) 4 40 Tryz.underlying110 hi hz0 hz1 hz2 rfl (by decide) _ _ _ rfl (hrow.alloc _) ⟨W.heap.size, 0, none⟩ 1 1 (turnC x) rfl rfl (turn_cells _ _) (turn_one x) (by unfold maxLen; omega) (by omega) (by have := hB.size; simp; omega) ?_; intro v' w1 hown' hgrow _; obtain ⟨g', cap', rfl⟩ := ownsRow_succ hown'; obtain ⟨hv1, hv2, hr2, hk2, hb2⟩ := hv.appended (by decide) hrow hB.size (Nat.le_refl _) hown' hgrow; have hc1 := hv1.cell; have hf1 := hv1.frozen)
  exact ⟨hk2.from _, ⟨hb2, keepT_app hrow hgrow⟩, ⟨_, hv2, by simpa using hr2, trivial⟩, hB.trans hb2⟩
 case done =>
  rintro D ys W hD rfl ⟨⟨v, hv, hrow, _⟩, hB⟩ hK
  have hc := hv.cell
  gi_wp2
  refine ⟨by simp, .inl ⟨_, _, rfl, run_takeDeferred hK, ?_⟩⟩
  exact ⟨_, results_tmp rfl _ _ _, v, rfl, ownsRow_putObj hrow _ hK rfl, hB.trans (belowK_b (w := w) (Nat.le_refl _) W D _ _ (by simp at hD; omega) hK rfl rfl)⟩
 case stop =>
  rintro D c pre W _ _ h _
  exact h.elim
end Go.Proofs.YtkhlkohlccndgaaGreat
namespace Go.Proofs.YtkhlkohlccndgaaGreat
open Go.RowKit Go.Shelf

theorem turns_any (rv : Value) (name : Tx.Bs) (w : World) (ra : Option Addr) (n rcap : Nat) (hrv : rv = .slice ra n rcap) :
  Calls Tryz.prog 66 #[rv, strV name] w fun e w' => e = .returned (.func (.func 127) #[] #[.pointer (some ⟨w.heap.size, 0, none⟩), .pointer (some ⟨w.heap.size + 1, 0, none⟩)]) ∧ w' = (w.alloc (.cells #[rv] 22)).alloc (.cells #[strV name] 9) := by
 subst hrv
 go_enter Tryz.func66, Tryz.ntmps66
 go_wp2
 go_ret
 exact ⟨rfl, rfl⟩
theorem collect_any (Bl Bn : Nat) (rs : List Sx.Rl) (name : Tx.Bs) (ra : Option Addr) (rcap : Nat) (w : World) (h : RdRules w (.slice ra rs.length rcap) rs) (hok : ∀ r ∈ rs, Sx.RuleOk r) (hrs : rs.length ≤ 40)
  (cl : w.cell? ⟨Bl, 0, none⟩ = some (.slice ra rs.length rcap)) (cn : w.cell? ⟨Bn, 0, none⟩ = some (strV name)) (hBl : Bl < w.heap.size) (hBn : Bn < w.heap.size) (hN : (Sx.turnsOf rs name).length ≤ 10000) :
  Calls Tryz.prog 172 #[.func (.func 127) #[] #[.pointer (some ⟨Bl, 0, none⟩), .pointer (some ⟨Bn, 0, none⟩)]] w
   fun e w' => ∃ v, e = .returned v ∧ w'.ownsRow w.heap.size 120 4 v (Sx.turnsOf rs name).length ((Sx.turnsOf rs name).flatMap turnC) ∧ Below w.heap.size w w' := by
 have C := hid (appendSeq_any Bl Bn rs name ra rcap w h hok hrs cl cn hBl hBn hN)
 clear h hok cl cn hN
 go_enter Tryz.func172, Tryz.ntmps172
 go_wp2_with fail
 refine C.out.mono ?_
 rintro e w1 ⟨v, rfl, hown, hb⟩
 go_wp2
 go_ret
 exact ⟨_, rfl, hown, hb⟩
/- there are not too many -/
theorem turns_few {rs : List Sx.Rl} {name : Tx.Bs} (h : ∀ r ∈ rs, Sx.RuleOk r) (hl : rs.length ≤ 40) : (Sx.turnsOf rs name).length ≤ 10000 := by
 have key : ∀ l : List Sx.Rl, (∀ r ∈ l, Sx.RuleOk r) → (Sx.turnsOf l name).length ≤ 201 * l.length := by
  intro l
  induction l with
  | nil => intro _; simp [Sx.turnsOf]
  | cons r l ih =>
    intro hr
    have ih := ih fun x hx => hr x (by simp [hx])
    have ok := hr r (by simp)
    have hm : (Sx.turnsR r).length ≤ 201 := by have := ok.frm; have := ok.le; have := ok.to; simp [Sx.turnsR, Sx.many]; omega
    unfold Sx.turnsOf at ih ⊢
    cases q : (r.name == name)
    ·simp only [List.filter_cons, q, Bool.false_eq_true, if_false, List.length_cons]; omega
    ·simp only [List.filter_cons, q, if_true, List.flatMap_cons, List.length_append, List.length_cons]; omega
 have := key rs h
 omega
end Go.Proofs.YtkhlkohlccndgaaGreat
namespace Go.Proofs
open Go.Shelf
def Tryz.laysSortTurn_ren : Go.Shelf.Ren := ⟨fun | 6 => 173 | 15 => 202 | 14 => 201 | 28 => 221 | 29 => 222 | 20 => 213 | 21 => 214 | 22 => 215 | 23 => 216 | 24 => 217 | 25 => 218 | 26 => 219 | 27 => 220 | 46 => 236 | 47 => 237 | 48 => 238 | 49 => 239 | 50 => 240 | 57 => 245 | n => n, fun | 22 => 110 | 24 => 120 | 25 => 191 | 3 => 3 | 39 => 230 | 0 => 0 | 53 => 258 | 55 => 260 | 4 => 4 | 46 => 251 | 45 => 250 | 50 => 255 | 5 => 5 | 9 => 9 | 66 => 266 | 70 => 270 | 76 => 276 | 77 => 139 | n => n, fun | n => n⟩
theorem Tryz.laysSortTurn : Go.Proofs.SlLaysF0.n6 Tryz.prog Tryz.laysSortTurn_ren := {
 mixed := by kernel_rfl
 f6 := ⟨Tryz.f173.name, by decide, Tryz.func173.trans (congrArg some (by kernel_rfl))⟩
 f14 := ⟨Tryz.f201.name, by decide, Tryz.func201.trans (congrArg some (by kernel_rfl))⟩
 f15 := Tryz.func202.trans (congrArg some (by kernel_rfl))
 f20 := ⟨Tryz.f213.name, by decide, Tryz.func213.trans (congrArg some (by kernel_rfl))⟩
 f21 := ⟨Tryz.f214.name, by decide, Tryz.func214.trans (congrArg some (by kernel_rfl))⟩
 f22 := ⟨Tryz.f215.name, by decide, Tryz.func215.trans (congrArg some (by kernel_rfl))⟩
 f23 := ⟨Tryz.f216.name, by decide, Tryz.func216.trans (congrArg some (by kernel_rfl))⟩
 f24 := ⟨Tryz.f217.name, by decide, Tryz.func217.trans (congrArg some (by kernel_rfl))⟩
 f25 := ⟨Tryz.f218.name, by decide, Tryz.func218.trans (congrArg some (by kernel_rfl))⟩
 f26 := ⟨Tryz.f219.name, by decide, Tryz.func219.trans (congrArg some (by kernel_rfl))⟩
 f27 := ⟨Tryz.f220.name, by decide, Tryz.func220.trans (congrArg some (by kernel_rfl))⟩
 f28 := Tryz.func221.trans (congrArg some (by kernel_rfl))
 f29 := Tryz.func222.trans (congrArg some (by kernel_rfl))
 f46 := ⟨Tryz.f236.name, by decide, Tryz.func236.trans (congrArg some (by kernel_rfl))⟩
 f47 := Tryz.func237.trans (congrArg some (by kernel_rfl))
 f48 := Tryz.func238.trans (congrArg some (by kernel_rfl))
 f49 := ⟨Tryz.f239.name, by decide, Tryz.func239.trans (congrArg some (by kernel_rfl))⟩
 f50 := ⟨Tryz.f240.name, by decide, Tryz.func240.trans (congrArg some (by kernel_rfl))⟩
 f57 := ⟨Tryz.f245.name, by decide, Tryz.func245.trans (congrArg some (by kernel_rfl))⟩
 t0 := Tryz.underlying0
 a0 := Tryz.isAgg0
 z0 := Tryz.sizeOf0
 v0 := Tryz.zeroValue0
 t3 := Tryz.underlying3
 a3 := Tryz.isAgg3
 z3 := Tryz.sizeOf3
 v3 := Tryz.zeroValue3
 t4 := Tryz.underlying4
 a4 := Tryz.isAgg4
 z4 := Tryz.sizeOf4
 v4 := Tryz.zeroValue4
 t5 := Tryz.underlying5
 a5 := Tryz.isAgg5
 z5 := Tryz.sizeOf5
 v5 := Tryz.zeroValue5
 t9 := Tryz.underlying9
 a9 := Tryz.isAgg9
 z9 := Tryz.sizeOf9
 v9 := Tryz.zeroValue9
 t22 := Tryz.underlying110
 a22 := Tryz.isAgg110
 z22 := Tryz.sizeOf110
 v22 := Tryz.zeroValue110
 t25 := Tryz.underlying191
 a25 := Tryz.isAgg191
 z25 := Tryz.sizeOf191
 v25 := Tryz.zeroValue191
 t39 := Tryz.underlying230
 a39 := Tryz.isAgg230
 z39 := Tryz.sizeOf230
 v39 := Tryz.zeroValue230
 t45 := Tryz.underlying250
 a45 := Tryz.isAgg250
 z45 := Tryz.sizeOf250
 v45 := Tryz.zeroValue250
 t46 := Tryz.underlying251
 a46 := Tryz.isAgg251
 z46 := Tryz.sizeOf251
 v46 := Tryz.zeroValue251
 t50 := Tryz.underlying255
 a50 := Tryz.isAgg255
 z50 := Tryz.sizeOf255
 v50 := Tryz.zeroValue255
 t53 := Tryz.underlying258
 a53 := Tryz.isAgg258
 z53 := Tryz.sizeOf258
 v53 := Tryz.zeroValue258
 t55 := Tryz.underlying260
 a55 := Tryz.isAgg260
 z55 := Tryz.sizeOf260
 v55 := Tryz.zeroValue260
 t66 := Tryz.underlying266
 a66 := Tryz.isAgg266
 z66 := Tryz.sizeOf266
 v66 := Tryz.zeroValue266
 t70 := Tryz.underlying270
 a70 := Tryz.isAgg270
 z70 := Tryz.sizeOf270
 v70 := Tryz.zeroValue270
 t76 := Tryz.underlying276
 a76 := Tryz.isAgg276
 z76 := Tryz.sizeOf276
 v76 := Tryz.zeroValue276
 t77 := Tryz.underlying139
 a77 := Tryz.isAgg139
 z77 := Tryz.sizeOf139
 v77 := Tryz.zeroValue139 }
end Go.Proofs
namespace Go.Proofs.YtkhlkohlccndgaaGreat
open Go.RowKit Go.Shelf Go.Sort

instance : Inhabited Sx.Tn := ⟨Sx.ago⟩
def cmpT (x y : Sx.Tn) : Int := cmpI x.stands y.stands
theorem ltT (x y : Sx.Tn) : ltOf cmpT x y = decide (x.stands < y.stands) := by
 unfold ltOf cmpT cmpI
 by_cases h1 : x.stands < y.stands
 ·simp [h1]
 ·by_cases h2 : y.stands < x.stands <;> simp [h1, h2]
theorem swoT : SWO (ltOf cmpT) where
 irrefl x := by rw [ltT]; simp
 trans x y z h1 h2 := by rw [ltT] at *; simp at *; omega
 ntrans x y z h1 h2 := by rw [ltT] at *; simp at *; omega
theorem order1_grow (s t : Sx.Tn) (w : World) : Calls Tryz.prog 125 #[turnV s, turnV t] w fun e w' => e = .returned (.int .i64 (cmpT s t)) ∧ ∃ q os', w' = grow (w.drewN q) os' := by
 go_enter Tryz.func125, Tryz.ntmps125
 go_wp2_with (go_at_call 126; refine (compare_any _ _ _).mono ?_; rintro e w1 ⟨rfl, rfl⟩)
 go_ret
 exact ⟨rfl, 0, _, by rw [alloc_eq_grow, alloc_eq_grow, grow_grow]; rfl⟩
theorem cmpLaysT (blk off size : Nat) (w : World) : CmpLays Tryz.prog 125 #[] turnC 4 cmpT blk off size w := fun _ _ _ _ x y => order1_grow x y _
theorem grownBy_sortedT {w : World} {g n : Nat} {os : Array Obj} (d : Array Sx.Tn) : w.grownBy (sortWorldK turnC 4 w g 0 n d os) (some g) := by
 refine ⟨rfl, rfl, rfl, by simp [sortWorldK, putRowK], fun k hk hne => ?_⟩
 unfold sortWorldK putRowK
 rw [heap_grow_old _ _ (by simpa using hk)]
 have : g ≠ k := fun e => hne (by rw [e])
 simp [putRow, mapBlock, Sort.ahead, Array.getElem?_modify, this]
theorem holdsT {w : World} {g : Nat} {cur : Array Value} {e : TypeId} {ts : List Sx.Tn} (hb : w.heap[g]? = some (.cells cur e (0, 0))) (ht : cur.toList.take (ts.length * 4) = ts.flatMap turnC) : HoldsK turnC 4 w g 0 ts.toArray := by
 intro j hj
 rw [size_flatK] at hj
 have hj' : j < ts.length * 4 := by simpa using hj
 refine ⟨?_, by simp [World.frozen?, hb]⟩
 rw [get_flatK _ _ _ _ hj]
 have hi : j / 4 < ts.length := by omega
 have hx : ts[j / 4]? = some ts[j / 4] := List.getElem?_eq_getElem hi
 have hc : (turnC ts[j / 4])[j % 4]? = some ((turnC ts[j / 4])[j % 4]'(by show j % 4 < 4; omega)) := List.getElem?_eq_getElem _
 have q := flat_get turnC (z := 4) (fun _ => rfl) ts (j / 4) _ hx (j % 4) _ hc
 rw [show j / 4 * 4 + j % 4 = j by omega] at q
 have h1 : (cur.toList.take (ts.length * 4))[j]? = (ts.flatMap turnC)[j]? := by rw [ht]
 rw [List.getElem?_take_of_lt hj', q] at h1
 simp only [World.cell?, hb, Nat.zero_add]
 simp only [Option.isSome_none, Bool.false_eq_true, if_false]
 rw [← Array.getElem?_toList, h1]
 simp [hi]
 rw [hc]; rfl
theorem rd_holdsT {w : World} {g n cap : Nat} {d : Array Sx.Tn} (hH : HoldsK turnC 4 w g 0 d) (hg : g < w.heap.size) (hn : d.size = n) : RdTurns w (.slice (some ⟨g, 0, none⟩) n cap) d.toList := by
 refine ⟨some ⟨g, 0, none⟩, cap, by simp [hn], fun _ => ⟨g, 0, rfl, hg, fun i x hx k u hu => ?_⟩⟩
 have hi : i < d.size := by have := (List.getElem?_eq_some_iff.1 hx).1; simpa using this
 have hk : k < 4 := (List.getElem?_eq_some_iff.1 hu).1
 have q := (HoldsK.cell hH hi hk).1
 have ex : d[i]! = x := by
  rw [getElem!_pos d i hi]
  have := (List.getElem?_eq_some_iff.1 hx).2
  simpa using this
 have eu : (turnC x)[k]! = u := by
  rw [getElem!_pos _ k (by show k < 4; exact hk)]
  exact (List.getElem?_eq_some_iff.1 hu).2
 rw [ex, eu] at q
 exact q
def Ordered (ts o : List Sx.Tn) : Prop := o.Perm ts ∧ Sx.SortedT o
theorem ordered_nil : Ordered [] [] := ⟨.refl _, by simp [Sx.SortedT]⟩
theorem ordered_of {ts : List Sx.Tn} {d : Array Sx.Tn} (hp : PermIn 0 ts.toArray.size ts.toArray d) (hs : SortedIn (ltOf cmpT) 0 ts.toArray.size d) : Ordered ts d.toList := by
 obtain ⟨h1, _, h3⟩ := hp
 refine ⟨?_, ?_⟩
 ·have e1 : d.extract 0 ts.toArray.size = d := by rw [← h1]; simp
  have e2 : ts.toArray.extract 0 ts.toArray.size = ts.toArray := by simp
  rw [e1, e2] at h3
  simpa using h3
 ·refine List.pairwise_iff_getElem.2 fun i j hi hj hij => ?_
  have hj' : j < d.size := by simpa using hj
  have q := hs i j (Nat.zero_le _) hij (by rw [← h1]; exact hj')
  rw [ltT, getElem!_pos d j hj', getElem!_pos d i (by omega)] at q
  simp at q
  simpa using q
theorem sortTurns_any (ts : List Sx.Tn) (v : Value) (B : Nat) (w : World) (h : w.ownsRow B 120 4 v ts.length (ts.flatMap turnC)) (hl : ts.length ≤ 10000) :
  Calls Tryz.prog 173 #[v, .func (.func 125) #[] #[]] w fun e w' => e = .returned (.tuple #[]) ∧ (∃ o, Ordered ts o ∧ RdTurns w' v o) ∧ ∃ r, w.grownBy w' r ∧ ∀ k, r = some k → B ≤ k := by
 rcases h.2 with ⟨rfl, h0⟩ | ⟨g, cap, cur, rfl, hB, hg, h1, h2, h3, h4⟩
 ·have e : ts = [] := List.length_eq_zero_iff.1 h0
  subst e
  have hcon := AnyF.slices_SortFunc_none Tryz.laysSortTurn none 0 (.func (.func 125) #[] #[]) w
  change Calls Tryz.prog 173 _ _ _ at hcon
  refine hcon.mono ?_
  rintro e w' ⟨rfl, rfl⟩
  exact ⟨rfl, ⟨[], ordered_nil, rd_nil⟩, none, ⟨rfl, rfl, rfl, Nat.le_refl _, fun _ _ _ => rfl⟩, fun k e => by cases e⟩
 ·have hgl : g < w.heap.size := (Array.getElem?_eq_some_iff.1 hg).1
  have hH := holdsT hg h4
  have eg : ∀ args w, (callFunc 125 args).run Tryz.prog w = .ok (.enter 125 args) w := enters_of Tryz.func125 (by kernel_rfl) rfl
  have hcon := AnyQ.slices_SortFunc Tryz.laysSortTurn 4 Tryz.isAgg120 Tryz.sizeOf120 turnC (fun _ => rfl) turn_one cmpT swoT 125 #[] g 0 cap ts.toArray w eg (cmpLaysT g 0 _ w) hH hgl (by simp; omega)
  change Calls Tryz.prog 173 _ _ _ at hcon
  refine hcon.mono ?_
  rintro e w' ⟨rfl, d', n, os, hp, hs, rfl⟩
  have hH' := holdsK_sortWorldK_c turnC 4 w g 0 ts.toArray d' n os hH hgl hp.1
  refine ⟨rfl, ⟨d'.toList, ordered_of hp hs, rd_holdsT hH' (Nat.lt_of_lt_of_le hgl (size_sortWorldK_c turnC 4 w g 0 n d' os)) (by rw [hp.1]; simp)⟩, some g, grownBy_sortedT d', fun k e => by cases e; exact hB⟩
theorem inOrder_any (Bl Bn : Nat) (rs : List Sx.Rl) (name : Tx.Bs) (ra : Option Addr) (rcap : Nat) (w : World) (h : RdRules w (.slice ra rs.length rcap) rs) (hok : ∀ r ∈ rs, Sx.RuleOk r) (hrs : rs.length ≤ 40)
  (cl : w.cell? ⟨Bl, 0, none⟩ = some (.slice ra rs.length rcap)) (cn : w.cell? ⟨Bn, 0, none⟩ = some (strV name)) (hBl : Bl < w.heap.size) (hBn : Bn < w.heap.size) :
  Calls Tryz.prog 124 #[.func (.func 127) #[] #[.pointer (some ⟨Bl, 0, none⟩), .pointer (some ⟨Bn, 0, none⟩)], .func (.func 125) #[] #[]] w
   fun e w' => ∃ v o, e = .returned v ∧ Ordered (Sx.turnsOf rs name) o ∧ RdTurns w' v o ∧ Below w.heap.size w w' := by
 have HF := hid (turns_few (name := name) hok hrs)
 have C := hid (collect_any Bl Bn rs name ra rcap w h hok hrs cl cn hBl hBn HF.out)
 clear h hok cl cn
 go_enter Tryz.func124, Tryz.ntmps124
 go_wp2_with fail
 refine C.out.mono ?_
 rintro e w1 ⟨v, rfl, hown, hb⟩
 have C2 := hid (sortTurns_any _ v w.heap.size w1 hown HF.out)
 have B1 := hid hb
 obtain ⟨sa, sc, rfl⟩ := owns_shape0 hown
 clear hown hb
 go_wp2_with fail
 refine C2.out.mono ?_
 rintro e w2 ⟨rfl, ⟨o, ho, hrd⟩, r, hg, hr⟩
 have B2 := B1.out.grown hg B1.out.size hr
 have HO := hid ho
 have HRD := hid hrd
 have HB2 := hid B2
 clear ho hrd hg hr B2
 go_wp2
 go_ret
 exact ⟨_, o, rfl, HO.out, HRD.out, HB2.out⟩
theorem pInOrder_any (Bl Bn : Nat) (rs : List Sx.Rl) (name : Tx.Bs) (ra : Option Addr) (rcap : Nat) (w : World) (h : RdRules w (.slice ra rs.length rcap) rs) (hok : ∀ r ∈ rs, Sx.RuleOk r) (hrs : rs.length ≤ 40)
  (cl : w.cell? ⟨Bl, 0, none⟩ = some (.slice ra rs.length rcap)) (cn : w.cell? ⟨Bn, 0, none⟩ = some (strV name)) (hBl : Bl < w.heap.size) (hBn : Bn < w.heap.size) :
  Calls Tryz.prog 65 #[.func (.func 127) #[] #[.pointer (some ⟨Bl, 0, none⟩), .pointer (some ⟨Bn, 0, none⟩)]] w
   fun e w' => ∃ v o, e = .returned v ∧ Ordered (Sx.turnsOf rs name) o ∧ RdTurns w' v o ∧ Below w.heap.size w w' := by
 have C := hid (inOrder_any Bl Bn rs name ra rcap w h hok hrs cl cn hBl hBn)
 clear h hok cl cn
 go_enter Tryz.func65, Tryz.ntmps65
 go_wp2_with fail
 refine C.out.mono ?_
 rintro e w1 ⟨v, o, rfl, ho, hrd, hb⟩
 obtain ⟨sa, sc, rfl⟩ := rd_shape hrd
 have HO := hid ho
 have HRD := hid hrd
 have HB := hid hb
 clear ho hrd hb
 go_wp2
 go_ret
 exact ⟨_, o, rfl, HO.out, HRD.out, HB.out⟩
end Go.Proofs.YtkhlkohlccndgaaGreat
namespace Go.Proofs.YtkhlkohlccndgaaGreat.Sx

theorem src_ok {rs : List Rl} (h : srcE ⟨rs, [], []⟩ = 0) : rs.length ≤ 40 ∧ ∀ r ∈ rs, RuleOk r := by
 by_cases h40 : rs.length ≤ 40
 ·refine ⟨h40, fun r hr => rule_ok (firstE_zero ruleE ?_ r hr)⟩
  have hm : manyB (⟨rs, [], []⟩ : Sr) = false := by simp [manyB]; omega
  rw [src_few hm] at h
  unfold orE at h
  split at h
  ·assumption
  ·rename_i q; simpa using q
 ·rw [src_many (by simp [manyB]; omega)] at h
  omega
structure TimesOk (rs : List Rl) (name : Tx.Bs) (shift : Int) : Prop where
 src : srcE ⟨rs, [], []⟩ = 0
 s1 : -64800 ≤ shift
 s2 : shift ≤ 64800
 some : turnsOf rs name ≠ []
 apart_ : apart (isort (turnsOf rs name)) = true
 few : (turnsOf rs name).length ≤ 1000
 is : times rs name shift = timesFrom shift 0 (isort (turnsOf rs name))
theorem times_ok {rs : List Rl} {name : Tx.Bs} {shift : Int} (h : timesE rs name shift = 0) : TimesOk rs name shift := by
 have hi : times rs name shift = timesFrom shift 0 (isort (turnsOf rs name)) := by unfold times; rw [if_pos h]
 unfold timesE at h
 split at h
 ·rename_i q; exact absurd h q
 rename_i q1
 split at h
 ·omega
 rename_i q2
 split at h
 ·omega
 rename_i q3
 split at h
 ·omega
 rename_i q4
 split at h
 ·omega
 rename_i q5
 simp [inB] at q2
 exact ⟨by simpa using q1, by omega, by omega, by simpa using q3, by simpa using q4, by omega, hi⟩
theorem times_no {rs : List Rl} {name : Tx.Bs} {shift : Int} (h : timesE rs name shift ≠ 0) : times rs name shift = [] := by unfold times; rw [if_neg h]
theorem turns_bd {rs : List Rl} {name : Tx.Bs} (h : ∀ r ∈ rs, RuleOk r) : ∀ t ∈ turnsOf rs name, -1000000000000 ≤ t.stands ∧ t.stands ≤ 1000000000000 := by
 intro t ht
 simp only [turnsOf, List.mem_flatMap, List.mem_filter, turnsR, List.mem_map, List.mem_range] at ht
 obtain ⟨r, ⟨hr, _⟩, k, hk, rfl⟩ := ht
 have ok := h r hr
 have h1 := ok.frm
 have h2 := ok.le
 have h3 := ok.to
 have h4 := ok.at_
 simp only [many] at hk
 have b := (on_year ok (y := r.frm + (k : Int)) (by omega) (by omega)).2
 simp only [turnIn]
 omega
theorem rise_at {rs : List Rl} {name : Tx.Bs} {shift : Int} {i : Nat} {x y : Tm} (h : timesE rs name shift = 0) (hx : (times rs name shift)[i]? = some x) (hy : (times rs name shift)[i + 1]? = some y) : x.at_ < y.at_ := by
 have k := times_ok h
 have ok := (src_ok k.src).2
 rw [k.is] at hx hy
 exact times_rise k.s1 k.s2 (isort_save (turns_save fun r hr => (ok r hr).save)) k.apart_ hx hy
end Go.Proofs.YtkhlkohlccndgaaGreat.Sx
namespace Go.Proofs.YtkhlkohlccndgaaGreat
open Go.RowKit Go.Shelf

namespace Sx
def timeS (shift : Int) (x : Tn × Tn) : Tm := timeOf shift x.1.save x.2
theorem times_steps (shift : Int) : ∀ (l : List Tn) (p : Tn), timesFrom shift p.save l = (stepsFrom p l).map (timeS shift)
 | [], _ => rfl
 | t :: r, p => by simp only [timesFrom, stepsFrom, List.map_cons, times_steps shift r t]; rfl
end Sx
theorem turnsE_is {rs : List Sx.Rl} {name : Tx.Bs} {shift : Int} {o : List Sx.Tn} (hs : Sx.srcE ⟨rs, [], []⟩ = 0) (h1 : -64800 ≤ shift) (h2 : shift ≤ 64800) (ho : Ordered (Sx.turnsOf rs name) o) :
  turnsE o = Sx.timesE rs name shift ∧ (turnsE o = 0 → Sx.times rs name shift = (Sx.stepsOf o).map (Sx.timeS shift)) := by
 have ok := (Sx.src_ok hs).2
 obtain ⟨hp, hso⟩ := ho
 have hlen := hp.length_eq
 obtain ⟨a1, a2⟩ := Sx.ordered hp hso
 have hbd : ∀ t ∈ o, -1000000000000 ≤ t.stands := fun t ht => (Sx.turns_bd ok t (hp.mem_iff.1 ht)).1
 have hcl := Sx.close_apart hbd
 have hB : Sx.inB shift (-64800) 64800 = true := by simp [Sx.inB]; omega
 have key : turnsE o = Sx.timesE rs name shift := by
  have e2 : Sx.timesE rs name shift = if (Sx.turnsOf rs name).isEmpty = true then 5 else if Sx.apart (Sx.isort (Sx.turnsOf rs name)) = false then 4 else if 1000 < (Sx.turnsOf rs name).length then 2 else 0 := by
   unfold Sx.timesE
   rw [if_neg (show ¬ Sx.srcE ⟨rs, [], []⟩ ≠ 0 by simp [hs]), if_neg (show ¬ Sx.inB shift (-64800) 64800 = false by simp [hB])]
  have he : o.isEmpty = (Sx.turnsOf rs name).isEmpty := by
   cases q : (Sx.turnsOf rs name) <;> cases q' : o <;> simp [q, q'] at hlen ⊢
  rw [e2]
  unfold turnsE
  rw [hcl, a1, hlen, he]
  cases Sx.apart (Sx.isort (Sx.turnsOf rs name)) <;> simp
 refine ⟨key, fun h0 => ?_⟩
 have h0' := key.symm.trans h0
 have k := Sx.times_ok h0'
 rw [k.is]
 have e : o = Sx.isort (Sx.turnsOf rs name) := a2 (by rw [a1]; exact k.apart_)
 rw [← e]
 exact Sx.times_steps shift o Sx.ago
end Go.Proofs.YtkhlkohlccndgaaGreat
namespace Go.Proofs.YtkhlkohlccndgaaGreat
open Go.RowKit Go.Shelf
attribute [local go_sem] Oper.semAt_some

def OwnTimes (w : World) (B : Nat) (v : Value) (l : List Sx.Tm) : Prop := w.ownsRow B 72 3 v l.length (l.flatMap timeC)
def TimesEnd (rs : List Sx.Rl) (name : Tx.Bs) (shift : Int) (w : World) (e : Ending) (w' : World) : Prop :=
 ∃ v, e = .returned (.tuple #[v, .int .i64 (Sx.timesE rs name shift)]) ∧ OwnTimes w' w.heap.size v (Sx.times rs name shift) ∧ Below w.heap.size w w'
theorem times_none {rs : List Sx.Rl} {name : Tx.Bs} {shift E : Int} {w w' : World} (hE : Sx.timesE rs name shift = E) (h : E ≠ 0) (hb : Below w.heap.size w w') : TimesEnd rs name shift w (.returned (.tuple #[.slice none 0 0, .int .i64 E])) w' := by
 refine ⟨_, by rw [hE], ?_, hb⟩
 unfold OwnTimes
 rw [Sx.times_no (by rw [hE]; exact h)]
 exact World.ownsRow_nil _ _ _ _
theorem Tryz.infoTime : (Tryz.prog.info? 72).map (fun i => (i.zero, i.size, i.bytes)) = some (some (.agg #[.int .i64 0, .int .i64 0, .string ⟨#[]⟩]), 3, 32) := by kernel_rfl
theorem time_one (x : Sx.Tm) : ∀ u ∈ timeC x, u.oneCell' = true := by
 intro u hu; simp only [timeC, List.mem_cons, List.not_mem_nil, or_false] at hu; rcases hu with rfl | rfl | rfl <;> rfl
theorem time_cells (w : World) (x : Sx.Tm) {e : TypeId} : ∀ (j : Nat) (u : Value), (timeC x)[j]? = some u → (w.alloc (.cells #[.int .i64 x.at_, .int .i64 x.save, strV x.letter] e)).cell? ((⟨w.heap.size, 0, none⟩ : Addr).add j) = some u := new_cells w (timeC x)

theorem times_wrong (rs : List Sx.Rl) (rv : Value) (name : Tx.Bs) (shift : Int) (w : World) (h : RdRules w rv rs) (hs : ∀ r ∈ rs, r.name.length ≤ maxLen ∧ r.letter.length ≤ maxLen) (hE : Sx.srcE ⟨rs, [], []⟩ ≠ 0) :
  Calls Tryz.prog 28 #[rv, strV name, .int .i64 shift] w (TimesEnd rs name shift w) := by
 obtain ⟨ra, rcap, rfl⟩ := rd_shape h
 have BV := hid ((Below.refl w.heap.size w).alloc (Nat.le_refl _) (.cells #[.int .i64 shift] 3))
 have C := hid (sCheckRules_any rs _ _ (rd_below h BV.out) hs)
 have HT : Hid (Sx.timesE rs name shift = Sx.srcE ⟨rs, [], []⟩) := by show _ = _; unfold Sx.timesE; rw [if_pos hE]
 obtain ⟨E, hEE⟩ : ∃ E, Sx.srcE ⟨rs, [], []⟩ = E := ⟨_, rfl⟩
 rw [hEE] at hE C HT
 have hne : (E != 0) = true := by simp [hE]
 have HE := hid hE
 clear h hs hE hEE
 go_enter Tryz.func28, Tryz.ntmps28
 go_wp2_with fail
 refine C.out.mono ?_
 rintro e w1 ⟨rfl, hb⟩
 have B1 : Hid (Below w.heap.size w w1) := BV.out.trans (hb.mono BV.out.size)
 clear hb
 go_wp2
 go_ret2
 exact times_none HT.out HE.out B1.out
theorem times_range (rs : List Sx.Rl) (rv : Value) (name : Tx.Bs) (shift : Int) (w : World) (h : RdRules w rv rs) (hs : ∀ r ∈ rs, r.name.length ≤ maxLen ∧ r.letter.length ≤ maxLen) (hE : Sx.srcE ⟨rs, [], []⟩ = 0) (hsh : ¬ (-64800 ≤ shift ∧ shift ≤ 64800)) :
  Calls Tryz.prog 28 #[rv, strV name, .int .i64 shift] w (TimesEnd rs name shift w) := by
 obtain ⟨ra, rcap, rfl⟩ := rd_shape h
 have BV := hid ((Below.refl w.heap.size w).alloc (Nat.le_refl _) (.cells #[.int .i64 shift] 3))
 have SV := hid (ca_new w [.int .i64 shift] 3)
 have C := hid (sCheckRules_any rs _ _ (rd_below h BV.out) hs)
 have HT : Hid (Sx.timesE rs name shift = 3) := by show _ = _; unfold Sx.timesE; rw [if_neg (by simp [hE]), if_pos (by simp [Sx.inB]; omega)]
 rw [hE] at C
 have HS := hid hsh
 clear h hs hE hsh
 by_cases h1 : shift < -64800
 all_goals
  go_enter Tryz.func28, Tryz.ntmps28
  go_wp2_with fail
  refine C.out.mono ?_
  rintro e w1 ⟨rfl, hb⟩
  have B1 : Hid (Below w.heap.size w w1) := BV.out.trans (hb.mono BV.out.size)
  obtain ⟨s0, s1⟩ := ca_at (ca_below SV.out hb) 0 rfl
  have ss := (ca_below SV.out hb).1
  have h2 : ¬ shift < -64800 → 64800 < shift := fun q => by have := HS.out; omega
  clear hb
  try (have h2 := h2 h1)
  go_wp2
  go_ret2
  exact times_none HT.out (by decide) B1.out
end Go.Proofs.YtkhlkohlccndgaaGreat
namespace Go.Proofs.YtkhlkohlccndgaaGreat
open Go.RowKit Go.Shelf
attribute [local go_sem] Oper.semAt_some

theorem times_turns (rs : List Sx.Rl) (rv : Value) (name : Tx.Bs) (shift : Int) (w : World) (h : RdRules w rv rs) (hs : ∀ r ∈ rs, r.name.length ≤ maxLen ∧ r.letter.length ≤ maxLen) (hE : Sx.srcE ⟨rs, [], []⟩ = 0) (s1 : -64800 ≤ shift) (s2 : shift ≤ 64800) (hT : Sx.timesE rs name shift ≠ 0) :
  Calls Tryz.prog 28 #[rv, strV name, .int .i64 shift] w (TimesEnd rs name shift w) := by
 obtain ⟨ra, rcap, rfl⟩ := rd_shape h
 have BV := hid ((Below.refl w.heap.size w).alloc (Nat.le_refl _) (.cells #[.int .i64 shift] 3))
 have SV := hid (ca_new w [.int .i64 shift] 3)
 have C := hid (sCheckRules_any rs _ _ (rd_below h BV.out) hs)
 have HOK := hid (Sx.src_ok hE)
 rw [hE] at C
 have H := hid h
 have HT := hid hT
 have HE := hid hE
 have n1 : ¬ shift < -64800 := by omega
 have n2 : ¬ 64800 < shift := by omega
 have HS : Hid (-64800 ≤ shift ∧ shift ≤ 64800) := ⟨s1, s2⟩
 clear h hs hE hT s1 s2
 go_enter Tryz.func28, Tryz.ntmps28
 go_wp2_with fail
 refine C.out.mono ?_
 rintro e w1 ⟨rfl, hb⟩
 have B1 : Hid (Below w.heap.size w w1) := BV.out.trans (hb.mono BV.out.size)
 have X1 := hid (ca_below SV.out hb)
 obtain ⟨t0, t1⟩ := ca_at X1.out 0 rfl
 have ss := X1.out.1
 clear hb BV SV C
 go_wp2_with fail
 refine (turns_any _ _ _ ra rs.length rcap rfl).mono ?_
 rintro e w2 ⟨rfl, hw2⟩
 have q1 : w2.cell? ⟨w1.heap.size, 0, none⟩ = some (.slice ra rs.length rcap) := by
  have := ca_at (ca_alloc (ca_new w1 [.slice ra rs.length rcap] 22) (.cells #[strV name] 9)) 0 rfl
  rw [hw2]; exact this.1
 have q2 : w2.cell? ⟨w1.heap.size + 1, 0, none⟩ = some (strV name) := by
  have := ca_at (ca_new (w1.alloc (.cells #[.slice ra rs.length rcap] 22)) [strV name] 9) 0 rfl
  rw [World.size_alloc] at this
  rw [hw2]; exact this.1
 have z2 : w2.heap.size = w1.heap.size + 2 := by rw [hw2]; simp
 have B2 : Hid (Below w.heap.size w w2) := by
  show Below _ _ _
  rw [hw2]; exact (B1.out.alloc B1.out.size _).alloc (by have := B1.out.size; simp; omega) _
 have C2 := hid (pInOrder_any w1.heap.size (w1.heap.size + 1) rs name ra rcap w2 (rd_below H.out B2.out) HOK.out.2 HOK.out.1 q1 q2 (by omega) (by omega))
 have S2 : Hid (w.heap.size < w2.heap.size) := by show _ < _; have := ss; omega
 clear hw2 q1 q2 z2 t0 t1 ss X1
 go_wp2_with fail
 refine C2.out.mono ?_
 rintro e w3 ⟨v, o, rfl, hord, hrd, hb⟩
 have B3 : Hid (Below w.heap.size w w3) := B2.out.trans (hb.mono B2.out.size)
 obtain ⟨K, hK⟩ := Nat.exists_eq_add_of_le (Nat.zero_le 0)
 have KT := hid (turnsE_is HE.out HS.out.1 HS.out.2 hord)
 have C3 := hid (checkTurns_any o v w3 hrd (by have := hord.1.length_eq; have := turns_few (name := name) HOK.out.2 HOK.out.1; omega) (fun t ht => Sx.turns_bd HOK.out.2 t (hord.1.mem_iff.1 ht)))
 have KE : Hid (Sx.timesE rs name shift = turnsE o) := KT.out.1.symm
 obtain ⟨E, hEE⟩ : ∃ E, turnsE o = E := ⟨_, rfl⟩
 rw [hEE] at C3 KE
 have hne0 : E ≠ 0 := by rw [← KE.out]; exact HT.out
 have hne : (E != 0) = true := by simp [hne0]
 have HN := hid hne0
 obtain ⟨oa, oc, rfl⟩ := rd_shape hrd
 clear hEE KT hord hrd hb C2 hK hne0
 go_wp2_with fail
 refine C3.out.mono ?_
 rintro e w4 ⟨rfl, hb⟩
 have B4 : Hid (Below w.heap.size w w4) := B3.out.trans (hb.mono B3.out.size)
 clear hb
 go_wp2
 go_ret2
 exact times_none KE.out HN.out B4.out
end Go.Proofs.YtkhlkohlccndgaaGreat
namespace Go.Proofs.YtkhlkohlccndgaaGreat
open Go.RowKit Go.Shelf
attribute [local go_sem] Oper.semAt_some

theorem ownC_row {β : Type} {B n0 Bs g L size : Nat} {t e : TypeId} (k : β → Nat) (xs : β → List Value) (hBs : Bs < B) (hg : g < B) :
  OwnC B (fun (s : β) W => Boxed W Bs t (.slice (some ⟨g, 0, none⟩) (k s) L) ∧ W.ownsRow n0 e size (.slice (some ⟨g, 0, none⟩) (k s) L) (k s) (xs s)) :=
 fun s W W' row hs hgr hr => ⟨hs.1.kept hgr (fun q => by have := (hr Bs q.symm).1; omega), hs.2.kept hgr (.inr fun q => by have := (hr g q.symm).1; omega)⟩
def HeldB (N Bx : Nat) (shift : Int) (p t : Sx.Tn) (w : World) : Prop := w.cell? ⟨N, 0, none⟩ = some (.int .i64 shift) ∧ w.cell? ⟨Bx, 0, none⟩ = some (.int .i64 p.stands) ∧ w.cell? ⟨Bx, 1, none⟩ = some (.int .i64 p.clock) ∧ w.cell? ⟨Bx, 2, none⟩ = some (.int .i64 p.save) ∧ w.cell? ⟨Bx, 3, none⟩ = some (strV p.letter) ∧ w.cell? ⟨Bx, 4, none⟩ = some (.int .i64 t.stands) ∧ w.cell? ⟨Bx, 5, none⟩ = some (.int .i64 t.clock) ∧ w.cell? ⟨Bx, 6, none⟩ = some (.int .i64 t.save) ∧ w.cell? ⟨Bx, 7, none⟩ = some (strV t.letter)
theorem held_below {N Bx : Nat} {shift : Int} {p t : Sx.Tn} {A B : World} (h : HeldB N Bx shift p t A) (hb : Below A.heap.size A B) (hN : N < A.heap.size) (hx : Bx < A.heap.size) : HeldB N Bx shift p t B := by
 obtain ⟨a, b0, b1, b2, b3, b4, b5, b6, b7⟩ := h
 have e := fun k => hb.cell (p := ⟨Bx, k, none⟩) hx
 exact ⟨(hb.cell (p := ⟨N, 0, none⟩) hN).trans a, (e 0).trans b0, (e 1).trans b1, (e 2).trans b2, (e 3).trans b3, (e 4).trans b4, (e 5).trans b5, (e 6).trans b6, (e 7).trans b7⟩
theorem held_grown {N Bx g : Nat} {shift : Int} {p t : Sx.Tn} {A B : World} (h : HeldB N Bx shift p t A) (hb : A.grownBy B (some g)) (hN : N < A.heap.size) (hx : Bx < A.heap.size) (n1 : N ≠ g) (n2 : Bx ≠ g) : HeldB N Bx shift p t B := by
 obtain ⟨a, b0, b1, b2, b3, b4, b5, b6, b7⟩ := h
 have e : ∀ k, B.cell? ⟨Bx, k, none⟩ = A.cell? ⟨Bx, k, none⟩ := fun k => World.cell?_of_block (w := A) (hb.block _ hx (by intro q; exact n2 (by injection q)))
 have e' : B.cell? ⟨N, 0, none⟩ = A.cell? ⟨N, 0, none⟩ := World.cell?_of_block (w := A) (hb.block _ hN (by intro q; exact n1 (by injection q)))
 exact ⟨e'.trans a, (e 0).trans b0, (e 1).trans b1, (e 2).trans b2, (e 3).trans b3, (e 4).trans b4, (e 5).trans b5, (e 6).trans b6, (e 7).trans b7⟩
theorem held_set {N Bx g : Nat} {shift : Int} {p t : Sx.Tn} {A : World} {v : Value} (h : HeldB N Bx shift p t A) (n1 : N ≠ g) (n2 : Bx ≠ g) : HeldB N Bx shift p t (A.setCell ⟨g, 0, none⟩ v) := by
 obtain ⟨a, b0, b1, b2, b3, b4, b5, b6, b7⟩ := h
 have e : ∀ k, (A.setCell ⟨g, 0, none⟩ v).cell? ⟨Bx, k, none⟩ = A.cell? ⟨Bx, k, none⟩ := fun k => World.cell?_of_block (w := A) (Below.heap_setCell _ _ _ _ n2)
 have e' : (A.setCell ⟨g, 0, none⟩ v).cell? ⟨N, 0, none⟩ = A.cell? ⟨N, 0, none⟩ := World.cell?_of_block (w := A) (Below.heap_setCell _ _ _ _ n1)
 exact ⟨e'.trans a, (e 0).trans b0, (e 1).trans b1, (e 2).trans b2, (e 3).trans b3, (e 4).trans b4, (e 5).trans b5, (e 6).trans b6, (e 7).trans b7⟩
theorem app_end {G Bs N L k : Nat} {tT T : TypeId} {w4 W w7 w9 : World} {tmp o : Obj} {xs news : List Value} (ib : Boxed W Bs tT (.slice (some ⟨G, 0, none⟩) k L)) (ir : W.ownsRow G T 3 (.slice (some ⟨G, 0, none⟩) k L) k xs)
  (iN : W.heap[N]? = some o) (iB : Below G w4 W) (BB : Below W.heap.size W w7) (hGB : G < Bs) (hNG : N < G) (hte : tT ≠ T)
  (hown9 : w9.ownsRow G T 3 (.slice (some ⟨G, 0, none⟩) (k + 1) L) (k + 1) (xs ++ news)) (hgrow9 : (w7.alloc tmp).grownBy w9 (some G)) :
  Boxed w9 Bs tT (.slice (some ⟨G, 0, none⟩) k L) ∧ KeepsOthers W (w9.setCell ⟨Bs, 0, none⟩ (.slice (some ⟨G, 0, none⟩) (k + 1) L)) ∧ Kp G T Bs W (w9.setCell ⟨Bs, 0, none⟩ (.slice (some ⟨G, 0, none⟩) (k + 1) L)) ∧
  Boxed (w9.setCell ⟨Bs, 0, none⟩ (.slice (some ⟨G, 0, none⟩) (k + 1) L)) Bs tT (.slice (some ⟨G, 0, none⟩) (k + 1) L) ∧ (w9.setCell ⟨Bs, 0, none⟩ (.slice (some ⟨G, 0, none⟩) (k + 1) L)).ownsRow G T 3 (.slice (some ⟨G, 0, none⟩) (k + 1) L) (k + 1) (xs ++ news) ∧
  (w9.setCell ⟨Bs, 0, none⟩ (.slice (some ⟨G, 0, none⟩) (k + 1) L)).heap[N]? = some o ∧ Below G w4 (w9.setCell ⟨Bs, 0, none⟩ (.slice (some ⟨G, 0, none⟩) (k + 1) L)) := by
 have lb := ib.lt
 have ib7 : Boxed w7 Bs tT (.slice (some ⟨G, 0, none⟩) k L) := (BB.block _ lb).trans ib
 have r7 := owns_below ir BB
 obtain ⟨q1, q2, q3, q4, q5⟩ := ib7.appended hte r7 (by have := BB.size; omega) (Nat.le_of_lt hGB) hown9 hgrow9
 have lN := (Array.getElem?_eq_some_iff.1 iN).1
 have n7 := (BB.block _ lN).trans iN
 have bw : Below G W (w9.setCell ⟨Bs, 0, none⟩ (.slice (some ⟨G, 0, none⟩) (k + 1) L)) := (BB.mono (by omega)).trans q5
 exact ⟨q1, (keeps_below BB).trans q4, ⟨bw, keepT_t (kp_grow BB (Nat.le_refl _)).2 (keepT_app r7 hgrow9)⟩, q2, q3, (q5.block _ hNG).trans n7, iB.trans bw⟩
theorem times_good (rs : List Sx.Rl) (rv : Value) (name : Tx.Bs) (shift : Int) (w : World) (h : RdRules w rv rs) (hs : ∀ r ∈ rs, r.name.length ≤ maxLen ∧ r.letter.length ≤ maxLen) (hT : Sx.timesE rs name shift = 0) :
  Calls Tryz.prog 28 #[rv, strV name, .int .i64 shift] w (TimesEnd rs name shift w) := by
 obtain ⟨ra, rcap, rfl⟩ := rd_shape h
 have HO := hid (Sx.times_ok hT)
 have BV := hid ((Below.refl w.heap.size w).alloc (Nat.le_refl _) (.cells #[.int .i64 shift] 3))
 have SV := hid (World.alloc_heap_new w (.cells #[.int .i64 shift] 3))
 have C := hid (sCheckRules_any rs _ _ (rd_below h BV.out) hs)
 have HOK := hid (Sx.src_ok HO.out.src)
 have HE := hid HO.out.src
 rw [HE.out] at C
 have H := hid h
 have n1 : ¬ shift < -64800 := by have := HO.out.s1; omega
 have n2 : ¬ 64800 < shift := by have := HO.out.s2; omega
 have HT := hid hT
 clear h hs hT
 refine (callsIn_wide (n := 4)).1 ?_
 refine callsIn_of_wp_marks Tryz.func28 rfl trivial ?_ rfl
 simp only [Tryz.ntmps28, List.size_toArray, List.length_cons, List.length_nil, Nat.reduceAdd, Nat.reduceSub, Array.replicate_succ, Array.replicate_zero, List.push_toArray, List.append_toArray, List.nil_append, List.cons_append]
 gi_wp2_with fail
 refine ⟨trivial, (callsIn_wide.2 C.out).mono ?_⟩
 rintro e w1 ⟨rfl, hb⟩
 have S1 := (hb.block _ (Array.getElem?_eq_some_iff.1 SV.out).1).trans SV.out
 obtain ⟨t0, t1⟩ := ca_at (ca_heap2 (vs := [.int .i64 shift]) S1) 0 rfl
 have B1 : Hid (Below w.heap.size w w1) := BV.out.trans (hb.mono BV.out.size)
 have ss := (Array.getElem?_eq_some_iff.1 S1).1
 have HS1 := hid S1
 have L1 : Hid (w.heap.size < w1.heap.size) := ss
 clear hb S1 C SV BV
 gi_wp2_with fail
 refine ⟨trivial, (callsIn_wide.2 (turns_any _ _ _ ra rs.length rcap rfl)).mono ?_⟩
 rintro e w2 ⟨rfl, hw2⟩
 have q1 : w2.cell? ⟨w1.heap.size, 0, none⟩ = some (.slice ra rs.length rcap) := by
  have := ca_at (ca_alloc (ca_new w1 [.slice ra rs.length rcap] 22) (.cells #[strV name] 9)) 0 rfl
  rw [hw2]; exact this.1
 have q2 : w2.cell? ⟨w1.heap.size + 1, 0, none⟩ = some (strV name) := by
  have := ca_at (ca_new (w1.alloc (.cells #[.slice ra rs.length rcap] 22)) [strV name] 9) 0 rfl
  rw [World.size_alloc] at this
  rw [hw2]; exact this.1
 have z2 : w2.heap.size = w1.heap.size + 2 := by rw [hw2]; simp
 have B12 : Below w1.heap.size w1 w2 := by
  rw [hw2]; exact ((Below.refl _ w1).alloc (Nat.le_refl _) _).alloc (by simp) _
 have B2 : Hid (Below w.heap.size w w2) := B1.out.trans (B12.mono B1.out.size)
 have S2 := hid ((B12.block _ L1.out).trans HS1.out)
 have L2 : Hid (w.heap.size < w2.heap.size) := Nat.lt_of_lt_of_le L1.out B12.size
 have C2 := hid (pInOrder_any w1.heap.size (w1.heap.size + 1) rs name ra rcap w2 (rd_below H.out B2.out) HOK.out.2 HOK.out.1 q1 q2 (by omega) (by omega))
 clear hw2 q1 q2 z2 t0 t1 ss HS1 B12 B1 L1
 gi_wp2_with fail
 refine ⟨trivial, (callsIn_wide.2 C2.out).mono ?_⟩
 rintro e w3 ⟨v, o, rfl, hord, hrd, hb⟩
 have B3 : Hid (Below w.heap.size w w3) := B2.out.trans (hb.mono B2.out.size)
 have S3 := hid ((hb.block _ L2.out).trans S2.out)
 have L3 : Hid (w.heap.size < w3.heap.size) := Nat.lt_of_lt_of_le L2.out hb.size
 have KT := hid (turnsE_is HE.out HO.out.s1 HO.out.s2 hord)
 have HB := hid (fun t ht => Sx.turns_bd HOK.out.2 t (hord.1.mem_iff.1 ht))
 have HL : Hid (o.length ≤ 10000) := by show _ ≤ _; have := hord.1.length_eq; have := turns_few (name := name) HOK.out.2 HOK.out.1; omega
 have HSV : Hid (∀ t ∈ o, 0 ≤ t.save ∧ t.save ≤ 10800) := fun t ht => Sx.turns_save (fun r hr => (HOK.out.2 r hr).save) t (hord.1.mem_iff.1 ht)
 have C3 := hid (checkTurns_any o v w3 hrd HL.out HB.out)
 have hE0 : turnsE o = 0 := KT.out.1.trans HT.out
 have KX : Hid (Sx.times rs name shift = (Sx.stepsOf o).map (Sx.timeS shift)) := KT.out.2 hE0
 rw [hE0] at C3
 obtain ⟨oa, oc, rfl⟩ := rd_shape hrd
 have RD3 := hid hrd
 clear hE0 KT hord hrd hb C2 S2 L2 B2
 gi_wp2_with fail
 refine ⟨trivial, (callsIn_wide.2 C3.out).mono ?_⟩
 rintro e w4 ⟨rfl, hb⟩
 have B4 : Hid (Below w.heap.size w w4) := B3.out.trans (hb.mono B3.out.size)
 have S4 := hid ((hb.block _ L3.out).trans S3.out)
 have L4 : Hid (w.heap.size < w4.heap.size) := Nat.lt_of_lt_of_le L3.out hb.size
 have RD4 := hid (rd_below RD3.out hb)
 clear hb C3 RD3 S3 L3 B3
 obtain ⟨i0, hi, hz0, hz1, hz2⟩ := info_parts Tryz.infoTime
 have hl := HL.out
 gi_wp2_with (gi_at_make; refine wpListIn_make_own _ rfl _ _ 68 rfl w4.heap.size 72 i0 (.agg #[.int .i64 0, .int .i64 0, .string ⟨#[]⟩]) 3 Tryz.underlying68 hi hz0 hz1 _ _ _ o.length rfl rfl rfl (by rw [hz2]; omega) (by unfold maxLen; omega) (Nat.le_refl _) ?_; intro w5 hown5 hgrow5)
 refine ⟨trivial, (callsIn_wide.2 (steps_any oa o.length oc _)).mono ?_⟩
 rintro e w6 ⟨rfl, rfl⟩
 obtain ⟨G, hG⟩ : ∃ G, w4.heap.size = G := ⟨_, rfl⟩
 obtain ⟨Bs, hBs⟩ : ∃ Bs, w5.heap.size = Bs := ⟨_, rfl⟩
 obtain ⟨N, hN⟩ : ∃ N, w.heap.size = N := ⟨_, rfl⟩
 obtain ⟨Nt, hNt⟩ : ∃ Nt, w1.heap.size = Nt := ⟨_, rfl⟩
 have hGB : G < Bs := by
  rcases hown5.2 with ⟨h0, _⟩ | ⟨g, cap, cur, h0, _, hg, _⟩
  ·cases h0
  ·simp only [Value.slice.injEq, Option.some.injEq, Addr.mk.injEq] at h0
   rw [← h0.1.1] at hg
   have := (Array.getElem?_eq_some_iff.1 hg).1
   omega
 have hNG : N < G := by rw [← hN, ← hG]; exact L4.out
 have B5 : Below G w4 w5 := (Below.refl G w4).grown hgrow5 (by omega) (fun k e => by cases e)
 have S5 := (B5.block N hNG).trans (hN ▸ S4.out)
 rw [hG, hBs, hN, hNt]
 rw [show (w5.alloc (.cells #[.slice (some ⟨G, 0, none⟩) 0 o.length] 68)).heap.size = Bs + 1 by simp [hBs]]
 rw [hG] at hown5
 obtain ⟨V, hV⟩ : ∃ V, ((w5.alloc (.cells #[.slice (some ⟨G, 0, none⟩) 0 o.length] 68)).alloc (.cells #[.slice oa o.length oc] 110)) = V := ⟨_, rfl⟩
 rw [hV]
 have vS : V.heap.size = Bs + 2 := by rw [← hV]; simp [hBs]
 have vN : V.heap[N]? = some (.cells #[.int .i64 shift] 3) := by rw [← hV, Below.heap_alloc _ _ _ (by simp; omega), Below.heap_alloc _ _ _ (by omega)]; exact S5
 have vb : Boxed V Bs 68 (.slice (some ⟨G, 0, none⟩) 0 o.length) := by rw [← hV, ← hBs]; exact (Boxed.new w5 _ _).alloc _
 have vr : V.ownsRow G 72 3 (.slice (some ⟨G, 0, none⟩) 0 o.length) 0 [] := by rw [← hV]; exact (hown5.alloc _).alloc _
 have vo : V.cell? ⟨Bs + 1, 0, none⟩ = some (.slice oa o.length oc) := by
  have := ca_at (ca_new (w5.alloc (.cells #[.slice (some ⟨G, 0, none⟩) 0 o.length] 68)) [.slice oa o.length oc] 110) 0 rfl
  rw [World.size_alloc, hBs] at this
  rw [← hV]; exact this.1
 have vB : Below G w4 V := by rw [← hV]; exact (B5.alloc (by omega) _).alloc (by simp; omega) _
 have HGG := hid hG
 have HNN := hid hN
 clear hV hown5 hgrow5 S5 B5 hNt hBs S4 L4
 gi_wp2
 refine wpIn_range_c rfl (by omega) (gf := 131) (lb := #[.pointer (some ⟨Bs + 1, 0, none⟩)]) rfl trivial (enters_of Tryz.func131 (by kernel_rfl) rfl)
  (steps_stops 3 (Bs + 1) Bs (by omega) o oa oc w4 V RD4.out HL.out vo (by omega) (by omega) (hG ▸ vB)) kpC_t (kpC_b (by omega)) (Below.refl _ _) (fun _ => rfl)
  (fun (pre : List (Sx.Tn × Sx.Tn)) W => (Boxed W Bs 68 (.slice (some ⟨G, 0, none⟩) pre.length o.length) ∧ W.ownsRow G 72 3 (.slice (some ⟨G, 0, none⟩) pre.length o.length) pre.length ((pre.map (Sx.timeS shift)).flatMap timeC)) ∧ W.heap[N]? = some (.cells #[.int .i64 shift] 3) ∧ Below G w4 W)
  (fun _ _ _ => False)
  (OwnC.and (ownC_row (fun (pre : List (Sx.Tn × Sx.Tn)) => pre.length) (fun (pre : List (Sx.Tn × Sx.Tn)) => (pre.map (Sx.timeS shift)).flatMap timeC) (by omega) (by omega)) (OwnC.and (ownC_heap (by omega)) (ownC_below (by omega) (by omega))))
  (fun _ _ _ _ _ hs _ _ => hs)
  ⟨⟨vb, vr⟩, vN, vB⟩
  (fun x a' W => ∃ Bx, Bs + 1 < Bx ∧ W.heap[Bx]? = some (.cells (stepC x).toArray 122 (0, 0)) ∧ a' = { tmps := #[.slice ra rs.length rcap, strV name, .int .i64 shift, undef, undef, .pointer (some ⟨N, 0, none⟩), .slice none 0 0, .int .i64 0, .int .i64 0, .slice oa o.length oc, .int .i64 0, .pointer (some ⟨Bs, 0, none⟩), .pointer (some ⟨Bx, 0, none⟩), .slice ra rs.length rcap, .agg #[.slice ra rs.length rcap, .slice none 0 0, .slice none 0 0], .int .i64 0, .int .i64 0, .bool false, undef, .int .i64 shift, .bool (decide (shift < -64800)), .bool (decide (shift < -64800)), .int .i64 shift, .bool (decide (64800 < shift)), .bool (decide (shift < -64800) || decide (64800 < shift)), .slice ra rs.length rcap, strV name, .func (.func 127) #[] #[.pointer (some ⟨Nt, 0, none⟩), .pointer (some ⟨Nt + 1, 0, none⟩)], .slice oa o.length oc, .slice oa o.length oc, .int .i64 0, .int .i64 0, .bool false, undef, .slice oa o.length oc, .int .i64 ↑o.length, .slice (some ⟨G, 0, none⟩) 0 o.length, .slice oa o.length oc, .func (.func 131) #[] #[.pointer (some ⟨Bs + 1, 0, none⟩)], stepV x.1 x.2, undef, undef, undef, undef, undef, undef, undef], defers := [] })
  ?hAx ?assign ?body ?done ?stop
 case hAx =>
  rintro x a' _ X Y row ⟨Bx, q1, q2, q3⟩ hg hr
  refine ⟨Bx, q1, ?_, q3⟩
  rw [hg.block Bx (Array.getElem?_eq_some_iff.1 q2).1 (fun e => by obtain ⟨_, o, ho, hc⟩ := hr Bx e.symm; rw [q2] at ho; cases ho; simp [Obj.isCells] at hc)]
  exact q2
 case assign =>
  rintro l pre ⟨p, t⟩ W K ⟨⟨i0', i1⟩, iN, iB⟩ sz hK
  rw [vS] at sz
  have KB := hid ((Below.refl W.heap.size W).alloc (Nat.le_refl _) (.cells (stepC (p, t)).toArray 122))
  have R := hid (hK { tmps := #[.slice ra rs.length rcap, strV name, .int .i64 shift, undef, undef, .pointer (some ⟨N, 0, none⟩), .slice none 0 0, .int .i64 0, .int .i64 0, .slice oa o.length oc, .int .i64 0, .pointer (some ⟨Bs, 0, none⟩), .pointer (some ⟨W.heap.size, 0, none⟩), .slice ra rs.length rcap, .agg #[.slice ra rs.length rcap, .slice none 0 0, .slice none 0 0], .int .i64 0, .int .i64 0, .bool false, undef, .int .i64 shift, .bool (decide (shift < -64800)), .bool (decide (shift < -64800)), .int .i64 shift, .bool (decide (64800 < shift)), .bool (decide (shift < -64800) || decide (64800 < shift)), .slice ra rs.length rcap, strV name, .func (.func 127) #[] #[.pointer (some ⟨Nt, 0, none⟩), .pointer (some ⟨Nt + 1, 0, none⟩)], .slice oa o.length oc, .slice oa o.length oc, .int .i64 0, .int .i64 0, .bool false, undef, .slice oa o.length oc, .int .i64 ↑o.length, .slice (some ⟨G, 0, none⟩) 0 o.length, .slice oa o.length oc, .func (.func 131) #[] #[.pointer (some ⟨Bs + 1, 0, none⟩)], stepV p t, undef, undef, undef, undef, undef, undef, undef], defers := [] } (W.alloc (.cells (stepC (p, t)).toArray 122)) ((KeepsOthers.alloc _ _).from _) (kp_grow KB.out (by omega))
   ⟨⟨i0'.alloc _, i1.alloc _⟩, (KB.out.block _ (Array.getElem?_eq_some_iff.1 iN).1).trans iN, iB.alloc (by omega) _⟩ ⟨W.heap.size, by omega, World.alloc_heap_new W _, rfl⟩)
  clear hK i0' i1 iN iB
  gi_wp2
  exact R.out
 case body =>
  rintro l pre ⟨p, t⟩ a' W hl ⟨r, hr⟩ ⟨⟨ib, ir⟩, iN, iB⟩ ⟨Bx, hBx, hX, rfl⟩ hpx sz
  have hm := steps_mem o Sx.ago (p, t) (prefix_mem hpx)
  dsimp only at hm
  have hpl : pre.length + 1 ≤ o.length := by have := hpx.length_le; rw [List.length_append, Sx.stepsOf, Sx.stepsFrom_len] at this; simpa using this
  have hs1 : 0 ≤ p.save ∧ p.save ≤ 10800 := by
   rcases hm.1 with rfl | e
   ·simp [Sx.ago]
   ·exact HSV.out _ e
  have hb2 := HB.out _ hm.2
  have HC := hid (time_any p t shift W n1 n2 hs1.1 hs1.2 hb2.1 hb2.2)
  have HC2 := hid (time_any p t shift W.drew n1 n2 hs1.1 hs1.2 hb2.1 hb2.2)
  obtain ⟨x0, _⟩ := ca_at (ca_heap2 hX) 0 rfl
  obtain ⟨x1, _⟩ := ca_at (ca_heap2 hX) 1 rfl
  obtain ⟨x2, _⟩ := ca_at (ca_heap2 hX) 2 rfl
  obtain ⟨x3, _⟩ := ca_at (ca_heap2 hX) 3 rfl
  obtain ⟨x4, _⟩ := ca_at (ca_heap2 hX) 4 rfl
  obtain ⟨x5, _⟩ := ca_at (ca_heap2 hX) 5 rfl
  obtain ⟨x6, _⟩ := ca_at (ca_heap2 hX) 6 rfl
  obtain ⟨x7, _⟩ := ca_at (ca_heap2 hX) 7 rfl
  have sx := (Array.getElem?_eq_some_iff.1 hX).1
  have cN := (ca_at (ca_heap2 (vs := [.int .i64 shift]) iN) 0 rfl).1
  have cb := ib.cell
  have lb := ib.lt
  have lN := (Array.getElem?_eq_some_iff.1 iN).1
  have IB := hid iB
  have IR := hid ir
  have IN := hid iN
  have IBX := hid ib
  clear hm hX iN ib ir iB hr
  dsimp only at x0 x1 x2 x3 x4 x5 x6 x7
  gi_wp2_with fail
  obtain ⟨T, hT⟩ : ∃ T, Sx.timeOf shift p.save t = T := ⟨_, rfl⟩
  rw [hT] at HC2
  have HTT : Hid (Sx.timeS shift (p, t) = T) := hT
  clear hT HC
  have SS : Hid (HeldB N Bx shift p t W.drew) := ⟨cN, x0, x1, x2, x3, x4, x5, x6, x7⟩
  refine regionIn_held (S := fun w' => HeldB N Bx shift p t w') (by kernel_rfl) (by kernel_rfl) (fun ⟨_, _, q⟩ => q) SS.out (fun hHeld => ?_)
  refine tkH 1 ?vz1 rfl ?z1 ?_
  case z1 => (intro w hSw; obtain ⟨sN, s0, s1, s2, s3, s4, s5, s6, s7⟩ := hSw; go_simp; try with_reducible rfl)
  try simp only [Act.put, jP, jO, jS]
  refine tkH 2 ?vz2 rfl ?z2 ?_
  case z2 => (intro w hSw; obtain ⟨sN, s0, s1, s2, s3, s4, s5, s6, s7⟩ := hSw; go_simp; try with_reducible rfl)
  try simp only [Act.put, jP, jO, jS]
  refine wpAnyH_ready (rs := [0,3]) (by kernel_rfl) (by simp) ?_
  refine AllReadyH.cons rfl (fun K hK => ?_) ?_
  ·have cbd : W.drew.cell? ⟨Bs, 0, none⟩ = some (.slice (some ⟨G, 0, none⟩) pre.length o.length) := cb
   go_simp
   refine hK.out _ _ (by assumption) (fun hHeldB => ?_)
   clear hK K
   try simp only [Act.put, jP, jO, jS]
   refine rdH 3 rfl fun K hK => ?_
   go_simp
   refine HC2.out.mono ?_
   rintro e w7 ⟨rfl, hb7⟩
   have BB : Hid (Below W.heap.size W w7) := (show Below W.heap.size W W.drew from ⟨rfl, rfl, rfl, Nat.le_refl _, fun _ _ => rfl⟩).trans hb7
   have ib7 : Boxed w7 Bs 68 (.slice (some ⟨G, 0, none⟩) pre.length o.length) := (BB.out.block _ lb).trans IBX.out
   have cb7 := ib7.cell
   have lb7 := ib7.lt
   have row7 := owns_below IR.out BB.out
   have S7 := held_below SS.out hb7 lN sx
   have L7 : N < w7.heap.size ∧ Bx < w7.heap.size := ⟨Nat.lt_of_lt_of_le lN BB.out.size, Nat.lt_of_lt_of_le sx BB.out.size⟩
   refine hK.out _ _ S7 (fun hHeld2 => ?_)
   clear hK K
   try simp only [Act.put, jP, jO, jS]
   refine rdH 4 rfl fun K hK => ?_
   go_simp
   have S8 := held_below S7 ((Below.refl w7.heap.size w7).alloc (Nat.le_refl _) (.cells #[.int .i64 T.at_, .int .i64 T.save, strV T.letter] 72)) L7.1 L7.2
   have cb8 := (ib7.alloc (.cells #[.int .i64 T.at_, .int .i64 T.save, strV T.letter] 72)).cell
   refine hK.out _ _ S8 (fun hHeld3 => ?_)
   clear hK K
   try simp only [Act.put, jP, jO, jS]
   refine rdH 5 rfl fun K hK => ?_
   refine step_append_fits rfl _ _ 68 rfl G 72 i0 3 Tryz.underlying68 hi hz1 G pre.length o.length _ rfl (row7.alloc _) ⟨w7.heap.size, 0, none⟩ 1 1 (timeC T) rfl rfl (time_cells _ _) (time_one _) hpl ?_
   intro w9 hown9 hgrow9
   obtain ⟨hv9, k9, kp9, b9, r9, n9, bl9⟩ := app_end IBX.out IR.out IN.out IB.out BB.out hGB hNG (by decide) hown9 hgrow9
   have c9 := hv9.cell
   have f9 := hv9.frozen
   have l9 := hv9.lt
   have S9 := held_grown S8 hgrow9 (by simp; omega) (by simp; omega) (by omega) (by omega)
   refine hK.out _ _ S9 (fun hHeld4 => ?_)
   clear hK K
   try simp only [Act.put, jP, jO, jS]
   refine rdH 6 rfl fun K hK => ?_
   go_simp
   refine hK.out _ _ (held_set S9 (by omega) (by omega)) (fun hHeld5 => ?_)
   clear hK K
   try simp only [Act.put, jP, jO, jS]
   refine wpAnyH_done (by kernel_rfl) ?_ _
   exact ⟨k9.from _, HGG.out.symm ▸ kp9, ⟨by simpa using b9, by simpa [HTT.out] using r9⟩, n9, bl9⟩
  refine AllReadyH.cons rfl (fun K hK => ?_) AllReadyH.nil
  go_simp
  refine HC2.out.mono ?_
  rintro e w7 ⟨rfl, hb7⟩
  have BB : Hid (Below W.heap.size W w7) := (show Below W.heap.size W W.drew from ⟨rfl, rfl, rfl, Nat.le_refl _, fun _ _ => rfl⟩).trans hb7
  have ib7 : Boxed w7 Bs 68 (.slice (some ⟨G, 0, none⟩) pre.length o.length) := (BB.out.block _ lb).trans IBX.out
  have cb7 := ib7.cell
  have lb7 := ib7.lt
  have row7 := owns_below IR.out BB.out
  have S7 := held_below SS.out hb7 lN sx
  have L7 : N < w7.heap.size ∧ Bx < w7.heap.size := ⟨Nat.lt_of_lt_of_le lN BB.out.size, Nat.lt_of_lt_of_le sx BB.out.size⟩
  refine hK.out _ _ S7 (fun hHeld2 => ?_)
  clear hK K
  try simp only [Act.put, jP, jO, jS]
  refine wpAnyH_ready (rs := [0,4]) (by kernel_rfl) (by simp) ?_
  refine AllReadyH.cons rfl (fun K hK => ?_) ?_
  ·go_simp
   refine hK.out _ _ (by assumption) (fun hHeldB => ?_)
   clear hK K
   try simp only [Act.put, jP, jO, jS]
   refine rdH 4 rfl fun K hK => ?_
   go_simp
   have S8 := held_below S7 ((Below.refl w7.heap.size w7).alloc (Nat.le_refl _) (.cells #[.int .i64 T.at_, .int .i64 T.save, strV T.letter] 72)) L7.1 L7.2
   have cb8 := (ib7.alloc (.cells #[.int .i64 T.at_, .int .i64 T.save, strV T.letter] 72)).cell
   refine hK.out _ _ S8 (fun hHeld3 => ?_)
   clear hK K
   try simp only [Act.put, jP, jO, jS]
   refine rdH 5 rfl fun K hK => ?_
   refine step_append_fits rfl _ _ 68 rfl G 72 i0 3 Tryz.underlying68 hi hz1 G pre.length o.length _ rfl (row7.alloc _) ⟨w7.heap.size, 0, none⟩ 1 1 (timeC T) rfl rfl (time_cells _ _) (time_one _) hpl ?_
   intro w9 hown9 hgrow9
   obtain ⟨hv9, k9, kp9, b9, r9, n9, bl9⟩ := app_end IBX.out IR.out IN.out IB.out BB.out hGB hNG (by decide) hown9 hgrow9
   have c9 := hv9.cell
   have f9 := hv9.frozen
   have l9 := hv9.lt
   have S9 := held_grown S8 hgrow9 (by simp; omega) (by simp; omega) (by omega) (by omega)
   refine hK.out _ _ S9 (fun hHeld4 => ?_)
   clear hK K
   try simp only [Act.put, jP, jO, jS]
   refine rdH 6 rfl fun K hK => ?_
   go_simp
   refine hK.out _ _ (held_set S9 (by omega) (by omega)) (fun hHeld5 => ?_)
   clear hK K
   try simp only [Act.put, jP, jO, jS]
   refine wpAnyH_done (by kernel_rfl) ?_ _
   exact ⟨k9.from _, HGG.out.symm ▸ kp9, ⟨by simpa using b9, by simpa [HTT.out] using r9⟩, n9, bl9⟩
  refine AllReadyH.cons rfl (fun K hK => ?_) AllReadyH.nil
  go_simp
  have S8 := held_below S7 ((Below.refl w7.heap.size w7).alloc (Nat.le_refl _) (.cells #[.int .i64 T.at_, .int .i64 T.save, strV T.letter] 72)) L7.1 L7.2
  have cb8 := (ib7.alloc (.cells #[.int .i64 T.at_, .int .i64 T.save, strV T.letter] 72)).cell
  refine hK.out _ _ S8 (fun hHeld3 => ?_)
  clear hK K
  try simp only [Act.put, jP, jO, jS]
  refine rdH 0 rfl fun K hK => ?_
  go_simp
  refine hK.out _ _ (by assumption) (fun hHeldB => ?_)
  clear hK K
  try simp only [Act.put, jP, jO, jS]
  refine rdH 5 rfl fun K hK => ?_
  refine step_append_fits rfl _ _ 68 rfl G 72 i0 3 Tryz.underlying68 hi hz1 G pre.length o.length _ rfl (row7.alloc _) ⟨w7.heap.size, 0, none⟩ 1 1 (timeC T) rfl rfl (time_cells _ _) (time_one _) hpl ?_
  intro w9 hown9 hgrow9
  obtain ⟨hv9, k9, kp9, b9, r9, n9, bl9⟩ := app_end IBX.out IR.out IN.out IB.out BB.out hGB hNG (by decide) hown9 hgrow9
  have c9 := hv9.cell
  have f9 := hv9.frozen
  have l9 := hv9.lt
  have S9 := held_grown S8 hgrow9 (by simp; omega) (by simp; omega) (by omega) (by omega)
  refine hK.out _ _ S9 (fun hHeld4 => ?_)
  clear hK K
  try simp only [Act.put, jP, jO, jS]
  refine rdH 6 rfl fun K hK => ?_
  go_simp
  refine hK.out _ _ (held_set S9 (by omega) (by omega)) (fun hHeld5 => ?_)
  clear hK K
  try simp only [Act.put, jP, jO, jS]
  refine wpAnyH_done (by kernel_rfl) ?_ _
  exact ⟨k9.from _, HGG.out.symm ▸ kp9, ⟨by simpa using b9, by simpa [HTT.out] using r9⟩, n9, bl9⟩
 case done =>
  rintro D ys W hD rfl ⟨⟨ib, ir⟩, iN, iB⟩ hK
  have cb := ib.cell
  have IB := hid iB
  have IR := hid ir
  have HK := hid hK
  have hlen : (Sx.stepsOf o).length = o.length := by rw [Sx.stepsOf, Sx.stepsFrom_len]
  have BK := hid (belowK_b (w := w4) (n₀ := G) (by omega) W D _ (.deferred none) (by omega) hK rfl rfl)
  have RK := hid (ownsRow_putObj ir (.deferred none) hK rfl)
  rw [hlen] at cb RK
  clear iN iB ir hK
  gi_wp2
  refine ⟨by simp, .inl ⟨_, _, rfl, run_takeDeferred HK.out, ?_⟩⟩
  refine ⟨.tuple #[.slice (some ⟨G, 0, none⟩) o.length o.length, .int .i64 0], by simp [results, Tryz.results28, go_sem], ?_⟩
  refine ⟨_, by rw [HT.out], ?_, ?_⟩
  ·unfold OwnTimes
   rw [KX.out, List.length_map, hlen]
   exact owns_base RK.out (by rw [HNN.out]; omega)
  ·rw [HNN.out]
   have b4 := B4.out
   rw [HNN.out] at b4
   exact b4.trans ((IB.out.trans BK.out).mono (by omega))
 case stop =>
  rintro D c pre W _ _ h _
  exact h.elim
theorem times_any (rs : List Sx.Rl) (rv : Value) (name : Tx.Bs) (shift : Int) (w : World) (h : RdRules w rv rs) (hs : ∀ r ∈ rs, r.name.length ≤ maxLen ∧ r.letter.length ≤ maxLen) :
  Calls Tryz.prog 28 #[rv, strV name, .int .i64 shift] w (TimesEnd rs name shift w) := by
 by_cases hT : Sx.timesE rs name shift = 0
 ·exact times_good rs rv name shift w h hs hT
 by_cases hE : Sx.srcE ⟨rs, [], []⟩ = 0
 ·by_cases hsh : -64800 ≤ shift ∧ shift ≤ 64800
  ·exact times_turns rs rv name shift w h hs hE hsh.1 hsh.2 hT
  ·exact times_range rs rv name shift w h hs hE hsh
 ·exact times_wrong rs rv name shift w h hs hE
end Go.Proofs.YtkhlkohlccndgaaGreat
namespace Go.Proofs.YtkhlkohlccndgaaGreat.Tb
open Tx (Bs)

structure Lc where
 shift : Int
 save : Int
 name : Bs
deriving DecidableEq
structure Cg where
 at_ : Int
 lc : Lc
deriving DecidableEq
structure Tbl where
 first : Lc
 ch : List Cg
deriving DecidableEq
abbrev least : Int := -62135596800
abbrev most : Int := 253402300799
def localE (l : Lc) : Int :=
 if (Sx.inB l.shift (-75600) 75600 && Sx.inB l.save 0 10800) = false then 3
 else if (!l.name.isEmpty && decide (l.name.length ≤ 24) && Sx.plainB l.name) = false then 1 else 0
/- is it no later than what was ahead? -/
def late (prev : Option Int) (n : Int) : Bool := match prev with | none => false | some p => decide (n ≤ p)
def goE (was : Lc) (prev : Option Int) : List Cg → Int
 | [] => 0
 | c :: r => if Sx.inB c.at_ least most = false then 3 else if late prev c.at_ = true then 4 else if localE c.lc ≠ 0 then localE c.lc else if c.lc = was then 4 else goE c.lc (some c.at_) r
def tableE (t : Tbl) : Int := if 1000 < t.ch.length then 2 else if localE t.first ≠ 0 then localE t.first else goE t.first none t.ch
def lookL (out : Lc) (at_ : Int) : List Cg → Lc
 | [] => out
 | c :: r => lookL (if c.at_ ≤ at_ then c.lc else out) at_ r
def look (t : Tbl) (at_ : Int) : Lc := lookL t.first at_ t.ch
def inYears (n : Int) : Bool := Sx.inB n least most

/- what is wrong, change by change -/
theorem goE_cons (was : Lc) (prev : Option Int) (c : Cg) (r : List Cg) : goE was prev (c :: r) = if Sx.inB c.at_ least most = false then 3 else if late prev c.at_ = true then 4 else if localE c.lc ≠ 0 then localE c.lc else if c.lc = was then 4 else goE c.lc (some c.at_) r := rfl
theorem goE_1 {was prev c r} (h : Sx.inB c.at_ least most = false) : goE was prev (c :: r) = 3 := by rw [goE_cons, if_pos h]
theorem goE_2 {was prev c r} (h : Sx.inB c.at_ least most = true) (h2 : late prev c.at_ = true) : goE was prev (c :: r) = 4 := by rw [goE_cons, if_neg (by simp [h]), if_pos h2]
theorem goE_3 {was prev c r} (h : Sx.inB c.at_ least most = true) (h2 : late prev c.at_ = false) (h3 : localE c.lc ≠ 0) : goE was prev (c :: r) = localE c.lc := by rw [goE_cons, if_neg (by simp [h]), if_neg (by simp [h2]), if_pos h3]
theorem goE_4 {was prev c r} (h : Sx.inB c.at_ least most = true) (h2 : late prev c.at_ = false) (h3 : localE c.lc = 0) (h4 : c.lc = was) : goE was prev (c :: r) = 4 := by rw [goE_cons, if_neg (by simp [h]), if_neg (by simp [h2]), if_neg (by simp [h3]), if_pos h4]
theorem goE_5 {was prev c r} (h : Sx.inB c.at_ least most = true) (h2 : late prev c.at_ = false) (h3 : localE c.lc = 0) (h4 : ¬ c.lc = was) : goE was prev (c :: r) = goE c.lc (some c.at_) r := by rw [goE_cons, if_neg (by simp [h]), if_neg (by simp [h2]), if_neg (by simp [h3]), if_neg h4]
theorem goodL_bd {l : Lc} (h : localE l = 0) : -75600 ≤ l.shift ∧ l.shift ≤ 75600 ∧ 0 ≤ l.save ∧ l.save ≤ 10800 ∧ l.name ≠ [] ∧ l.name.length ≤ 24 ∧ Sx.plainB l.name = true := by
 unfold localE at h
 split at h
 ·omega
 ·rename_i h1
  split at h
  ·omega
  ·rename_i h2
   have h1' := eq_true_of_ne_false h1
   have h2' := eq_true_of_ne_false h2
   simp only [Bool.and_eq_true, Sx.inB, decide_eq_true_eq] at h1' h2'
   obtain ⟨⟨a1, a2⟩, a3, a4⟩ := h1'
   obtain ⟨⟨b1, b2⟩, b3⟩ := h2'
   exact ⟨a1, a2, a3, a4, (by intro q; rw [q] at b1; cases b1), b2, b3⟩
theorem goE_zero {was : Lc} {prev : Option Int} {c : Cg} {r : List Cg} (h : goE was prev (c :: r) = 0) : least ≤ c.at_ ∧ c.at_ ≤ most ∧ late prev c.at_ = false ∧ localE c.lc = 0 ∧ ¬ c.lc = was ∧ goE c.lc (some c.at_) r = 0 := by
 rw [goE_cons] at h
 split at h
 ·omega
 ·rename_i h1
  split at h
  ·omega
  ·rename_i h2
   split at h
   ·rename_i h3; exact absurd h h3
   ·rename_i h3
    split at h
    ·omega
    ·rename_i h4
     simp [Sx.inB] at h1
     exact ⟨h1.1, h1.2, by simpa using h2, by simpa using h3, h4, h⟩
theorem good_parts {t : Tbl} (h : tableE t = 0) : t.ch.length ≤ 1000 ∧ localE t.first = 0 ∧ goE t.first none t.ch = 0 := by
 unfold tableE at h
 split at h
 ·omega
 ·rename_i h1
  split at h
  ·rename_i h2; exact absurd h h2
  ·rename_i h2; exact ⟨by omega, by simpa using h2, h⟩
/- times rise -/
def Rise : List Cg → Prop
 | [] => True
 | [_] => True
 | a :: b :: r => a.at_ < b.at_ ∧ Rise (b :: r)
theorem goE_rise : ∀ (l : List Cg) (was : Lc) (prev : Option Int), goE was prev l = 0 → Rise l ∧ (∀ c ∈ l, least ≤ c.at_ ∧ c.at_ ≤ most ∧ localE c.lc = 0) ∧ (∀ p, prev = some p → ∀ c ∈ l, p < c.at_)
 | [], _, _, _ => ⟨trivial, by simp, by simp⟩
 | c :: r, was, prev, h => by
   obtain ⟨h1, h2, h3, h4, h5, h6⟩ := goE_zero h
   obtain ⟨r1, r2, r3⟩ := goE_rise r c.lc (some c.at_) h6
   refine ⟨?_, ?_, ?_⟩
   ·cases r with
    | nil => trivial
    | cons d r => exact ⟨r3 _ rfl d (by simp), r1⟩
   ·intro x hx
    simp at hx
    rcases hx with rfl | hx
    ·exact ⟨h1, h2, h4⟩
    ·exact r2 x hx
   ·intro p hp x hx
    subst hp
    simp [late] at h3
    simp at hx
    rcases hx with rfl | hx
    ·exact h3
    ·exact Int.lt_trans h3 (r3 _ rfl x hx)
/- what clocks show -/
def wallN (t : Tbl) (at_ : Int) : Int := at_ + (look t at_).shift
def wallD (t : Tbl) (at_ : Int) : Int := wallN t at_ / 86400
def wallE (t : Tbl) (at_ : Int) : Int := if -719162 ≤ wallD t at_ ∧ wallD t at_ ≤ 2932896 then 0 else 3
/- when they show it: in each span between changes -/
def spans (n from_ shift : Int) : List Cg → List Int
 | [] => if from_ ≤ n - shift ∧ n - shift < most + 1 then [n - shift] else []
 | c :: r => (if from_ ≤ n - shift ∧ n - shift < c.at_ then [n - shift] else []) ++ spans n c.at_ c.lc.shift r
/- put in its place -/
def ins (x : Int) : List Int → List Int
 | [] => [x]
 | y :: r => if x < y then x :: y :: r else y :: ins x r
theorem drop_get {α : Type} {l : List α} {i : Nat} {x : α} (h : l[i]? = some x) : l.drop i = x :: l.drop (i + 1) := by
 obtain ⟨hi, rfl⟩ := List.getElem?_eq_some_iff.1 h
 exact List.drop_eq_getElem_cons hi
theorem lookL_yes {o R : Lc} {n : Int} {l : List Cg} {i : Nat} {c : Cg} (h : l[i]? = some c) (hR : R = lookL o n (l.drop i)) (hc : c.at_ ≤ n) : R = lookL c.lc n (l.drop (i + 1)) := by
 rw [hR, drop_get h]; simp only [lookL]; rw [if_pos hc]
theorem lookL_no {o R : Lc} {n : Int} {l : List Cg} {i : Nat} {c : Cg} (h : l[i]? = some c) (hR : R = lookL o n (l.drop i)) (hc : ¬ c.at_ ≤ n) : R = lookL o n (l.drop (i + 1)) := by
 rw [hR, drop_get h]; simp only [lookL]; rw [if_neg hc]
theorem lookL_end {o R : Lc} {n : Int} {l : List Cg} {i : Nat} (h : ¬ i < l.length) (hR : R = lookL o n (l.drop i)) : R = o := by
 rw [hR, List.drop_eq_nil_of_le (by omega)]; rfl
end Go.Proofs.YtkhlkohlccndgaaGreat.Tb
namespace Go.Proofs.YtkhlkohlccndgaaGreat
open Go.RowKit

def cgCells (c : Tb.Cg) : List Value := [.int .i64 c.at_, .int .i64 c.lc.shift, .int .i64 c.lc.save, strV c.lc.name]
abbrev lcV (l : Tb.Lc) : Value := .agg #[.int .i64 l.shift, .int .i64 l.save, strV l.name]
abbrev cgV (c : Tb.Cg) : Value := .agg #[.int .i64 c.at_, .int .i64 c.lc.shift, .int .i64 c.lc.save, strV c.lc.name]
abbrev tbV (l : Tb.Lc) (v : Value) : Value := .agg #[.int .i64 l.shift, .int .i64 l.save, strV l.name, v]
def RdCh := Rd 4 cgCells
theorem cgCells_len (c : Tb.Cg) : (cgCells c).length = 4 := rfl
theorem rd_cg {w : World} {b o i : Nat} {c : Tb.Cg} (h : ∀ k u, (cgCells c)[k]? = some u → w.cell? ⟨b, o + i * 4 + k, none⟩ = some u) :
  w.cell? ⟨b, o + i * 4, none⟩ = some (.int .i64 c.at_) ∧ w.cell? ⟨b, o + i * 4 + 1, none⟩ = some (.int .i64 c.lc.shift) ∧ w.cell? ⟨b, o + i * 4 + 2, none⟩ = some (.int .i64 c.lc.save) ∧ w.cell? ⟨b, o + i * 4 + 3, none⟩ = some (strV c.lc.name) :=
 ⟨h 0 _ rfl, h 1 _ rfl, h 2 _ rfl, h 3 _ rfl⟩
theorem rdCh_below {W w' : World} {v : Value} {l : List Tb.Cg} (h : RdCh W v l) (hb : Below W.heap.size W w') : RdCh w' v l := rd_below h hb
/- a change of the list, as the walk reads it -/
theorem rdCh_at {w : World} {v : Value} {l : List Tb.Cg} {i : Nat} {c : Tb.Cg} (h : RdCh w v l) (hi : l[i]? = some c) : ∃ b o cap, v = .slice (some ⟨b, o, none⟩) l.length cap ∧ b < w.heap.size ∧
  w.cell? ⟨b, o + i * 4, none⟩ = some (.int .i64 c.at_) ∧ w.cell? ⟨b, o + i * 4 + 1, none⟩ = some (.int .i64 c.lc.shift) ∧ w.cell? ⟨b, o + i * 4 + 2, none⟩ = some (.int .i64 c.lc.save) ∧ w.cell? ⟨b, o + i * 4 + 3, none⟩ = some (strV c.lc.name) := by
 obtain ⟨a, cap, rfl, h⟩ := h
 obtain ⟨b, o, rfl, hb, hc⟩ := h (by intro q; subst q; simp at hi)
 obtain ⟨c0, c1, c2, c3⟩ := rd_cg (hc i c hi)
 exact ⟨b, o, cap, rfl, hb, c0, c1, c2, c3⟩
abbrev lcL (l : Tb.Lc) : List Value := [.int .i64 l.shift, .int .i64 l.save, strV l.name]
abbrev tbL (l : Tb.Lc) (v : Value) : List Value := [.int .i64 l.shift, .int .i64 l.save, strV l.name, v]
def lc0 : Tb.Lc := ⟨0, 0, []⟩
def RdInts := Rd 1 (fun n : Int => [Value.int .i64 n])
theorem rdInts_at {w : World} {v : Value} {l : List Int} {i : Nat} {n : Int} (h : RdInts w v l) (hi : l[i]? = some n) : ∃ b o cap, v = .slice (some ⟨b, o, none⟩) l.length cap ∧ b < w.heap.size ∧ w.cell? ⟨b, o + i, none⟩ = some (.int .i64 n) := by
 obtain ⟨a, cap, rfl, h⟩ := h
 obtain ⟨b, o, rfl, hb, hc⟩ := h (by intro q; subst q; simp at hi)
 refine ⟨b, o, cap, rfl, hb, ?_⟩
 have := hc i n hi 0 _ rfl
 simpa using this
theorem Tryz.infoCg : (Tryz.prog.info? 86).map (fun i => (i.zero, i.size, i.bytes)) = some (some (.agg #[.int .i64 0, .int .i64 0, .int .i64 0, .string ⟨#[]⟩]), 4, 40) := by kernel_rfl
def OwnCh (w : World) (B : Nat) (v : Value) (l : List Tb.Cg) : Prop := w.ownsRow B 86 4 v l.length (l.flatMap cgCells)
theorem ownCh_rd {w : World} {B : Nat} {v : Value} {l : List Tb.Cg} (h : OwnCh w B v l) : RdCh w v l := own_rd cgCells_len h
theorem ownCh_nil (w : World) (B : Nat) : OwnCh w B (.slice none 0 0) [] := World.ownsRow_nil _ _ _ _
end Go.Proofs.YtkhlkohlccndgaaGreat
