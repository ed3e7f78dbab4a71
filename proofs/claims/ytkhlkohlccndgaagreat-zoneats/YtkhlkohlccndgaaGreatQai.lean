/- slices.SortFunc at a list of turns, at this dump: an application of the library s contract. · Contracts of slices.SortFunc at turns, slices.SortedFunc, rule.inOrder: the same turns, in order of how they stand. · Times of rules in plain terms, as the law asks after them. · What is wrong with turns in order, as the walk finds it, is what the plain words say; times of steps. Plain. · The contract of rule.Times. · The contract of rule.Times: turns of which something is wrong; and the whole. · The contract of rule.Times: the times of turns that are right; and the whole. · Tables in plain terms: what is wrong with one; what it tells at a time; what clocks show, and when; from one to another. · Tables in memory. · Contracts of zone.endOf and zone.ends: when eras end. · The contract of zone.checkTwice. · The contract of zone.checkTimes. · Contracts of zone.isRising and zone.checkEnds. · The contract of zone.Check: its five checks, one after another. · What a source without fault is; the contract of zone.Check at every source. · The contract of seek.Last at times, over whatever iterator and predicate. · What lines leave, in plain terms: how many things, how long their texts. -/
import Derived.Test.YtkhlkohlccndgaaGreatQz
import Derived.Shelf.SlSortCmp.NoneTotal
import Derived.Test.YtkhlkohlccndgaaGreatProg
import Derived.Test.YtkhlkohlccndgaaGreatQah
import Derived.Test.YtkhlkohlccndgaaGreatQaf
import Derived.Test.YtkhlkohlccndgaaGreatQaa
import Derived.Maps.AppendAt
import Derived.Maps.OwnIn
import Derived.Maps.Views
import Derived.StringKeys
import Derived.Test.YtkhlkohlccndgaaGreatQae
set_option linter.unusedVariables false
set_option linter.unusedSimpArgs false
set_option maxRecDepth 100000
set_option maxHeartbeats 16000000
namespace Go.Proofs.YtkhlkohlccndgaaGreat
end Go.Proofs.YtkhlkohlccndgaaGreat
namespace Go.Proofs
open Go.Shelf
def Tryz.laysSortTurn_ren : Go.Shelf.Ren := ⟨fun | 6 => 173 | 15 => 202 | 14 => 201 | 28 => 221 | 29 => 222 | 20 => 213 | 21 => 214 | 22 => 215 | 23 => 216 | 24 => 217 | 25 => 218 | 26 => 219 | 27 => 220 | 46 => 236 | 47 => 237 | 48 => 238 | 49 => 239 | 50 => 240 | 57 => 245 | n => n, fun | 22 => 110 | 24 => 120 | 25 => 191 | 3 => 3 | 39 => 230 | 0 => 0 | 53 => 258 | 55 => 260 | 4 => 4 | 46 => 251 | 45 => 250 | 50 => 255 | 5 => 5 | 9 => 9 | 66 => 266 | 70 => 270 | 76 => 276 | 77 => 139 | n => n, fun | n => n⟩
theorem Tryz.laysSortTurn : Go.Proofs.SlLaysF0.n6 Tryz.prog Tryz.laysSortTurn_ren := {
 mixed := by kernel_rfl
 f6 := ⟨Tryz.f173.name, by decide, Tryz.func173.trans (congrArg some (by kernel_rfl))⟩
 f14 := ⟨Tryz.f201.name, by decide, Tryz.func201.trans (congrArg some (by kernel_rfl))⟩
 f15 := Tryz.func202.trans (congrArg some (by kernel_rfl))
 f20 := ⟨Tryz.f213.name, by decide, Tryz.func213.trans (congrArg some (by kernel_rfl))⟩
 f21 := ⟨Tryz.f214.name, by decide, Tryz.func214.trans (congrArg some (by kernel_rfl))⟩
 f22 := ⟨Tryz.f215.name, by decide, Tryz.func215.trans (congrArg some (by kernel_rfl))⟩
 f23 := ⟨Tryz.f216.name, by decide, Tryz.func216.trans (congrArg some (by kernel_rfl))⟩
 f24 := ⟨Tryz.f217.name, by decide, Tryz.func217.trans (congrArg some (by kernel_rfl))⟩
 f25 := ⟨Tryz.f218.name, by decide, Tryz.func218.trans (congrArg some (by kernel_rfl))⟩
 f26 := ⟨Tryz.f219.name, by decide, Tryz.func219.trans (congrArg some (by kernel_rfl))⟩
 f27 := ⟨Tryz.f220.name, by decide, Tryz.func220.trans (congrArg some (by kernel_rfl))⟩
 f28 := Tryz.func221.trans (congrArg some (by kernel_rfl))
 f29 := Tryz.func222.trans (congrArg some (by kernel_rfl))
 f46 := ⟨Tryz.f236.name, by decide, Tryz.func236.trans (congrArg some (by kernel_rfl))⟩
 f47 := Tryz.func237.trans (congrArg some (by kernel_rfl))
 f48 := Tryz.func238.trans (congrArg some (by kernel_rfl))
 f49 := ⟨Tryz.f239.name, by decide, Tryz.func239.trans (congrArg some (by kernel_rfl))⟩
 f50 := ⟨Tryz.f240.name, by decide, Tryz.func240.trans (congrArg some (by kernel_rfl))⟩
 f57 := ⟨Tryz.f245.name, by decide, Tryz.func245.trans (congrArg some (by kernel_rfl))⟩
 t0 := Tryz.underlying0
 a0 := Tryz.isAgg0
 z0 := Tryz.sizeOf0
 v0 := Tryz.zeroValue0
 t3 := Tryz.underlying3
 a3 := Tryz.isAgg3
 z3 := Tryz.sizeOf3
 v3 := Tryz.zeroValue3
 t4 := Tryz.underlying4
 a4 := Tryz.isAgg4
 z4 := Tryz.sizeOf4
 v4 := Tryz.zeroValue4
 t5 := Tryz.underlying5
 a5 := Tryz.isAgg5
 z5 := Tryz.sizeOf5
 v5 := Tryz.zeroValue5
 t9 := Tryz.underlying9
 a9 := Tryz.isAgg9
 z9 := Tryz.sizeOf9
 v9 := Tryz.zeroValue9
 t22 := Tryz.underlying110
 a22 := Tryz.isAgg110
 z22 := Tryz.sizeOf110
 v22 := Tryz.zeroValue110
 t25 := Tryz.underlying191
 a25 := Tryz.isAgg191
 z25 := Tryz.sizeOf191
 v25 := Tryz.zeroValue191
 t39 := Tryz.underlying230
 a39 := Tryz.isAgg230
 z39 := Tryz.sizeOf230
 v39 := Tryz.zeroValue230
 t45 := Tryz.underlying250
 a45 := Tryz.isAgg250
 z45 := Tryz.sizeOf250
 v45 := Tryz.zeroValue250
 t46 := Tryz.underlying251
 a46 := Tryz.isAgg251
 z46 := Tryz.sizeOf251
 v46 := Tryz.zeroValue251
 t50 := Tryz.underlying255
 a50 := Tryz.isAgg255
 z50 := Tryz.sizeOf255
 v50 := Tryz.zeroValue255
 t53 := Tryz.underlying258
 a53 := Tryz.isAgg258
 z53 := Tryz.sizeOf258
 v53 := Tryz.zeroValue258
 t55 := Tryz.underlying260
 a55 := Tryz.isAgg260
 z55 := Tryz.sizeOf260
 v55 := Tryz.zeroValue260
 t66 := Tryz.underlying266
 a66 := Tryz.isAgg266
 z66 := Tryz.sizeOf266
 v66 := Tryz.zeroValue266
 t70 := Tryz.underlying270
 a70 := Tryz.isAgg270
 z70 := Tryz.sizeOf270
 v70 := Tryz.zeroValue270
 t76 := Tryz.underlying276
 a76 := Tryz.isAgg276
 z76 := Tryz.sizeOf276
 v76 := Tryz.zeroValue276
 t77 := Tryz.underlying139
 a77 := Tryz.isAgg139
 z77 := Tryz.sizeOf139
 v77 := Tryz.zeroValue139 }
end Go.Proofs
namespace Go.Proofs.YtkhlkohlccndgaaGreat
section
open Go.RowKit Go.Shelf Go.Sort

instance : Inhabited Sx.Tn := ⟨Sx.ago⟩
def cmpT (x y : Sx.Tn) : Int := cmpI x.stands y.stands
theorem ltT (x y : Sx.Tn) : ltOf cmpT x y = decide (x.stands < y.stands) := by
 unfold ltOf cmpT cmpI
 by_cases h1 : x.stands < y.stands
 ·simp [h1]
 ·by_cases h2 : y.stands < x.stands <;> simp [h1, h2]
theorem swoT : SWO (ltOf cmpT) where
 irrefl x := by rw [ltT]; simp
 trans x y z h1 h2 := by rw [ltT] at *; simp at *; omega
 ntrans x y z h1 h2 := by rw [ltT] at *; simp at *; omega
theorem order1_grow (s t : Sx.Tn) (w : World) : Calls Tryz.prog 125 #[turnV s, turnV t] w fun e w' => e = .returned (.int .i64 (cmpT s t)) ∧ ∃ q os', w' = grow (w.drewN q) os' := by
 go_enter Tryz.func125, Tryz.ntmps125
 go_wp2_with (go_at_call 126; refine (compare_any _ _ _).mono ?_; rintro e w1 ⟨rfl, rfl⟩)
 go_ret
 exact ⟨rfl, 0, _, by rw [alloc_eq_grow, alloc_eq_grow, grow_grow]; rfl⟩
theorem cmpLaysT (blk off size : Nat) (w : World) : CmpLays Tryz.prog 125 #[] turnC 4 cmpT blk off size w := fun _ _ _ _ x y => order1_grow x y _
theorem grownBy_sortedT {w : World} {g n : Nat} {os : Array Obj} (d : Array Sx.Tn) : w.grownBy (sortWorldK turnC 4 w g 0 n d os) (some g) := by
 refine ⟨rfl, rfl, rfl, by simp [sortWorldK, putRowK], fun k hk hne => ?_⟩
 unfold sortWorldK putRowK
 rw [heap_grow_old _ _ (by simpa using hk)]
 have : g ≠ k := fun e => hne (by rw [e])
 simp [putRow, mapBlock, Sort.ahead, Array.getElem?_modify, this]
theorem holdsT {w : World} {g : Nat} {cur : Array Value} {e : TypeId} {ts : List Sx.Tn} (hb : w.heap[g]? = some (.cells cur e (0, 0))) (ht : cur.toList.take (ts.length * 4) = ts.flatMap turnC) : HoldsK turnC 4 w g 0 ts.toArray := by
 intro j hj
 rw [size_flatK] at hj
 have hj' : j < ts.length * 4 := by simpa using hj
 refine ⟨?_, by simp [World.frozen?, hb]⟩
 rw [get_flatK _ _ _ _ hj]
 have hi : j / 4 < ts.length := by omega
 have hx : ts[j / 4]? = some ts[j / 4] := List.getElem?_eq_getElem hi
 have hc : (turnC ts[j / 4])[j % 4]? = some ((turnC ts[j / 4])[j % 4]'(by show j % 4 < 4; omega)) := List.getElem?_eq_getElem _
 have q := flat_get turnC (z := 4) (fun _ => rfl) ts (j / 4) _ hx (j % 4) _ hc
 rw [show j / 4 * 4 + j % 4 = j by omega] at q
 have h1 : (cur.toList.take (ts.length * 4))[j]? = (ts.flatMap turnC)[j]? := by rw [ht]
 rw [List.getElem?_take_of_lt hj', q] at h1
 simp only [World.cell?, hb, Nat.zero_add]
 simp only [Option.isSome_none, Bool.false_eq_true, if_false]
 rw [← Array.getElem?_toList, h1]
 simp [hi]
 rw [hc]; rfl
theorem rd_holdsT {w : World} {g n cap : Nat} {d : Array Sx.Tn} (hH : HoldsK turnC 4 w g 0 d) (hg : g < w.heap.size) (hn : d.size = n) : RdTurns w (.slice (some ⟨g, 0, none⟩) n cap) d.toList := by
 refine ⟨some ⟨g, 0, none⟩, cap, by simp [hn], fun _ => ⟨g, 0, rfl, hg, fun i x hx k u hu => ?_⟩⟩
 have hi : i < d.size := by have := (List.getElem?_eq_some_iff.1 hx).1; simpa using this
 have hk : k < 4 := (List.getElem?_eq_some_iff.1 hu).1
 have q := (HoldsK.cell hH hi hk).1
 have ex : d[i]! = x := by
  rw [getElem!_pos d i hi]
  have := (List.getElem?_eq_some_iff.1 hx).2
  simpa using this
 have eu : (turnC x)[k]! = u := by
  rw [getElem!_pos _ k (by show k < 4; exact hk)]
  exact (List.getElem?_eq_some_iff.1 hu).2
 rw [ex, eu] at q
 exact q
def Ordered (ts o : List Sx.Tn) : Prop := o.Perm ts ∧ Sx.SortedT o
theorem ordered_nil : Ordered [] [] := ⟨.refl _, by simp [Sx.SortedT]⟩
theorem ordered_of {ts : List Sx.Tn} {d : Array Sx.Tn} (hp : PermIn 0 ts.toArray.size ts.toArray d) (hs : SortedIn (ltOf cmpT) 0 ts.toArray.size d) : Ordered ts d.toList := by
 obtain ⟨h1, _, h3⟩ := hp
 refine ⟨?_, ?_⟩
 ·have e1 : d.extract 0 ts.toArray.size = d := by rw [← h1]; simp
  have e2 : ts.toArray.extract 0 ts.toArray.size = ts.toArray := by simp
  rw [e1, e2] at h3
  simpa using h3
 ·refine List.pairwise_iff_getElem.2 fun i j hi hj hij => ?_
  have hj' : j < d.size := by simpa using hj
  have q := hs i j (Nat.zero_le _) hij (by rw [← h1]; exact hj')
  rw [ltT, getElem!_pos d j hj', getElem!_pos d i (by omega)] at q
  simp at q
  simpa using q
theorem sortTurns_any (ts : List Sx.Tn) (v : Value) (B : Nat) (w : World) (h : w.ownsRow B 120 4 v ts.length (ts.flatMap turnC)) (hl : ts.length ≤ 10000) :
  Calls Tryz.prog 173 #[v, .func (.func 125) #[] #[]] w fun e w' => e = .returned (.tuple #[]) ∧ (∃ o, Ordered ts o ∧ RdTurns w' v o) ∧ ∃ r, w.grownBy w' r ∧ ∀ k, r = some k → B ≤ k := by
 rcases h.2 with ⟨rfl, h0⟩ | ⟨g, cap, cur, rfl, hB, hg, h1, h2, h3, h4⟩
 ·have e : ts = [] := List.length_eq_zero_iff.1 h0
  subst e
  have hcon := AnyF.slices_SortFunc_none Tryz.laysSortTurn none 0 (.func (.func 125) #[] #[]) w
  change Calls Tryz.prog 173 _ _ _ at hcon
  refine hcon.mono ?_
  rintro e w' ⟨rfl, rfl⟩
  exact ⟨rfl, ⟨[], ordered_nil, rd_nil⟩, none, ⟨rfl, rfl, rfl, Nat.le_refl _, fun _ _ _ => rfl⟩, fun k e => by cases e⟩
 ·have hgl : g < w.heap.size := (Array.getElem?_eq_some_iff.1 hg).1
  have hH := holdsT hg h4
  have eg : ∀ args w, (callFunc 125 args).run Tryz.prog w = .ok (.enter 125 args) w := enters_of Tryz.func125 (by kernel_rfl) rfl
  have hcon := AnyQ.slices_SortFunc Tryz.laysSortTurn 4 Tryz.isAgg120 Tryz.sizeOf120 turnC (fun _ => rfl) turn_one cmpT swoT 125 #[] g 0 cap ts.toArray w eg (cmpLaysT g 0 _ w) hH hgl (by simp; omega)
  change Calls Tryz.prog 173 _ _ _ at hcon
  refine hcon.mono ?_
  rintro e w' ⟨rfl, d', n, os, hp, hs, rfl⟩
  have hH' := holdsK_sortWorldK_c turnC 4 w g 0 ts.toArray d' n os hH hgl hp.1
  refine ⟨rfl, ⟨d'.toList, ordered_of hp hs, rd_holdsT hH' (Nat.lt_of_lt_of_le hgl (size_sortWorldK_c turnC 4 w g 0 n d' os)) (by rw [hp.1]; simp)⟩, some g, grownBy_sortedT d', fun k e => by cases e; exact hB⟩
theorem inOrder_any (Bl Bn : Nat) (rs : List Sx.Rl) (name : Tx.Bs) (ra : Option Addr) (rcap : Nat) (w : World) (h : RdRules w (.slice ra rs.length rcap) rs) (hok : ∀ r ∈ rs, Sx.RuleOk r) (hrs : rs.length ≤ 40)
  (cl : w.cell? ⟨Bl, 0, none⟩ = some (.slice ra rs.length rcap)) (cn : w.cell? ⟨Bn, 0, none⟩ = some (strV name)) (hBl : Bl < w.heap.size) (hBn : Bn < w.heap.size) :
  Calls Tryz.prog 124 #[.func (.func 127) #[] #[.pointer (some ⟨Bl, 0, none⟩), .pointer (some ⟨Bn, 0, none⟩)], .func (.func 125) #[] #[]] w
   fun e w' => ∃ v o, e = .returned v ∧ Ordered (Sx.turnsOf rs name) o ∧ RdTurns w' v o ∧ Below w.heap.size w w' := by
 have HF := hid (turns_few (name := name) hok hrs)
 have C := hid (collect_any Bl Bn rs name ra rcap w h hok hrs cl cn hBl hBn HF.out)
 clear h hok cl cn
 go_enter Tryz.func124, Tryz.ntmps124
 go_wp2_with fail
 refine C.out.mono ?_
 rintro e w1 ⟨v, rfl, hown, hb⟩
 have C2 := hid (sortTurns_any _ v w.heap.size w1 hown HF.out)
 have B1 := hid hb
 obtain ⟨sa, sc, rfl⟩ := owns_shape0 hown
 clear hown hb
 go_wp2_with fail
 refine C2.out.mono ?_
 rintro e w2 ⟨rfl, ⟨o, ho, hrd⟩, r, hg, hr⟩
 have B2 := B1.out.grown hg B1.out.size hr
 have HO := hid ho
 have HRD := hid hrd
 have HB2 := hid B2
 clear ho hrd hg hr B2
 go_wp2
 go_ret
 exact ⟨_, o, rfl, HO.out, HRD.out, HB2.out⟩
theorem pInOrder_any (Bl Bn : Nat) (rs : List Sx.Rl) (name : Tx.Bs) (ra : Option Addr) (rcap : Nat) (w : World) (h : RdRules w (.slice ra rs.length rcap) rs) (hok : ∀ r ∈ rs, Sx.RuleOk r) (hrs : rs.length ≤ 40)
  (cl : w.cell? ⟨Bl, 0, none⟩ = some (.slice ra rs.length rcap)) (cn : w.cell? ⟨Bn, 0, none⟩ = some (strV name)) (hBl : Bl < w.heap.size) (hBn : Bn < w.heap.size) :
  Calls Tryz.prog 65 #[.func (.func 127) #[] #[.pointer (some ⟨Bl, 0, none⟩), .pointer (some ⟨Bn, 0, none⟩)]] w
   fun e w' => ∃ v o, e = .returned v ∧ Ordered (Sx.turnsOf rs name) o ∧ RdTurns w' v o ∧ Below w.heap.size w w' := by
 have C := hid (inOrder_any Bl Bn rs name ra rcap w h hok hrs cl cn hBl hBn)
 clear h hok cl cn
 go_enter Tryz.func65, Tryz.ntmps65
 go_wp2_with fail
 refine C.out.mono ?_
 rintro e w1 ⟨v, o, rfl, ho, hrd, hb⟩
 obtain ⟨sa, sc, rfl⟩ := rd_shape hrd
 have HO := hid ho
 have HRD := hid hrd
 have HB := hid hb
 clear ho hrd hb
 go_wp2
 go_ret
 exact ⟨_, o, rfl, HO.out, HRD.out, HB.out⟩
end
namespace Sx

theorem src_ok {rs : List Rl} (h : srcE ⟨rs, [], []⟩ = 0) : rs.length ≤ 40 ∧ ∀ r ∈ rs, RuleOk r := by
 by_cases h40 : rs.length ≤ 40
 ·refine ⟨h40, fun r hr => rule_ok (firstE_zero ruleE ?_ r hr)⟩
  have hm : manyB (⟨rs, [], []⟩ : Sr) = false := by simp [manyB]; omega
  rw [src_few hm] at h
  unfold orE at h
  split at h
  ·assumption
  ·rename_i q; simpa using q
 ·rw [src_many (by simp [manyB]; omega)] at h
  omega
structure TimesOk (rs : List Rl) (name : Tx.Bs) (shift : Int) : Prop where
 src : srcE ⟨rs, [], []⟩ = 0
 s1 : -64800 ≤ shift
 s2 : shift ≤ 64800
 some : turnsOf rs name ≠ []
 apart_ : apart (isort (turnsOf rs name)) = true
 few : (turnsOf rs name).length ≤ 1000
 is : times rs name shift = timesFrom shift 0 (isort (turnsOf rs name))
theorem times_ok {rs : List Rl} {name : Tx.Bs} {shift : Int} (h : timesE rs name shift = 0) : TimesOk rs name shift := by
 have hi : times rs name shift = timesFrom shift 0 (isort (turnsOf rs name)) := by unfold times; rw [if_pos h]
 unfold timesE at h
 split at h
 ·rename_i q; exact absurd h q
 rename_i q1
 split at h
 ·omega
 rename_i q2
 split at h
 ·omega
 rename_i q3
 split at h
 ·omega
 rename_i q4
 split at h
 ·omega
 rename_i q5
 simp [inB] at q2
 exact ⟨by simpa using q1, by omega, by omega, by simpa using q3, by simpa using q4, by omega, hi⟩
theorem times_no {rs : List Rl} {name : Tx.Bs} {shift : Int} (h : timesE rs name shift ≠ 0) : times rs name shift = [] := by unfold times; rw [if_neg h]
theorem turns_bd {rs : List Rl} {name : Tx.Bs} (h : ∀ r ∈ rs, RuleOk r) : ∀ t ∈ turnsOf rs name, -1000000000000 ≤ t.stands ∧ t.stands ≤ 1000000000000 := by
 intro t ht
 simp only [turnsOf, List.mem_flatMap, List.mem_filter, turnsR, List.mem_map, List.mem_range] at ht
 obtain ⟨r, ⟨hr, _⟩, k, hk, rfl⟩ := ht
 have ok := h r hr
 have h1 := ok.frm
 have h2 := ok.le
 have h3 := ok.to
 have h4 := ok.at_
 simp only [many] at hk
 have b := (on_year ok (y := r.frm + (k : Int)) (by omega) (by omega)).2
 simp only [turnIn]
 omega
end Sx
section
open Go.RowKit Go.Shelf

namespace Sx
def timeS (shift : Int) (x : Tn × Tn) : Tm := timeOf shift x.1.save x.2
theorem times_steps (shift : Int) : ∀ (l : List Tn) (p : Tn), timesFrom shift p.save l = (stepsFrom p l).map (timeS shift)
 | [], _ => rfl
 | t :: r, p => by simp only [timesFrom, stepsFrom, List.map_cons, times_steps shift r t]; rfl
end Sx
theorem turnsE_is {rs : List Sx.Rl} {name : Tx.Bs} {shift : Int} {o : List Sx.Tn} (hs : Sx.srcE ⟨rs, [], []⟩ = 0) (h1 : -64800 ≤ shift) (h2 : shift ≤ 64800) (ho : Ordered (Sx.turnsOf rs name) o) :
  turnsE o = Sx.timesE rs name shift ∧ (turnsE o = 0 → Sx.times rs name shift = (Sx.stepsOf o).map (Sx.timeS shift)) := by
 have ok := (Sx.src_ok hs).2
 obtain ⟨hp, hso⟩ := ho
 have hlen := hp.length_eq
 obtain ⟨a1, a2⟩ := Sx.ordered hp hso
 have hbd : ∀ t ∈ o, -1000000000000 ≤ t.stands := fun t ht => (Sx.turns_bd ok t (hp.mem_iff.1 ht)).1
 have hcl := Sx.close_apart hbd
 have hB : Sx.inB shift (-64800) 64800 = true := by simp [Sx.inB]; omega
 have key : turnsE o = Sx.timesE rs name shift := by
  have e2 : Sx.timesE rs name shift = if (Sx.turnsOf rs name).isEmpty = true then 5 else if Sx.apart (Sx.isort (Sx.turnsOf rs name)) = false then 4 else if 1000 < (Sx.turnsOf rs name).length then 2 else 0 := by
   unfold Sx.timesE
   rw [if_neg (show ¬ Sx.srcE ⟨rs, [], []⟩ ≠ 0 by simp [hs]), if_neg (show ¬ Sx.inB shift (-64800) 64800 = false by simp [hB])]
  have he : o.isEmpty = (Sx.turnsOf rs name).isEmpty := by
   cases q : (Sx.turnsOf rs name) <;> cases q' : o <;> simp [q, q'] at hlen ⊢
  rw [e2]
  unfold turnsE
  rw [hcl, a1, hlen, he]
  cases Sx.apart (Sx.isort (Sx.turnsOf rs name)) <;> simp
 refine ⟨key, fun h0 => ?_⟩
 have h0' := key.symm.trans h0
 have k := Sx.times_ok h0'
 rw [k.is]
 have e : o = Sx.isort (Sx.turnsOf rs name) := a2 (by rw [a1]; exact k.apart_)
 rw [← e]
 exact Sx.times_steps shift o Sx.ago
end
section
open Go.RowKit Go.Shelf
attribute [local go_sem] Oper.semAt_some

def OwnTimes (w : World) (B : Nat) (v : Value) (l : List Sx.Tm) : Prop := w.ownsRow B 72 3 v l.length (l.flatMap timeC)
def TimesEnd (rs : List Sx.Rl) (name : Tx.Bs) (shift : Int) (w : World) (e : Ending) (w' : World) : Prop :=
 ∃ v, e = .returned (.tuple #[v, .int .i64 (Sx.timesE rs name shift)]) ∧ OwnTimes w' w.heap.size v (Sx.times rs name shift) ∧ Below w.heap.size w w'
theorem times_none {rs : List Sx.Rl} {name : Tx.Bs} {shift E : Int} {w w' : World} (hE : Sx.timesE rs name shift = E) (h : E ≠ 0) (hb : Below w.heap.size w w') : TimesEnd rs name shift w (.returned (.tuple #[.slice none 0 0, .int .i64 E])) w' := by
 refine ⟨_, by rw [hE], ?_, hb⟩
 unfold OwnTimes
 rw [Sx.times_no (by rw [hE]; exact h)]
 exact World.ownsRow_nil _ _ _ _
theorem Tryz.infoTime : (Tryz.prog.info? 72).map (fun i => (i.zero, i.size, i.bytes)) = some (some (.agg #[.int .i64 0, .int .i64 0, .string ⟨#[]⟩]), 3, 32) := by kernel_rfl
theorem time_one (x : Sx.Tm) : ∀ u ∈ timeC x, u.oneCell' = true := by
 intro u hu; simp only [timeC, List.mem_cons, List.not_mem_nil, or_false] at hu; rcases hu with rfl | rfl | rfl <;> rfl
theorem time_cells (w : World) (x : Sx.Tm) {e : TypeId} : ∀ (j : Nat) (u : Value), (timeC x)[j]? = some u → (w.alloc (.cells #[.int .i64 x.at_, .int .i64 x.save, strV x.letter] e)).cell? ((⟨w.heap.size, 0, none⟩ : Addr).add j) = some u := new_cells w (timeC x)

theorem times_wrong (rs : List Sx.Rl) (rv : Value) (name : Tx.Bs) (shift : Int) (w : World) (h : RdRules w rv rs) (hs : ∀ r ∈ rs, r.name.length ≤ maxLen ∧ r.letter.length ≤ maxLen) (hE : Sx.srcE ⟨rs, [], []⟩ ≠ 0) :
  Calls Tryz.prog 28 #[rv, strV name, .int .i64 shift] w (TimesEnd rs name shift w) := by
 obtain ⟨ra, rcap, rfl⟩ := rd_shape h
 have BV := hid ((Below.refl w.heap.size w).alloc (Nat.le_refl _) (.cells #[.int .i64 shift] 3))
 have C := hid (sCheckRules_any rs _ _ (rd_below h BV.out) hs)
 have HT : Hid (Sx.timesE rs name shift = Sx.srcE ⟨rs, [], []⟩) := by show _ = _; unfold Sx.timesE; rw [if_pos hE]
 obtain ⟨E, hEE⟩ : ∃ E, Sx.srcE ⟨rs, [], []⟩ = E := ⟨_, rfl⟩
 rw [hEE] at hE C HT
 have hne : (E != 0) = true := by simp [hE]
 have HE := hid hE
 clear h hs hE hEE
 go_enter Tryz.func28, Tryz.ntmps28
 go_wp2_with fail
 refine C.out.mono ?_
 rintro e w1 ⟨rfl, hb⟩
 have B1 : Hid (Below w.heap.size w w1) := BV.out.trans (hb.mono BV.out.size)
 clear hb
 go_wp2
 go_ret2
 exact times_none HT.out HE.out B1.out
theorem times_range (rs : List Sx.Rl) (rv : Value) (name : Tx.Bs) (shift : Int) (w : World) (h : RdRules w rv rs) (hs : ∀ r ∈ rs, r.name.length ≤ maxLen ∧ r.letter.length ≤ maxLen) (hE : Sx.srcE ⟨rs, [], []⟩ = 0) (hsh : ¬ (-64800 ≤ shift ∧ shift ≤ 64800)) :
  Calls Tryz.prog 28 #[rv, strV name, .int .i64 shift] w (TimesEnd rs name shift w) := by
 obtain ⟨ra, rcap, rfl⟩ := rd_shape h
 have BV := hid ((Below.refl w.heap.size w).alloc (Nat.le_refl _) (.cells #[.int .i64 shift] 3))
 have SV := hid (ca_new w [.int .i64 shift] 3)
 have C := hid (sCheckRules_any rs _ _ (rd_below h BV.out) hs)
 have HT : Hid (Sx.timesE rs name shift = 3) := by show _ = _; unfold Sx.timesE; rw [if_neg (by simp [hE]), if_pos (by simp [Sx.inB]; omega)]
 rw [hE] at C
 have HS := hid hsh
 clear h hs hE hsh
 by_cases h1 : shift < -64800
 all_goals
  go_enter Tryz.func28, Tryz.ntmps28
  go_wp2_with fail
  refine C.out.mono ?_
  rintro e w1 ⟨rfl, hb⟩
  have B1 : Hid (Below w.heap.size w w1) := BV.out.trans (hb.mono BV.out.size)
  obtain ⟨s0, s1⟩ := ca_at (ca_below SV.out hb) 0 rfl
  have ss := (ca_below SV.out hb).1
  have h2 : ¬ shift < -64800 → 64800 < shift := fun q => by have := HS.out; omega
  clear hb
  try (have h2 := h2 h1)
  go_wp2
  go_ret2
  exact times_none HT.out (by decide) B1.out
end
section
open Go.RowKit Go.Shelf
attribute [local go_sem] Oper.semAt_some

theorem times_turns (rs : List Sx.Rl) (rv : Value) (name : Tx.Bs) (shift : Int) (w : World) (h : RdRules w rv rs) (hs : ∀ r ∈ rs, r.name.length ≤ maxLen ∧ r.letter.length ≤ maxLen) (hE : Sx.srcE ⟨rs, [], []⟩ = 0) (s1 : -64800 ≤ shift) (s2 : shift ≤ 64800) (hT : Sx.timesE rs name shift ≠ 0) :
  Calls Tryz.prog 28 #[rv, strV name, .int .i64 shift] w (TimesEnd rs name shift w) := by
 obtain ⟨ra, rcap, rfl⟩ := rd_shape h
 have BV := hid ((Below.refl w.heap.size w).alloc (Nat.le_refl _) (.cells #[.int .i64 shift] 3))
 have SV := hid (ca_new w [.int .i64 shift] 3)
 have C := hid (sCheckRules_any rs _ _ (rd_below h BV.out) hs)
 have HOK := hid (Sx.src_ok hE)
 rw [hE] at C
 have H := hid h
 have HT := hid hT
 have HE := hid hE
 have n1 : ¬ shift < -64800 := by omega
 have n2 : ¬ 64800 < shift := by omega
 have HS : Hid (-64800 ≤ shift ∧ shift ≤ 64800) := ⟨s1, s2⟩
 clear h hs hE hT s1 s2
 go_enter Tryz.func28, Tryz.ntmps28
 go_wp2_with fail
 refine C.out.mono ?_
 rintro e w1 ⟨rfl, hb⟩
 have B1 : Hid (Below w.heap.size w w1) := BV.out.trans (hb.mono BV.out.size)
 have X1 := hid (ca_below SV.out hb)
 obtain ⟨t0, t1⟩ := ca_at X1.out 0 rfl
 have ss := X1.out.1
 clear hb BV SV C
 go_wp2_with fail
 refine (turns_any _ _ _ ra rs.length rcap rfl).mono ?_
 rintro e w2 ⟨rfl, hw2⟩
 have q1 : w2.cell? ⟨w1.heap.size, 0, none⟩ = some (.slice ra rs.length rcap) := by
  have := ca_at (ca_alloc (ca_new w1 [.slice ra rs.length rcap] 22) (.cells #[strV name] 9)) 0 rfl
  rw [hw2]; exact this.1
 have q2 : w2.cell? ⟨w1.heap.size + 1, 0, none⟩ = some (strV name) := by
  have := ca_at (ca_new (w1.alloc (.cells #[.slice ra rs.length rcap] 22)) [strV name] 9) 0 rfl
  rw [World.size_alloc] at this
  rw [hw2]; exact this.1
 have z2 : w2.heap.size = w1.heap.size + 2 := by rw [hw2]; simp
 have B2 : Hid (Below w.heap.size w w2) := by
  show Below _ _ _
  rw [hw2]; exact (B1.out.alloc B1.out.size _).alloc (by have := B1.out.size; simp; omega) _
 have C2 := hid (pInOrder_any w1.heap.size (w1.heap.size + 1) rs name ra rcap w2 (rd_below H.out B2.out) HOK.out.2 HOK.out.1 q1 q2 (by omega) (by omega))
 have S2 : Hid (w.heap.size < w2.heap.size) := by show _ < _; have := ss; omega
 clear hw2 q1 q2 z2 t0 t1 ss X1
 go_wp2_with fail
 refine C2.out.mono ?_
 rintro e w3 ⟨v, o, rfl, hord, hrd, hb⟩
 have B3 : Hid (Below w.heap.size w w3) := B2.out.trans (hb.mono B2.out.size)
 obtain ⟨K, hK⟩ := Nat.exists_eq_add_of_le (Nat.zero_le 0)
 have KT := hid (turnsE_is HE.out HS.out.1 HS.out.2 hord)
 have C3 := hid (checkTurns_any o v w3 hrd (by have := hord.1.length_eq; have := turns_few (name := name) HOK.out.2 HOK.out.1; omega) (fun t ht => Sx.turns_bd HOK.out.2 t (hord.1.mem_iff.1 ht)))
 have KE : Hid (Sx.timesE rs name shift = turnsE o) := KT.out.1.symm
 obtain ⟨E, hEE⟩ : ∃ E, turnsE o = E := ⟨_, rfl⟩
 rw [hEE] at C3 KE
 have hne0 : E ≠ 0 := by rw [← KE.out]; exact HT.out
 have hne : (E != 0) = true := by simp [hne0]
 have HN := hid hne0
 obtain ⟨oa, oc, rfl⟩ := rd_shape hrd
 clear hEE KT hord hrd hb C2 hK hne0
 go_wp2_with fail
 refine C3.out.mono ?_
 rintro e w4 ⟨rfl, hb⟩
 have B4 : Hid (Below w.heap.size w w4) := B3.out.trans (hb.mono B3.out.size)
 clear hb
 go_wp2
 go_ret2
 exact times_none KE.out HN.out B4.out
end
section
open Go.RowKit Go.Shelf
attribute [local go_sem] Oper.semAt_some

theorem ownC_row {β : Type} {B n0 Bs g L size : Nat} {t e : TypeId} (k : β → Nat) (xs : β → List Value) (hBs : Bs < B) (hg : g < B) :
  OwnC B (fun (s : β) W => Boxed W Bs t (.slice (some ⟨g, 0, none⟩) (k s) L) ∧ W.ownsRow n0 e size (.slice (some ⟨g, 0, none⟩) (k s) L) (k s) (xs s)) :=
 fun s W W' row hs hgr hr => ⟨hs.1.kept hgr (fun q => by have := (hr Bs q.symm).1; omega), hs.2.kept hgr (.inr fun q => by have := (hr g q.symm).1; omega)⟩
def HeldB (N Bx : Nat) (shift : Int) (p t : Sx.Tn) (w : World) : Prop := w.cell? ⟨N, 0, none⟩ = some (.int .i64 shift) ∧ w.cell? ⟨Bx, 0, none⟩ = some (.int .i64 p.stands) ∧ w.cell? ⟨Bx, 1, none⟩ = some (.int .i64 p.clock) ∧ w.cell? ⟨Bx, 2, none⟩ = some (.int .i64 p.save) ∧ w.cell? ⟨Bx, 3, none⟩ = some (strV p.letter) ∧ w.cell? ⟨Bx, 4, none⟩ = some (.int .i64 t.stands) ∧ w.cell? ⟨Bx, 5, none⟩ = some (.int .i64 t.clock) ∧ w.cell? ⟨Bx, 6, none⟩ = some (.int .i64 t.save) ∧ w.cell? ⟨Bx, 7, none⟩ = some (strV t.letter)
theorem held_below {N Bx : Nat} {shift : Int} {p t : Sx.Tn} {A B : World} (h : HeldB N Bx shift p t A) (hb : Below A.heap.size A B) (hN : N < A.heap.size) (hx : Bx < A.heap.size) : HeldB N Bx shift p t B := by
 obtain ⟨a, b0, b1, b2, b3, b4, b5, b6, b7⟩ := h
 have e := fun k => hb.cell (p := ⟨Bx, k, none⟩) hx
 exact ⟨(hb.cell (p := ⟨N, 0, none⟩) hN).trans a, (e 0).trans b0, (e 1).trans b1, (e 2).trans b2, (e 3).trans b3, (e 4).trans b4, (e 5).trans b5, (e 6).trans b6, (e 7).trans b7⟩
theorem held_grown {N Bx g : Nat} {shift : Int} {p t : Sx.Tn} {A B : World} (h : HeldB N Bx shift p t A) (hb : A.grownBy B (some g)) (hN : N < A.heap.size) (hx : Bx < A.heap.size) (n1 : N ≠ g) (n2 : Bx ≠ g) : HeldB N Bx shift p t B := by
 obtain ⟨a, b0, b1, b2, b3, b4, b5, b6, b7⟩ := h
 have e : ∀ k, B.cell? ⟨Bx, k, none⟩ = A.cell? ⟨Bx, k, none⟩ := fun k => World.cell?_of_block (w := A) (hb.block _ hx (by intro q; exact n2 (by injection q)))
 have e' : B.cell? ⟨N, 0, none⟩ = A.cell? ⟨N, 0, none⟩ := World.cell?_of_block (w := A) (hb.block _ hN (by intro q; exact n1 (by injection q)))
 exact ⟨e'.trans a, (e 0).trans b0, (e 1).trans b1, (e 2).trans b2, (e 3).trans b3, (e 4).trans b4, (e 5).trans b5, (e 6).trans b6, (e 7).trans b7⟩
theorem held_set {N Bx g : Nat} {shift : Int} {p t : Sx.Tn} {A : World} {v : Value} (h : HeldB N Bx shift p t A) (n1 : N ≠ g) (n2 : Bx ≠ g) : HeldB N Bx shift p t (A.setCell ⟨g, 0, none⟩ v) := by
 obtain ⟨a, b0, b1, b2, b3, b4, b5, b6, b7⟩ := h
 have e : ∀ k, (A.setCell ⟨g, 0, none⟩ v).cell? ⟨Bx, k, none⟩ = A.cell? ⟨Bx, k, none⟩ := fun k => World.cell?_of_block (w := A) (Below.heap_setCell _ _ _ _ n2)
 have e' : (A.setCell ⟨g, 0, none⟩ v).cell? ⟨N, 0, none⟩ = A.cell? ⟨N, 0, none⟩ := World.cell?_of_block (w := A) (Below.heap_setCell _ _ _ _ n1)
 exact ⟨e'.trans a, (e 0).trans b0, (e 1).trans b1, (e 2).trans b2, (e 3).trans b3, (e 4).trans b4, (e 5).trans b5, (e 6).trans b6, (e 7).trans b7⟩
theorem app_end {G Bs N L k : Nat} {tT T : TypeId} {w4 W w7 w9 : World} {tmp o : Obj} {xs news : List Value} (ib : Boxed W Bs tT (.slice (some ⟨G, 0, none⟩) k L)) (ir : W.ownsRow G T 3 (.slice (some ⟨G, 0, none⟩) k L) k xs)
  (iN : W.heap[N]? = some o) (iB : Below G w4 W) (BB : Below W.heap.size W w7) (hGB : G < Bs) (hNG : N < G) (hte : tT ≠ T)
  (hown9 : w9.ownsRow G T 3 (.slice (some ⟨G, 0, none⟩) (k + 1) L) (k + 1) (xs ++ news)) (hgrow9 : (w7.alloc tmp).grownBy w9 (some G)) :
  Boxed w9 Bs tT (.slice (some ⟨G, 0, none⟩) k L) ∧ KeepsOthers W (w9.setCell ⟨Bs, 0, none⟩ (.slice (some ⟨G, 0, none⟩) (k + 1) L)) ∧ Kp G T Bs W (w9.setCell ⟨Bs, 0, none⟩ (.slice (some ⟨G, 0, none⟩) (k + 1) L)) ∧
  Boxed (w9.setCell ⟨Bs, 0, none⟩ (.slice (some ⟨G, 0, none⟩) (k + 1) L)) Bs tT (.slice (some ⟨G, 0, none⟩) (k + 1) L) ∧ (w9.setCell ⟨Bs, 0, none⟩ (.slice (some ⟨G, 0, none⟩) (k + 1) L)).ownsRow G T 3 (.slice (some ⟨G, 0, none⟩) (k + 1) L) (k + 1) (xs ++ news) ∧
  (w9.setCell ⟨Bs, 0, none⟩ (.slice (some ⟨G, 0, none⟩) (k + 1) L)).heap[N]? = some o ∧ Below G w4 (w9.setCell ⟨Bs, 0, none⟩ (.slice (some ⟨G, 0, none⟩) (k + 1) L)) := by
 have lb := ib.lt
 have ib7 : Boxed w7 Bs tT (.slice (some ⟨G, 0, none⟩) k L) := (BB.block _ lb).trans ib
 have r7 := owns_below ir BB
 obtain ⟨q1, q2, q3, q4, q5⟩ := ib7.appended hte r7 (by have := BB.size; omega) (Nat.le_of_lt hGB) hown9 hgrow9
 have lN := (Array.getElem?_eq_some_iff.1 iN).1
 have n7 := (BB.block _ lN).trans iN
 have bw : Below G W (w9.setCell ⟨Bs, 0, none⟩ (.slice (some ⟨G, 0, none⟩) (k + 1) L)) := (BB.mono (by omega)).trans q5
 exact ⟨q1, (keeps_below BB).trans q4, ⟨bw, keepT_t (kp_grow BB (Nat.le_refl _)).2 (keepT_app r7 hgrow9)⟩, q2, q3, (q5.block _ hNG).trans n7, iB.trans bw⟩
theorem times_good (rs : List Sx.Rl) (rv : Value) (name : Tx.Bs) (shift : Int) (w : World) (h : RdRules w rv rs) (hs : ∀ r ∈ rs, r.name.length ≤ maxLen ∧ r.letter.length ≤ maxLen) (hT : Sx.timesE rs name shift = 0) :
  Calls Tryz.prog 28 #[rv, strV name, .int .i64 shift] w (TimesEnd rs name shift w) := by
 obtain ⟨ra, rcap, rfl⟩ := rd_shape h
 have HO := hid (Sx.times_ok hT)
 have BV := hid ((Below.refl w.heap.size w).alloc (Nat.le_refl _) (.cells #[.int .i64 shift] 3))
 have SV := hid (World.alloc_heap_new w (.cells #[.int .i64 shift] 3))
 have C := hid (sCheckRules_any rs _ _ (rd_below h BV.out) hs)
 have HOK := hid (Sx.src_ok HO.out.src)
 have HE := hid HO.out.src
 rw [HE.out] at C
 have H := hid h
 have n1 : ¬ shift < -64800 := by have := HO.out.s1; omega
 have n2 : ¬ 64800 < shift := by have := HO.out.s2; omega
 have HT := hid hT
 clear h hs hT
 refine (callsIn_wide (n := 4)).1 ?_
 refine callsIn_of_wp_marks Tryz.func28 rfl trivial ?_ rfl
 simp only [Tryz.ntmps28, List.size_toArray, List.length_cons, List.length_nil, Nat.reduceAdd, Nat.reduceSub, Array.replicate_succ, Array.replicate_zero, List.push_toArray, List.append_toArray, List.nil_append, List.cons_append]
 gi_wp2_with fail
 refine ⟨trivial, (callsIn_wide.2 C.out).mono ?_⟩
 rintro e w1 ⟨rfl, hb⟩
 have S1 := (hb.block _ (Array.getElem?_eq_some_iff.1 SV.out).1).trans SV.out
 obtain ⟨t0, t1⟩ := ca_at (ca_heap2 (vs := [.int .i64 shift]) S1) 0 rfl
 have B1 : Hid (Below w.heap.size w w1) := BV.out.trans (hb.mono BV.out.size)
 have ss := (Array.getElem?_eq_some_iff.1 S1).1
 have HS1 := hid S1
 have L1 : Hid (w.heap.size < w1.heap.size) := ss
 clear hb S1 C SV BV
 gi_wp2_with fail
 refine ⟨trivial, (callsIn_wide.2 (turns_any _ _ _ ra rs.length rcap rfl)).mono ?_⟩
 rintro e w2 ⟨rfl, hw2⟩
 have q1 : w2.cell? ⟨w1.heap.size, 0, none⟩ = some (.slice ra rs.length rcap) := by
  have := ca_at (ca_alloc (ca_new w1 [.slice ra rs.length rcap] 22) (.cells #[strV name] 9)) 0 rfl
  rw [hw2]; exact this.1
 have q2 : w2.cell? ⟨w1.heap.size + 1, 0, none⟩ = some (strV name) := by
  have := ca_at (ca_new (w1.alloc (.cells #[.slice ra rs.length rcap] 22)) [strV name] 9) 0 rfl
  rw [World.size_alloc] at this
  rw [hw2]; exact this.1
 have z2 : w2.heap.size = w1.heap.size + 2 := by rw [hw2]; simp
 have B12 : Below w1.heap.size w1 w2 := by
  rw [hw2]; exact ((Below.refl _ w1).alloc (Nat.le_refl _) _).alloc (by simp) _
 have B2 : Hid (Below w.heap.size w w2) := B1.out.trans (B12.mono B1.out.size)
 have S2 := hid ((B12.block _ L1.out).trans HS1.out)
 have L2 : Hid (w.heap.size < w2.heap.size) := Nat.lt_of_lt_of_le L1.out B12.size
 have C2 := hid (pInOrder_any w1.heap.size (w1.heap.size + 1) rs name ra rcap w2 (rd_below H.out B2.out) HOK.out.2 HOK.out.1 q1 q2 (by omega) (by omega))
 clear hw2 q1 q2 z2 t0 t1 ss HS1 B12 B1 L1
 gi_wp2_with fail
 refine ⟨trivial, (callsIn_wide.2 C2.out).mono ?_⟩
 rintro e w3 ⟨v, o, rfl, hord, hrd, hb⟩
 have B3 : Hid (Below w.heap.size w w3) := B2.out.trans (hb.mono B2.out.size)
 have S3 := hid ((hb.block _ L2.out).trans S2.out)
 have L3 : Hid (w.heap.size < w3.heap.size) := Nat.lt_of_lt_of_le L2.out hb.size
 have KT := hid (turnsE_is HE.out HO.out.s1 HO.out.s2 hord)
 have HB := hid (fun t ht => Sx.turns_bd HOK.out.2 t (hord.1.mem_iff.1 ht))
 have HL : Hid (o.length ≤ 10000) := by show _ ≤ _; have := hord.1.length_eq; have := turns_few (name := name) HOK.out.2 HOK.out.1; omega
 have HSV : Hid (∀ t ∈ o, 0 ≤ t.save ∧ t.save ≤ 10800) := fun t ht => Sx.turns_save (fun r hr => (HOK.out.2 r hr).save) t (hord.1.mem_iff.1 ht)
 have C3 := hid (checkTurns_any o v w3 hrd HL.out HB.out)
 have hE0 : turnsE o = 0 := KT.out.1.trans HT.out
 have KX : Hid (Sx.times rs name shift = (Sx.stepsOf o).map (Sx.timeS shift)) := KT.out.2 hE0
 rw [hE0] at C3
 obtain ⟨oa, oc, rfl⟩ := rd_shape hrd
 have RD3 := hid hrd
 clear hE0 KT hord hrd hb C2 S2 L2 B2
 gi_wp2_with fail
 refine ⟨trivial, (callsIn_wide.2 C3.out).mono ?_⟩
 rintro e w4 ⟨rfl, hb⟩
 have B4 : Hid (Below w.heap.size w w4) := B3.out.trans (hb.mono B3.out.size)
 have S4 := hid ((hb.block _ L3.out).trans S3.out)
 have L4 : Hid (w.heap.size < w4.heap.size) := Nat.lt_of_lt_of_le L3.out hb.size
 have RD4 := hid (rd_below RD3.out hb)
 clear hb C3 RD3 S3 L3 B3
 obtain ⟨i0, hi, hz0, hz1, hz2⟩ := info_parts Tryz.infoTime
 have hl := HL.out
 gi_wp2_with (gi_at_make; refine wpListIn_make_own _ rfl _ _ 68 rfl w4.heap.size 72 i0 (.agg #[.int .i64 0, .int .i64 0, .string ⟨#[]⟩]) 3 Tryz.underlying68 hi hz0 hz1 _ _ _ o.length rfl rfl rfl (by rw [hz2]; omega) (by unfold maxLen; omega) (Nat.le_refl _) ?_; intro w5 hown5 hgrow5)
 refine ⟨trivial, (callsIn_wide.2 (steps_any oa o.length oc _)).mono ?_⟩
 rintro e w6 ⟨rfl, rfl⟩
 obtain ⟨G, hG⟩ : ∃ G, w4.heap.size = G := ⟨_, rfl⟩
 obtain ⟨Bs, hBs⟩ : ∃ Bs, w5.heap.size = Bs := ⟨_, rfl⟩
 obtain ⟨N, hN⟩ : ∃ N, w.heap.size = N := ⟨_, rfl⟩
 obtain ⟨Nt, hNt⟩ : ∃ Nt, w1.heap.size = Nt := ⟨_, rfl⟩
 have hGB : G < Bs := by
  rcases hown5.2 with ⟨h0, _⟩ | ⟨g, cap, cur, h0, _, hg, _⟩
  ·cases h0
  ·simp only [Value.slice.injEq, Option.some.injEq, Addr.mk.injEq] at h0
   rw [← h0.1.1] at hg
   have := (Array.getElem?_eq_some_iff.1 hg).1
   omega
 have hNG : N < G := by rw [← hN, ← hG]; exact L4.out
 have B5 : Below G w4 w5 := (Below.refl G w4).grown hgrow5 (by omega) (fun k e => by cases e)
 have S5 := (B5.block N hNG).trans (hN ▸ S4.out)
 rw [hG, hBs, hN, hNt]
 rw [show (w5.alloc (.cells #[.slice (some ⟨G, 0, none⟩) 0 o.length] 68)).heap.size = Bs + 1 by simp [hBs]]
 rw [hG] at hown5
 obtain ⟨V, hV⟩ : ∃ V, ((w5.alloc (.cells #[.slice (some ⟨G, 0, none⟩) 0 o.length] 68)).alloc (.cells #[.slice oa o.length oc] 110)) = V := ⟨_, rfl⟩
 rw [hV]
 have vS : V.heap.size = Bs + 2 := by rw [← hV]; simp [hBs]
 have vN : V.heap[N]? = some (.cells #[.int .i64 shift] 3) := by rw [← hV, Below.heap_alloc _ _ _ (by simp; omega), Below.heap_alloc _ _ _ (by omega)]; exact S5
 have vb : Boxed V Bs 68 (.slice (some ⟨G, 0, none⟩) 0 o.length) := by rw [← hV, ← hBs]; exact (Boxed.new w5 _ _).alloc _
 have vr : V.ownsRow G 72 3 (.slice (some ⟨G, 0, none⟩) 0 o.length) 0 [] := by rw [← hV]; exact (hown5.alloc _).alloc _
 have vo : V.cell? ⟨Bs + 1, 0, none⟩ = some (.slice oa o.length oc) := by
  have := ca_at (ca_new (w5.alloc (.cells #[.slice (some ⟨G, 0, none⟩) 0 o.length] 68)) [.slice oa o.length oc] 110) 0 rfl
  rw [World.size_alloc, hBs] at this
  rw [← hV]; exact this.1
 have vB : Below G w4 V := by rw [← hV]; exact (B5.alloc (by omega) _).alloc (by simp; omega) _
 have HGG := hid hG
 have HNN := hid hN
 clear hV hown5 hgrow5 S5 B5 hNt hBs S4 L4
 gi_wp2
 refine wpIn_range_c rfl (by omega) (gf := 131) (lb := #[.pointer (some ⟨Bs + 1, 0, none⟩)]) rfl trivial (enters_of Tryz.func131 (by kernel_rfl) rfl)
  (steps_stops 3 (Bs + 1) Bs (by omega) o oa oc w4 V RD4.out HL.out vo (by omega) (by omega) (hG ▸ vB)) kpC_t (kpC_b (by omega)) (Below.refl _ _) (fun _ => rfl)
  (fun (pre : List (Sx.Tn × Sx.Tn)) W => (Boxed W Bs 68 (.slice (some ⟨G, 0, none⟩) pre.length o.length) ∧ W.ownsRow G 72 3 (.slice (some ⟨G, 0, none⟩) pre.length o.length) pre.length ((pre.map (Sx.timeS shift)).flatMap timeC)) ∧ W.heap[N]? = some (.cells #[.int .i64 shift] 3) ∧ Below G w4 W)
  (fun _ _ _ => False)
  (OwnC.and (ownC_row (fun (pre : List (Sx.Tn × Sx.Tn)) => pre.length) (fun (pre : List (Sx.Tn × Sx.Tn)) => (pre.map (Sx.timeS shift)).flatMap timeC) (by omega) (by omega)) (OwnC.and (ownC_heap (by omega)) (ownC_below (by omega) (by omega))))
  (fun _ _ _ _ _ hs _ _ => hs)
  ⟨⟨vb, vr⟩, vN, vB⟩
  (fun x a' W => ∃ Bx, Bs + 1 < Bx ∧ W.heap[Bx]? = some (.cells (stepC x).toArray 122 (0, 0)) ∧ a' = { tmps := #[.slice ra rs.length rcap, strV name, .int .i64 shift, undef, undef, .pointer (some ⟨N, 0, none⟩), .slice none 0 0, .int .i64 0, .int .i64 0, .slice oa o.length oc, .int .i64 0, .pointer (some ⟨Bs, 0, none⟩), .pointer (some ⟨Bx, 0, none⟩), .slice ra rs.length rcap, .agg #[.slice ra rs.length rcap, .slice none 0 0, .slice none 0 0], .int .i64 0, .int .i64 0, .bool false, undef, .int .i64 shift, .bool (decide (shift < -64800)), .bool (decide (shift < -64800)), .int .i64 shift, .bool (decide (64800 < shift)), .bool (decide (shift < -64800) || decide (64800 < shift)), .slice ra rs.length rcap, strV name, .func (.func 127) #[] #[.pointer (some ⟨Nt, 0, none⟩), .pointer (some ⟨Nt + 1, 0, none⟩)], .slice oa o.length oc, .slice oa o.length oc, .int .i64 0, .int .i64 0, .bool false, undef, .slice oa o.length oc, .int .i64 ↑o.length, .slice (some ⟨G, 0, none⟩) 0 o.length, .slice oa o.length oc, .func (.func 131) #[] #[.pointer (some ⟨Bs + 1, 0, none⟩)], stepV x.1 x.2, undef, undef, undef, undef, undef, undef, undef], defers := [] })
  ?hAx ?assign ?body ?done ?stop
 case hAx =>
  rintro x a' _ X Y row ⟨Bx, q1, q2, q3⟩ hg hr
  refine ⟨Bx, q1, ?_, q3⟩
  rw [hg.block Bx (Array.getElem?_eq_some_iff.1 q2).1 (fun e => by obtain ⟨_, o, ho, hc⟩ := hr Bx e.symm; rw [q2] at ho; cases ho; simp [Obj.isCells] at hc)]
  exact q2
 case assign =>
  rintro l pre ⟨p, t⟩ W K ⟨⟨i0', i1⟩, iN, iB⟩ sz hK
  rw [vS] at sz
  have KB := hid ((Below.refl W.heap.size W).alloc (Nat.le_refl _) (.cells (stepC (p, t)).toArray 122))
  have R := hid (hK { tmps := #[.slice ra rs.length rcap, strV name, .int .i64 shift, undef, undef, .pointer (some ⟨N, 0, none⟩), .slice none 0 0, .int .i64 0, .int .i64 0, .slice oa o.length oc, .int .i64 0, .pointer (some ⟨Bs, 0, none⟩), .pointer (some ⟨W.heap.size, 0, none⟩), .slice ra rs.length rcap, .agg #[.slice ra rs.length rcap, .slice none 0 0, .slice none 0 0], .int .i64 0, .int .i64 0, .bool false, undef, .int .i64 shift, .bool (decide (shift < -64800)), .bool (decide (shift < -64800)), .int .i64 shift, .bool (decide (64800 < shift)), .bool (decide (shift < -64800) || decide (64800 < shift)), .slice ra rs.length rcap, strV name, .func (.func 127) #[] #[.pointer (some ⟨Nt, 0, none⟩), .pointer (some ⟨Nt + 1, 0, none⟩)], .slice oa o.length oc, .slice oa o.length oc, .int .i64 0, .int .i64 0, .bool false, undef, .slice oa o.length oc, .int .i64 ↑o.length, .slice (some ⟨G, 0, none⟩) 0 o.length, .slice oa o.length oc, .func (.func 131) #[] #[.pointer (some ⟨Bs + 1, 0, none⟩)], stepV p t, undef, undef, undef, undef, undef, undef, undef], defers := [] } (W.alloc (.cells (stepC (p, t)).toArray 122)) ((KeepsOthers.alloc _ _).from _) (kp_grow KB.out (by omega))
   ⟨⟨i0'.alloc _, i1.alloc _⟩, (KB.out.block _ (Array.getElem?_eq_some_iff.1 iN).1).trans iN, iB.alloc (by omega) _⟩ ⟨W.heap.size, by omega, World.alloc_heap_new W _, rfl⟩)
  clear hK i0' i1 iN iB
  gi_wp2
  exact R.out
 case body =>
  rintro l pre ⟨p, t⟩ a' W hl ⟨r, hr⟩ ⟨⟨ib, ir⟩, iN, iB⟩ ⟨Bx, hBx, hX, rfl⟩ hpx sz
  have hm := steps_mem o Sx.ago (p, t) (prefix_mem hpx)
  dsimp only at hm
  have hpl : pre.length + 1 ≤ o.length := by have := hpx.length_le; rw [List.length_append, Sx.stepsOf, Sx.stepsFrom_len] at this; simpa using this
  have hs1 : 0 ≤ p.save ∧ p.save ≤ 10800 := by
   rcases hm.1 with rfl | e
   ·simp [Sx.ago]
   ·exact HSV.out _ e
  have hb2 := HB.out _ hm.2
  have HC := hid (time_any p t shift W n1 n2 hs1.1 hs1.2 hb2.1 hb2.2)
  have HC2 := hid (time_any p t shift W.drew n1 n2 hs1.1 hs1.2 hb2.1 hb2.2)
  obtain ⟨x0, _⟩ := ca_at (ca_heap2 hX) 0 rfl
  obtain ⟨x1, _⟩ := ca_at (ca_heap2 hX) 1 rfl
  obtain ⟨x2, _⟩ := ca_at (ca_heap2 hX) 2 rfl
  obtain ⟨x3, _⟩ := ca_at (ca_heap2 hX) 3 rfl
  obtain ⟨x4, _⟩ := ca_at (ca_heap2 hX) 4 rfl
  obtain ⟨x5, _⟩ := ca_at (ca_heap2 hX) 5 rfl
  obtain ⟨x6, _⟩ := ca_at (ca_heap2 hX) 6 rfl
  obtain ⟨x7, _⟩ := ca_at (ca_heap2 hX) 7 rfl
  have sx := (Array.getElem?_eq_some_iff.1 hX).1
  have cN := (ca_at (ca_heap2 (vs := [.int .i64 shift]) iN) 0 rfl).1
  have cb := ib.cell
  have lb := ib.lt
  have lN := (Array.getElem?_eq_some_iff.1 iN).1
  have IB := hid iB
  have IR := hid ir
  have IN := hid iN
  have IBX := hid ib
  clear hm hX iN ib ir iB hr
  dsimp only at x0 x1 x2 x3 x4 x5 x6 x7
  gi_wp2_with fail
  obtain ⟨T, hT⟩ : ∃ T, Sx.timeOf shift p.save t = T := ⟨_, rfl⟩
  rw [hT] at HC2
  have HTT : Hid (Sx.timeS shift (p, t) = T) := hT
  clear hT HC
  have SS : Hid (HeldB N Bx shift p t W.drew) := ⟨cN, x0, x1, x2, x3, x4, x5, x6, x7⟩
  refine regionIn_held (S := fun w' => HeldB N Bx shift p t w') (by kernel_rfl) (by kernel_rfl) (fun ⟨_, _, q⟩ => q) SS.out (fun hHeld => ?_)
  refine tkH 1 ?vz1 rfl ?z1 ?_
  case z1 => (intro w hSw; obtain ⟨sN, s0, s1, s2, s3, s4, s5, s6, s7⟩ := hSw; go_simp; try with_reducible rfl)
  try simp only [Act.put, jP, jO, jS]
  refine tkH 2 ?vz2 rfl ?z2 ?_
  case z2 => (intro w hSw; obtain ⟨sN, s0, s1, s2, s3, s4, s5, s6, s7⟩ := hSw; go_simp; try with_reducible rfl)
  try simp only [Act.put, jP, jO, jS]
  refine wpAnyH_ready (rs := [0,3]) (by kernel_rfl) (by simp) ?_
  refine AllReadyH.cons rfl (fun K hK => ?_) ?_
  ·have cbd : W.drew.cell? ⟨Bs, 0, none⟩ = some (.slice (some ⟨G, 0, none⟩) pre.length o.length) := cb
   go_simp
   refine hK.out _ _ (by assumption) (fun hHeldB => ?_)
   clear hK K
   try simp only [Act.put, jP, jO, jS]
   refine rdH 3 rfl fun K hK => ?_
   go_simp
   refine HC2.out.mono ?_
   rintro e w7 ⟨rfl, hb7⟩
   have BB : Hid (Below W.heap.size W w7) := (show Below W.heap.size W W.drew from ⟨rfl, rfl, rfl, Nat.le_refl _, fun _ _ => rfl⟩).trans hb7
   have ib7 : Boxed w7 Bs 68 (.slice (some ⟨G, 0, none⟩) pre.length o.length) := (BB.out.block _ lb).trans IBX.out
   have cb7 := ib7.cell
   have lb7 := ib7.lt
   have row7 := owns_below IR.out BB.out
   have S7 := held_below SS.out hb7 lN sx
   have L7 : N < w7.heap.size ∧ Bx < w7.heap.size := ⟨Nat.lt_of_lt_of_le lN BB.out.size, Nat.lt_of_lt_of_le sx BB.out.size⟩
   refine hK.out _ _ S7 (fun hHeld2 => ?_)
   clear hK K
   try simp only [Act.put, jP, jO, jS]
   refine rdH 4 rfl fun K hK => ?_
   go_simp
   have S8 := held_below S7 ((Below.refl w7.heap.size w7).alloc (Nat.le_refl _) (.cells #[.int .i64 T.at_, .int .i64 T.save, strV T.letter] 72)) L7.1 L7.2
   have cb8 := (ib7.alloc (.cells #[.int .i64 T.at_, .int .i64 T.save, strV T.letter] 72)).cell
   refine hK.out _ _ S8 (fun hHeld3 => ?_)
   clear hK K
   try simp only [Act.put, jP, jO, jS]
   refine rdH 5 rfl fun K hK => ?_
   refine step_append_fits rfl _ _ 68 rfl G 72 i0 3 Tryz.underlying68 hi hz1 G pre.length o.length _ rfl (row7.alloc _) ⟨w7.heap.size, 0, none⟩ 1 1 (timeC T) rfl rfl (time_cells _ _) (time_one _) hpl ?_
   intro w9 hown9 hgrow9
   obtain ⟨hv9, k9, kp9, b9, r9, n9, bl9⟩ := app_end IBX.out IR.out IN.out IB.out BB.out hGB hNG (by decide) hown9 hgrow9
   have c9 := hv9.cell
   have f9 := hv9.frozen
   have l9 := hv9.lt
   have S9 := held_grown S8 hgrow9 (by simp; omega) (by simp; omega) (by omega) (by omega)
   refine hK.out _ _ S9 (fun hHeld4 => ?_)
   clear hK K
   try simp only [Act.put, jP, jO, jS]
   refine rdH 6 rfl fun K hK => ?_
   go_simp
   refine hK.out _ _ (held_set S9 (by omega) (by omega)) (fun hHeld5 => ?_)
   clear hK K
   try simp only [Act.put, jP, jO, jS]
   refine wpAnyH_done (by kernel_rfl) ?_ _
   exact ⟨k9.from _, HGG.out.symm ▸ kp9, ⟨by simpa using b9, by simpa [HTT.out] using r9⟩, n9, bl9⟩
  refine AllReadyH.cons rfl (fun K hK => ?_) AllReadyH.nil
  go_simp
  refine HC2.out.mono ?_
  rintro e w7 ⟨rfl, hb7⟩
  have BB : Hid (Below W.heap.size W w7) := (show Below W.heap.size W W.drew from ⟨rfl, rfl, rfl, Nat.le_refl _, fun _ _ => rfl⟩).trans hb7
  have ib7 : Boxed w7 Bs 68 (.slice (some ⟨G, 0, none⟩) pre.length o.length) := (BB.out.block _ lb).trans IBX.out
  have cb7 := ib7.cell
  have lb7 := ib7.lt
  have row7 := owns_below IR.out BB.out
  have S7 := held_below SS.out hb7 lN sx
  have L7 : N < w7.heap.size ∧ Bx < w7.heap.size := ⟨Nat.lt_of_lt_of_le lN BB.out.size, Nat.lt_of_lt_of_le sx BB.out.size⟩
  refine hK.out _ _ S7 (fun hHeld2 => ?_)
  clear hK K
  try simp only [Act.put, jP, jO, jS]
  refine wpAnyH_ready (rs := [0,4]) (by kernel_rfl) (by simp) ?_
  refine AllReadyH.cons rfl (fun K hK => ?_) ?_
  ·go_simp
   refine hK.out _ _ (by assumption) (fun hHeldB => ?_)
   clear hK K
   try simp only [Act.put, jP, jO, jS]
   refine rdH 4 rfl fun K hK => ?_
   go_simp
   have S8 := held_below S7 ((Below.refl w7.heap.size w7).alloc (Nat.le_refl _) (.cells #[.int .i64 T.at_, .int .i64 T.save, strV T.letter] 72)) L7.1 L7.2
   have cb8 := (ib7.alloc (.cells #[.int .i64 T.at_, .int .i64 T.save, strV T.letter] 72)).cell
   refine hK.out _ _ S8 (fun hHeld3 => ?_)
   clear hK K
   try simp only [Act.put, jP, jO, jS]
   refine rdH 5 rfl fun K hK => ?_
   refine step_append_fits rfl _ _ 68 rfl G 72 i0 3 Tryz.underlying68 hi hz1 G pre.length o.length _ rfl (row7.alloc _) ⟨w7.heap.size, 0, none⟩ 1 1 (timeC T) rfl rfl (time_cells _ _) (time_one _) hpl ?_
   intro w9 hown9 hgrow9
   obtain ⟨hv9, k9, kp9, b9, r9, n9, bl9⟩ := app_end IBX.out IR.out IN.out IB.out BB.out hGB hNG (by decide) hown9 hgrow9
   have c9 := hv9.cell
   have f9 := hv9.frozen
   have l9 := hv9.lt
   have S9 := held_grown S8 hgrow9 (by simp; omega) (by simp; omega) (by omega) (by omega)
   refine hK.out _ _ S9 (fun hHeld4 => ?_)
   clear hK K
   try simp only [Act.put, jP, jO, jS]
   refine rdH 6 rfl fun K hK => ?_
   go_simp
   refine hK.out _ _ (held_set S9 (by omega) (by omega)) (fun hHeld5 => ?_)
   clear hK K
   try simp only [Act.put, jP, jO, jS]
   refine wpAnyH_done (by kernel_rfl) ?_ _
   exact ⟨k9.from _, HGG.out.symm ▸ kp9, ⟨by simpa using b9, by simpa [HTT.out] using r9⟩, n9, bl9⟩
  refine AllReadyH.cons rfl (fun K hK => ?_) AllReadyH.nil
  go_simp
  have S8 := held_below S7 ((Below.refl w7.heap.size w7).alloc (Nat.le_refl _) (.cells #[.int .i64 T.at_, .int .i64 T.save, strV T.letter] 72)) L7.1 L7.2
  have cb8 := (ib7.alloc (.cells #[.int .i64 T.at_, .int .i64 T.save, strV T.letter] 72)).cell
  refine hK.out _ _ S8 (fun hHeld3 => ?_)
  clear hK K
  try simp only [Act.put, jP, jO, jS]
  refine rdH 0 rfl fun K hK => ?_
  go_simp
  refine hK.out _ _ (by assumption) (fun hHeldB => ?_)
  clear hK K
  try simp only [Act.put, jP, jO, jS]
  refine rdH 5 rfl fun K hK => ?_
  refine step_append_fits rfl _ _ 68 rfl G 72 i0 3 Tryz.underlying68 hi hz1 G pre.length o.length _ rfl (row7.alloc _) ⟨w7.heap.size, 0, none⟩ 1 1 (timeC T) rfl rfl (time_cells _ _) (time_one _) hpl ?_
  intro w9 hown9 hgrow9
  obtain ⟨hv9, k9, kp9, b9, r9, n9, bl9⟩ := app_end IBX.out IR.out IN.out IB.out BB.out hGB hNG (by decide) hown9 hgrow9
  have c9 := hv9.cell
  have f9 := hv9.frozen
  have l9 := hv9.lt
  have S9 := held_grown S8 hgrow9 (by simp; omega) (by simp; omega) (by omega) (by omega)
  refine hK.out _ _ S9 (fun hHeld4 => ?_)
  clear hK K
  try simp only [Act.put, jP, jO, jS]
  refine rdH 6 rfl fun K hK => ?_
  go_simp
  refine hK.out _ _ (held_set S9 (by omega) (by omega)) (fun hHeld5 => ?_)
  clear hK K
  try simp only [Act.put, jP, jO, jS]
  refine wpAnyH_done (by kernel_rfl) ?_ _
  exact ⟨k9.from _, HGG.out.symm ▸ kp9, ⟨by simpa using b9, by simpa [HTT.out] using r9⟩, n9, bl9⟩
 case done =>
  rintro D ys W hD rfl ⟨⟨ib, ir⟩, iN, iB⟩ hK
  have cb := ib.cell
  have IB := hid iB
  have IR := hid ir
  have HK := hid hK
  have hlen : (Sx.stepsOf o).length = o.length := by rw [Sx.stepsOf, Sx.stepsFrom_len]
  have BK := hid (belowK_b (w := w4) (n₀ := G) (by omega) W D _ (.deferred none) (by omega) hK rfl rfl)
  have RK := hid (ownsRow_putObj ir (.deferred none) hK rfl)
  rw [hlen] at cb RK
  clear iN iB ir hK
  gi_wp2
  refine ⟨by simp, .inl ⟨_, _, rfl, run_takeDeferred HK.out, ?_⟩⟩
  refine ⟨.tuple #[.slice (some ⟨G, 0, none⟩) o.length o.length, .int .i64 0], by simp [results, Tryz.results28, go_sem], ?_⟩
  refine ⟨_, by rw [HT.out], ?_, ?_⟩
  ·unfold OwnTimes
   rw [KX.out, List.length_map, hlen]
   exact owns_base RK.out (by rw [HNN.out]; omega)
  ·rw [HNN.out]
   have b4 := B4.out
   rw [HNN.out] at b4
   exact b4.trans ((IB.out.trans BK.out).mono (by omega))
 case stop =>
  rintro D c pre W _ _ h _
  exact h.elim
theorem times_any (rs : List Sx.Rl) (rv : Value) (name : Tx.Bs) (shift : Int) (w : World) (h : RdRules w rv rs) (hs : ∀ r ∈ rs, r.name.length ≤ maxLen ∧ r.letter.length ≤ maxLen) :
  Calls Tryz.prog 28 #[rv, strV name, .int .i64 shift] w (TimesEnd rs name shift w) := by
 by_cases hT : Sx.timesE rs name shift = 0
 ·exact times_good rs rv name shift w h hs hT
 by_cases hE : Sx.srcE ⟨rs, [], []⟩ = 0
 ·by_cases hsh : -64800 ≤ shift ∧ shift ≤ 64800
  ·exact times_turns rs rv name shift w h hs hE hsh.1 hsh.2 hT
  ·exact times_range rs rv name shift w h hs hE hsh
 ·exact times_wrong rs rv name shift w h hs hE
end
namespace Tb
open Tx (Bs)

structure Lc where
 shift : Int
 save : Int
 name : Bs
deriving DecidableEq
abbrev least : Int := -62135596800
abbrev most : Int := 253402300799
def localE (l : Lc) : Int :=
 if (Sx.inB l.shift (-75600) 75600 && Sx.inB l.save 0 10800) = false then 3
 else if (!l.name.isEmpty && decide (l.name.length ≤ 24) && Sx.plainB l.name) = false then 1 else 0
def inYears (n : Int) : Bool := Sx.inB n least most

/- put in its place -/
def ins (x : Int) : List Int → List Int
 | [] => [x]
 | y :: r => if x < y then x :: y :: r else y :: ins x r
theorem drop_get {α : Type} {l : List α} {i : Nat} {x : α} (h : l[i]? = some x) : l.drop i = x :: l.drop (i + 1) := by
 obtain ⟨hi, rfl⟩ := List.getElem?_eq_some_iff.1 h
 exact List.drop_eq_getElem_cons hi
end Tb
section
open Go.RowKit

abbrev lcV (l : Tb.Lc) : Value := .agg #[.int .i64 l.shift, .int .i64 l.save, strV l.name]
def lc0 : Tb.Lc := ⟨0, 0, []⟩
def RdInts := Rd 1 (fun n : Int => [Value.int .i64 n])
theorem rdInts_at {w : World} {v : Value} {l : List Int} {i : Nat} {n : Int} (h : RdInts w v l) (hi : l[i]? = some n) : ∃ b o cap, v = .slice (some ⟨b, o, none⟩) l.length cap ∧ b < w.heap.size ∧ w.cell? ⟨b, o + i, none⟩ = some (.int .i64 n) := by
 obtain ⟨a, cap, rfl, h⟩ := h
 obtain ⟨b, o, rfl, hb, hc⟩ := h (by intro q; subst q; simp at hi)
 refine ⟨b, o, cap, rfl, hb, ?_⟩
 have := hc i n hi 0 _ rfl
 simpa using this
end
section
open Go.RowKit Go.Shelf
attribute [local go_sem] Oper.semAt_some

def endAt (x : Sx.Er) : Int := Cv.num x.uy x.um x.ud * 86400 + x.uat - (if x.uclock = 2 then x.shift else 0)
def endsE (l : List Sx.Er) : List Int := (l.filter fun x => !x.opn).map endAt
structure EndOk (x : Sx.Er) : Prop where
 vld : Cv.vldB x.uy x.um x.ud = true
 at0 : 0 ≤ x.uat
 at1 : x.uat ≤ 172800
 sh0 : -64800 ≤ x.shift
 sh1 : x.shift ≤ 64800
theorem endOf_any (x : Sx.Er) (w : World) (h : EndOk x) : Calls Tryz.prog 51 #[eraV x] w fun e w' => e = .returned (.int .i64 (endAt x)) ∧ Below w.heap.size w w' := by
 obtain ⟨sh, rl, sv, fm, op, uy, um, ud, ua, uc⟩ := x
 obtain ⟨hv, a0, a1, s0, s1⟩ := h
 dsimp only at hv a0 a1 s0 s1
 have nb := Cv.num_bd hv
 have n0 := nb.1
 have n1 := nb.2
 have HV := hid hv
 have HE : Hid (endAt ⟨sh, rl, sv, fm, op, uy, um, ud, ua, uc⟩ = Cv.num uy um ud * 86400 + ua - (if uc = 2 then sh else 0)) := rfl
 have XV := hid (ca_new w (eraCells ⟨sh, rl, sv, fm, op, uy, um, ud, ua, uc⟩) 67)
 have BV := hid ((Below.refl w.heap.size w).alloc (Nat.le_refl _) (.cells (eraCells ⟨sh, rl, sv, fm, op, uy, um, ud, ua, uc⟩).toArray 67))
 obtain ⟨n, hn⟩ : ∃ n, Cv.num uy um ud = n := ⟨_, rfl⟩
 rw [hn] at n0 n1 HE
 have HN := hid hn
 clear hv nb hn
 go_enter Tryz.func51, Tryz.ntmps51
 go_wp2_with fail
 refine (days_yes _ _ _ _ HV.out).mono ?_
 rintro e w1 ⟨rfl, hb⟩
 rw [HN.out]
 have B1 : Hid (Below w.heap.size w w1) := BV.out.trans (hb.mono BV.out.size)
 have X1 := ca_below XV.out hb
 obtain ⟨x0, _⟩ := ca_at X1 0 rfl
 obtain ⟨x8, _⟩ := ca_at X1 8 rfl
 obtain ⟨x9, _⟩ := ca_at X1 9 rfl
 have sx := X1.1
 clear hb XV BV X1
 by_cases hc : uc = 2
 ·have hc2 : (uc == 2) = true := by simp [hc]
  go_wp2
  go_ret
  exact ⟨ret_int (by rw [HE.out, if_pos hc]), B1.out⟩
 ·have hc2 : (uc == 2) = false := by simp [hc]
  go_wp2
  go_ret
  exact ⟨ret_int (by rw [HE.out, if_neg hc, Int.sub_zero]), B1.out⟩
theorem endAt_bd {x : Sx.Er} (h : EndOk x) : -1000000000000 ≤ endAt x ∧ endAt x ≤ 1000000000000 := by
 have nb := Cv.num_bd h.vld
 have := h.at0; have := h.at1; have := h.sh0; have := h.sh1
 unfold endAt
 split <;> omega

def OwnEnds (w : World) (B : Nat) (v : Value) (l : List Int) : Prop := w.ownsRow B 3 1 v l.length (l.map (Value.int .i64))
theorem ownEnds_rd {w : World} {B : Nat} {v : Value} {l : List Int} (h : OwnEnds w B v l) : RdInts w v l := by
 have e : ∀ l : List Int, (l.flatMap fun n : Int => [Value.int .i64 n]) = l.map (Value.int .i64) := by intro l; induction l <;> simp_all
 exact own_rd (B := B) (e := 3) (cells := fun n : Int => [Value.int .i64 n]) (fun _ => rfl) (by rw [e]; exact h)
theorem endsE_snoc (l : List Sx.Er) (x : Sx.Er) : endsE (l ++ [x]) = endsE l ++ (if x.opn = true then [] else [endAt x]) := by
 unfold endsE
 cases q : x.opn <;> simp [List.filter_append, q]
theorem Tryz.infoInt : (Tryz.prog.info? 3).map (fun i => (i.zero, i.size, i.bytes)) = some (some (.int .i64 0), 1, 8) := by kernel_rfl
/- appended in a round: what the round owes -/
theorem app_end2 {n0 Bs Z k m size : Nat} {tT T tz : TypeId} {w W w7 w9 : World} {tmp : Obj} {v v' : Value} {xs ys : List Value} {cz : Array Value} (ib : Boxed W Bs tT v) (ir : W.ownsRow n0 T size v k xs) (iZ : W.heap[Z]? = some (.cells cz tz)) (hz : tz ≠ T) (iB : Below n0 w W) (hn : n0 ≤ W.heap.size) (BB : Below W.heap.size W w7) (hnB : n0 ≤ Bs) (hZB : Z ≠ Bs) (hte : tT ≠ T)
  (hown9 : w9.ownsRow n0 T size v' m ys) (hgrow9 : (w7.alloc tmp).grownBy w9 v.ownBlock) :
  Boxed w9 Bs tT v ∧ KeepsOthers W (w9.setCell ⟨Bs, 0, none⟩ v') ∧ KpB n0 Z W (w9.setCell ⟨Bs, 0, none⟩ v') ∧ Boxed (w9.setCell ⟨Bs, 0, none⟩ v') Bs tT v' ∧ (w9.setCell ⟨Bs, 0, none⟩ v').ownsRow n0 T size v' m ys ∧ Below n0 w (w9.setCell ⟨Bs, 0, none⟩ v') ∧ (w9.setCell ⟨Bs, 0, none⟩ v').heap[Z]? = some (.cells cz tz) := by
 have lb := ib.lt
 have ib7 : Boxed w7 Bs tT v := (BB.block _ lb).trans ib
 have r7 := owns_below ir BB
 obtain ⟨q1, q2, q3, q4, q5⟩ := ib7.appended hte r7 (by have := BB.size; omega) hnB hown9 hgrow9
 have lZ := (Array.getElem?_eq_some_iff.1 iZ).1
 have z7 := (BB.block _ lZ).trans iZ
 have lZ7 := (Array.getElem?_eq_some_iff.1 z7).1
 have hne : some Z ≠ v.ownBlock := by
  intro e
  rcases r7.2 with ⟨rfl, _⟩ | ⟨g, cap, cur, rfl, _, hh, _⟩
  ·simp [Value.ownBlock] at e
  ·simp [Value.ownBlock] at e
   subst e
   rw [z7] at hh
   simp at hh
   exact hz hh.2
 have z9 : (w9.setCell ⟨Bs, 0, none⟩ v').heap[Z]? = some (.cells cz tz) := by
  rw [Below.heap_setCell _ _ _ _ hZB, hgrow9.block Z (by simp; omega) hne, Below.heap_alloc _ _ _ lZ7]; exact z7
 have bw : Below n0 W (w9.setCell ⟨Bs, 0, none⟩ v') := (BB.mono hn).trans q5
 exact ⟨q1, (keeps_below BB).trans q4, ⟨bw, fun _ => z9.trans iZ.symm⟩, q2, q3, iB.trans bw, z9⟩
theorem eraH_grown {B : Nat} {g : Option Nat} {x : Sx.Er} {w w' : World} (h : EraH B x w) (hb : w.grownBy w' g) (hB : B < w.heap.size) (hn : some B ≠ g) : EraH B x w' := by
 obtain ⟨b0, b1, b2, b3, b4, b5, b6, b7, b8, b9⟩ := h
 have e : ∀ k, w'.cell? ⟨B, k, none⟩ = w.cell? ⟨B, k, none⟩ := fun k => World.cell?_of_block (w := w) (hb.block _ hB hn)
 exact ⟨(e 0).trans b0, (e 1).trans b1, (e 2).trans b2, (e 3).trans b3, (e 4).trans b4, (e 5).trans b5, (e 6).trans b6, (e 7).trans b7, (e 8).trans b8, (e 9).trans b9⟩
theorem eraH_set {B g : Nat} {x : Sx.Er} {w : World} {v : Value} (h : EraH B x w) (hn : B ≠ g) : EraH B x (w.setCell ⟨g, 0, none⟩ v) := by
 obtain ⟨b0, b1, b2, b3, b4, b5, b6, b7, b8, b9⟩ := h
 have e : ∀ k, (w.setCell ⟨g, 0, none⟩ v).cell? ⟨B, k, none⟩ = w.cell? ⟨B, k, none⟩ := fun k => World.cell?_of_block (w := w) (Below.heap_setCell _ _ _ _ hn)
 exact ⟨(e 0).trans b0, (e 1).trans b1, (e 2).trans b2, (e 3).trans b3, (e 4).trans b4, (e 5).trans b5, (e 6).trans b6, (e 7).trans b7, (e 8).trans b8, (e 9).trans b9⟩
theorem ne_row {base size k B : Nat} {T t : TypeId} {v : Value} {xs : List Value} {cs : Array Value} {o : Obj} {W0 : World} (hr : (W0.alloc o).ownsRow base T size v k xs) (h : W0.heap[B]? = some (.cells cs t)) (ht : t ≠ T) : some B ≠ v.ownBlock := by
 intro e
 rcases hr.2 with ⟨rfl, _⟩ | ⟨g, cap, cur, rfl, _, hh, _⟩
 ·simp [Value.ownBlock] at e
 ·simp [Value.ownBlock] at e
  subst e
  rw [Below.heap_alloc _ _ _ (Array.getElem?_eq_some_iff.1 h).1, h] at hh
  simp at hh
  exact ht hh.2
theorem era_at7 {W w7 : World} {B : Nat} {o : Obj} (h : W.heap[B]? = some o) (hb : Below W.heap.size W w7) : w7.heap[B]? = some o := (hb.block _ (Array.getElem?_eq_some_iff.1 h).1).trans h
theorem ends_any (x : ZV) (w : World) (h : RdEras w (.slice x.a x.z.eras.length x.c) x.z.eras) (hl : x.z.eras.length ≤ 1000) (hcp : x.z.eras.length ≤ x.c) (hok : ∀ e ∈ x.z.eras, e.opn = true ∨ EndOk e) :
  Calls Tryz.prog 56 #[zvV x] w fun e w' => ∃ v, e = .returned v ∧ OwnEnds w' w.heap.size v (endsE x.z.eras) ∧ Below w.heap.size w w' := by
 obtain ⟨i0, hi, hz0, hz1, hz2⟩ := info_parts Tryz.infoInt
 have H := hid h
 have HL := hid hl
 have HOK := hid hok
 have HCP := hid hcp
 clear h hl hok hcp
 refine (callsIn_wide (n := 4)).1 ?_
 refine callsIn_of_wp_marks Tryz.func56 rfl trivial ?_ rfl
 simp only [Tryz.ntmps56, List.size_toArray, List.length_cons, List.length_nil, Nat.reduceAdd, Nat.reduceSub, Array.replicate_succ, Array.replicate_zero, List.push_toArray, List.append_toArray, List.nil_append, List.cons_append]
 gi_wp2_with fail
 refine ⟨trivial, (callsIn_wide.2 (eras_any _ _ _ _)).mono ?_⟩
 rintro e w6 ⟨rfl, rfl⟩
 obtain ⟨N, hN⟩ : ∃ N, w.heap.size = N := ⟨_, rfl⟩
 obtain ⟨V, hV⟩ : ∃ V, ((((w.alloc (.cells #[strV x.z.name, .slice x.a x.z.eras.length x.c] 44)).alloc (.cells #[.slice none 0 0] 47)).alloc (.cells #[strV x.z.name, .slice x.a x.z.eras.length x.c] 44)).alloc (.cells #[.slice (some ⟨N + 1 + 1, 0, none⟩) 1 1] 23)) = V := ⟨_, rfl⟩
 have hsz : (((w.alloc (.cells #[strV x.z.name, .slice x.a x.z.eras.length x.c] 44)).alloc (.cells #[.slice none 0 0] 47)).alloc (.cells #[strV x.z.name, .slice x.a x.z.eras.length x.c] 44)).heap.size = N + 1 + 1 + 1 := by simp [hN]
 rw [hN, hsz, hV]
 have vS : V.heap.size = N + 4 := by rw [← hV]; simp [hN]
 have vb : Boxed V (N + 1) 47 (.slice none 0 0) := by
  have := Boxed.new (w.alloc (.cells #[strV x.z.name, .slice x.a x.z.eras.length x.c] 44)) 47 (.slice none 0 0)
  rw [World.size_alloc, hN] at this
  rw [← hV]; exact (this.alloc _).alloc _
 have vz : V.heap[N + 1 + 1]? = some (.cells #[strV x.z.name, .slice x.a x.z.eras.length x.c] 44) := by
  rw [← hV, Below.heap_alloc _ _ _ (by simp; omega)]
  have := World.alloc_heap_new ((w.alloc (.cells #[strV x.z.name, .slice x.a x.z.eras.length x.c] 44)).alloc (.cells #[.slice none 0 0] 47)) (.cells #[strV x.z.name, .slice x.a x.z.eras.length x.c] 44)
  simp only [World.size_alloc, hN] at this
  exact this
 have vc : V.cell? ⟨N + 1 + 1 + 1, 0, none⟩ = some (.slice (some ⟨N + 1 + 1, 0, none⟩) 1 1) := by
  have := ca_at (ca_new (((w.alloc (.cells #[strV x.z.name, .slice x.a x.z.eras.length x.c] 44)).alloc (.cells #[.slice none 0 0] 47)).alloc (.cells #[strV x.z.name, .slice x.a x.z.eras.length x.c] 44)) [.slice (some ⟨N + 1 + 1, 0, none⟩) 1 1] 23) 0 rfl
  rw [hsz] at this
  rw [← hV]; exact this.1
 have vB : Below N w V := by rw [← hV]; exact ((((Below.refl N w).alloc (by omega) _).alloc (by simp; omega) _).alloc (by simp; omega) _).alloc (by simp; omega) _
 have HNN := hid hN
 have hread : ∀ W A, Below V.heap.size V W → KpB N (N + 1 + 1) W A → RdZv A (.slice (some ⟨N + 1 + 1, 0, none⟩) [x].length 1) [x.z] [x] := by
  intro W A h1 h2
  have lW : N + 1 + 1 < W.heap.size := by have := h1.size; omega
  have zA : A.heap[N + 1 + 1]? = some (.cells #[strV x.z.name, .slice x.a x.z.eras.length x.c] 44) := (h2.2 lW).trans ((h1.block _ (by omega)).trans vz)
  have bA : Below N w A := vB.trans ((h1.mono (by omega)).trans h2.1)
  have CA := ca_heap2 (vs := [strV x.z.name, .slice x.a x.z.eras.length x.c]) zA
  refine ⟨rfl, ⟨some ⟨N + 1 + 1, 0, none⟩, 1, rfl, fun _ => ⟨N + 1 + 1, 0, rfl, CA.1, ?_⟩⟩, ?_, ?_⟩
  ·intro i y hy k u hu
   match i, hy with
   | 0, hy =>
     simp at hy; subst hy
     have := (ca_at CA k hu).1
     simpa using this
  ·intro p hp
   simp at hp; subst hp
   exact rd_below H.out (by rw [HNN.out]; exact bA)
  ·intro p hp
   simp at hp; subst hp
   exact HCP.out
 clear hV hsz
 gi_wp2
 refine wpIn_range_d rfl (by omega) (gf := 110) (lb := #[.pointer (some ⟨N + 1 + 1 + 1, 0, none⟩)]) rfl trivial (enters_of Tryz.func110 (by kernel_rfl) rfl)
  (eras_gen (KpB N (N + 1 + 1)) 3 (N + 1 + 1 + 1) (by omega) [x] [x.z] _ 1 V hread (by simp) (fun p hp => by simp at hp; subst hp; have := HL.out; omega) vc (by omega) (fun W _ => ⟨Below.refl _ _, fun _ => rfl⟩) (fun _ _ _ a b => kpb_t a b) (fun W A o h1 h2 => ⟨(Below.refl _ _).alloc (Nat.le_trans (by omega) (Nat.le_trans h1.size h2.1.size)) _, fun q => Below.heap_alloc _ _ _ q⟩))
  kpb_t (kpb_b (by omega) (by omega)) (Below.refl _ _) (fun _ => rfl)
  (fun (pre : List Sx.Er) W => (∃ v, Boxed W (N + 1) 47 v ∧ W.ownsRow N 3 1 v (endsE pre).length ((endsE pre).map (Value.int .i64)) ∧ True) ∧ Below N w W ∧ W.heap[N + 1 + 1]? = some (.cells #[strV x.z.name, .slice x.a x.z.eras.length x.c] 44))
  (fun _ _ _ => False)
  (OwnFrom.and (Own.from (holdsRow_own N (N + 1) 47 3 1 (fun (pre : List Sx.Er) => (endsE pre).length) (fun (pre : List Sx.Er) => (endsE pre).map (Value.int .i64)) (fun (pre : List Sx.Er) v => True)) _) (OwnFrom.and (ownFrom_below (by omega) (by omega)) (OwnC.own (ownC_heap (by omega)))))
  (fun _ _ _ _ _ hs _ _ => hs)
  ⟨⟨_, vb, World.ownsRow_nil _ _ _ _, trivial⟩, vB, vz⟩
  (fun e a' W => ∃ Bx, N + 1 + 1 + 1 < Bx ∧ W.heap[Bx]? = some (.cells (eraCells e).toArray 67 (0, 0)) ∧ a' = { tmps := #[zvV x, .pointer (some ⟨N, 0, none⟩), .slice none 0 0, .pointer (some ⟨N + 1, 0, none⟩), .pointer (some ⟨Bx, 0, none⟩), .agg #[strV x.z.name, .slice x.a x.z.eras.length x.c], .slice (some ⟨N + 1 + 1, 0, none⟩) 1 1, .func (.func 110) #[] #[.pointer (some ⟨N + 1 + 1 + 1, 0, none⟩)], eraV e, undef, undef, undef, undef, undef, undef, undef, undef, undef], defers := [] })
  ?hAx ?assign ?body ?done ?stop
 case hAx =>
  rintro e a' _ X Y row ⟨Bx, q1, q2, q3⟩ hg hr
  refine ⟨Bx, q1, ?_, q3⟩
  rw [hg.block Bx (Array.getElem?_eq_some_iff.1 q2).1 (fun e => by obtain ⟨_, o, ho, hc⟩ := hr Bx e.symm; rw [q2] at ho; cases ho; simp [Obj.isCells] at hc)]
  exact q2
 case assign =>
  rintro l pre e W K ⟨⟨v, iv, ir, _⟩, iB, iZ⟩ sz hK
  rw [vS] at sz
  have KB := hid ((Below.refl W.heap.size W).alloc (Nat.le_refl _) (.cells (eraCells e).toArray 67))
  have lZ := (Array.getElem?_eq_some_iff.1 iZ).1
  have R := hid (hK { tmps := #[zvV x, .pointer (some ⟨N, 0, none⟩), .slice none 0 0, .pointer (some ⟨N + 1, 0, none⟩), .pointer (some ⟨W.heap.size, 0, none⟩), .agg #[strV x.z.name, .slice x.a x.z.eras.length x.c], .slice (some ⟨N + 1 + 1, 0, none⟩) 1 1, .func (.func 110) #[] #[.pointer (some ⟨N + 1 + 1 + 1, 0, none⟩)], eraV e, undef, undef, undef, undef, undef, undef, undef, undef, undef], defers := [] } (W.alloc (.cells (eraCells e).toArray 67)) ((KeepsOthers.alloc _ _).from _) ⟨KB.out.mono (by omega), fun q => KB.out.block _ q⟩
   ⟨⟨v, iv.alloc _, ir.alloc _, trivial⟩, iB.alloc (by omega) _, (KB.out.block _ lZ).trans iZ⟩ ⟨W.heap.size, by omega, World.alloc_heap_new W _, rfl⟩)
  clear hK iv ir iB iZ
  gi_wp2
  exact R.out
 case body =>
  rintro l pre e a' W hl ⟨r, hr⟩ ⟨⟨v, iv, ir, _⟩, iB, iZ⟩ ⟨Bx, hBx, hX, rfl⟩ hpx sz
  rw [vS] at sz
  have hmem : e ∈ x.z.eras := by have := prefix_mem hpx; simpa [erasOf] using this
  have hok := HOK.out e hmem
  have hpl : (endsE pre).length ≤ 1000 := by
   have h1 := hpx.length_le
   have h2 : (endsE pre).length ≤ pre.length := by unfold endsE; rw [List.length_map]; exact List.length_filter_le _ _
   have h3 : (erasOf [x]).length = x.z.eras.length := by simp [erasOf]
   have := HL.out
   rw [h3, List.length_append] at h1
   omega
  have EX := eraH_of (ca_heap2 hX)
  have x4 := EX.2.2.2.2.1
  have sx := (Array.getElem?_eq_some_iff.1 hX).1
  have lb := iv.lt
  have cb := iv.cell
  have HE := hid (endsE_snoc pre e)
  have IV := hid iv
  have IR := hid ir
  have IB := hid iB
  have IZ := hid iZ
  have SZ := hid sz
  have HXX := hid hX
  clear iv ir iB iZ hr hX sz hmem hpx
  obtain ⟨q, hq⟩ : ∃ q, e.opn = q := ⟨_, rfl⟩
  rw [hq] at HE hok x4
  cases q
  case true =>
   clear hq hok
   gi_wp2
   have e3 : endsE (pre ++ [e]) = endsE pre := by rw [HE.out]; simp
   exact ⟨(KeepsOthers.refl _).from _, ⟨Below.refl _ _, fun _ => rfl⟩, ⟨v, IV.out, by rw [e3]; exact IR.out⟩, IB.out, IZ.out⟩
  case false =>
   have HOE : Hid (EndOk e) := by rcases hok with h | h; · cases h
                                  ·exact h
   clear hq hok
   have HC2 := hid (endOf_any e W.drew HOE.out)
   gi_wp2_with fail
   have SS : Hid (EraH Bx e W.drew) := EX
   refine regionIn_held (S := fun w' => EraH Bx e w') (by kernel_rfl) (by kernel_rfl) (fun ⟨_, _, q⟩ => q) SS.out (fun hHeld => ?_)
   refine tkH 1 ?vz1 rfl ?z1 ?_
   case z1 => (intro w hSw; obtain ⟨s0, s1, s2, s3, s4, s5, s6, s7, s8, s9⟩ := hSw; go_simp; try with_reducible rfl)
   try simp only [Act.put, j]
   refine wpAnyH_ready (rs := [0,2]) (by kernel_rfl) (by simp) ?_
   refine AllReadyH.cons rfl (fun K hK => ?_) ?_
   ·have cbd : W.drew.cell? ⟨N + 1, 0, none⟩ = some v := cb
    go_simp
    refine hK.out _ _ (by assumption) (fun hHeldB => ?_)
    clear hK K
    try simp only [Act.put, j]
    refine rdH 2 rfl fun K hK => ?_
    go_simp
    refine HC2.out.mono ?_
    rintro e' w7 ⟨rfl, hb7⟩
    have BB : Hid (Below W.heap.size W w7) := below_drew1 hb7
    have ib7 : Boxed w7 (N + 1) 47 v := (BB.out.block _ lb).trans IV.out
    have cb7 := ib7.cell
    have row7 := owns_below IR.out BB.out
    have S7 := eraH_below SS.out hb7 sx
    have L7 : Bx < w7.heap.size := Nat.lt_of_lt_of_le sx BB.out.size
    refine hK.out _ _ S7 (fun hHeld2 => ?_)
    clear hK K
    try simp only [Act.put, j]
    refine rdH 3 rfl fun K hK => ?_
    go_simp
    have S8 := eraH_below S7 ((Below.refl w7.heap.size w7).alloc (Nat.le_refl _) (.cells #[.int .i64 (endAt e)] 3)) L7
    have cb8 := (ib7.alloc (.cells #[.int .i64 (endAt e)] 3)).cell
    refine hK.out _ _ S8 (fun hHeld3 => ?_)
    clear hK K
    try simp only [Act.put, j]
    refine rdH 4 rfl fun K hK => ?_
    refine step_append_own rfl _ _ 47 rfl N 3 i0 (.int .i64 0) 1 8 Tryz.underlying47 hi hz0 hz1 hz2 rfl (by decide) v _ _ rfl (row7.alloc _) ⟨w7.heap.size, 0, none⟩ 1 1 [.int .i64 (endAt e)] rfl rfl (one_cell _ _) (by simp [Value.oneCell']) (by unfold maxLen; omega) (by omega) (by have := BB.out.size; have := SZ.out; simp; omega) ?_
    intro v' w9 hown9 hgrow9
    obtain ⟨g', cap', rfl⟩ := ownsRow_succ hown9
    obtain ⟨hv9, k9, kp9, b9, r9, bl9, z9⟩ := app_end2 IV.out IR.out IZ.out (by decide) IB.out (by have := SZ.out; omega) BB.out (by omega) (by omega) (by decide) hown9 hgrow9
    have c9 := hv9.cell
    have f9 := hv9.frozen
    have l9 := hv9.lt
    have S9 := eraH_grown S8 hgrow9 (by simp; omega) (ne_row (row7.alloc (.cells #[.int .i64 (endAt e)] 3)) (era_at7 HXX.out BB.out) (by decide))
    refine hK.out _ _ S9 (fun hHeld4 => ?_)
    clear hK K
    try simp only [Act.put, j]
    refine rdH 5 rfl fun K hK => ?_
    go_simp
    refine hK.out _ _ (eraH_set S9 (by omega)) (fun hHeld5 => ?_)
    clear hK K
    try simp only [Act.put, j]
    refine wpAnyH_done (by kernel_rfl) ?_ _
    exact ⟨k9.from _, kp9, ⟨_, b9, by show World.ownsRow _ _ _ _ _ _ _; rw [HE.out]; simpa using r9, trivial⟩, bl9, z9⟩
   refine AllReadyH.cons rfl (fun K hK => ?_) AllReadyH.nil
   go_simp
   refine HC2.out.mono ?_
   rintro e' w7 ⟨rfl, hb7⟩
   have BB : Hid (Below W.heap.size W w7) := below_drew1 hb7
   have ib7 : Boxed w7 (N + 1) 47 v := (BB.out.block _ lb).trans IV.out
   have cb7 := ib7.cell
   have row7 := owns_below IR.out BB.out
   have S7 := eraH_below SS.out hb7 sx
   have L7 : Bx < w7.heap.size := Nat.lt_of_lt_of_le sx BB.out.size
   refine hK.out _ _ S7 (fun hHeld2 => ?_)
   clear hK K
   try simp only [Act.put, j]
   refine wpAnyH_ready (rs := [0,3]) (by kernel_rfl) (by simp) ?_
   refine AllReadyH.cons rfl (fun K hK => ?_) ?_
   ·go_simp
    refine hK.out _ _ (by assumption) (fun hHeldB => ?_)
    clear hK K
    try simp only [Act.put, j]
    refine rdH 3 rfl fun K hK => ?_
    go_simp
    have S8 := eraH_below S7 ((Below.refl w7.heap.size w7).alloc (Nat.le_refl _) (.cells #[.int .i64 (endAt e)] 3)) L7
    have cb8 := (ib7.alloc (.cells #[.int .i64 (endAt e)] 3)).cell
    refine hK.out _ _ S8 (fun hHeld3 => ?_)
    clear hK K
    try simp only [Act.put, j]
    refine rdH 4 rfl fun K hK => ?_
    refine step_append_own rfl _ _ 47 rfl N 3 i0 (.int .i64 0) 1 8 Tryz.underlying47 hi hz0 hz1 hz2 rfl (by decide) v _ _ rfl (row7.alloc _) ⟨w7.heap.size, 0, none⟩ 1 1 [.int .i64 (endAt e)] rfl rfl (one_cell _ _) (by simp [Value.oneCell']) (by unfold maxLen; omega) (by omega) (by have := BB.out.size; have := SZ.out; simp; omega) ?_
    intro v' w9 hown9 hgrow9
    obtain ⟨g', cap', rfl⟩ := ownsRow_succ hown9
    obtain ⟨hv9, k9, kp9, b9, r9, bl9, z9⟩ := app_end2 IV.out IR.out IZ.out (by decide) IB.out (by have := SZ.out; omega) BB.out (by omega) (by omega) (by decide) hown9 hgrow9
    have c9 := hv9.cell
    have f9 := hv9.frozen
    have l9 := hv9.lt
    have S9 := eraH_grown S8 hgrow9 (by simp; omega) (ne_row (row7.alloc (.cells #[.int .i64 (endAt e)] 3)) (era_at7 HXX.out BB.out) (by decide))
    refine hK.out _ _ S9 (fun hHeld4 => ?_)
    clear hK K
    try simp only [Act.put, j]
    refine rdH 5 rfl fun K hK => ?_
    go_simp
    refine hK.out _ _ (eraH_set S9 (by omega)) (fun hHeld5 => ?_)
    clear hK K
    try simp only [Act.put, j]
    refine wpAnyH_done (by kernel_rfl) ?_ _
    exact ⟨k9.from _, kp9, ⟨_, b9, by show World.ownsRow _ _ _ _ _ _ _; rw [HE.out]; simpa using r9, trivial⟩, bl9, z9⟩
   refine AllReadyH.cons rfl (fun K hK => ?_) AllReadyH.nil
   go_simp
   have S8 := eraH_below S7 ((Below.refl w7.heap.size w7).alloc (Nat.le_refl _) (.cells #[.int .i64 (endAt e)] 3)) L7
   have cb8 := (ib7.alloc (.cells #[.int .i64 (endAt e)] 3)).cell
   refine hK.out _ _ S8 (fun hHeld3 => ?_)
   clear hK K
   try simp only [Act.put, j]
   refine rdH 0 rfl fun K hK => ?_
   go_simp
   refine hK.out _ _ (by assumption) (fun hHeldB => ?_)
   clear hK K
   try simp only [Act.put, j]
   refine rdH 4 rfl fun K hK => ?_
   refine step_append_own rfl _ _ 47 rfl N 3 i0 (.int .i64 0) 1 8 Tryz.underlying47 hi hz0 hz1 hz2 rfl (by decide) v _ _ rfl (row7.alloc _) ⟨w7.heap.size, 0, none⟩ 1 1 [.int .i64 (endAt e)] rfl rfl (one_cell _ _) (by simp [Value.oneCell']) (by unfold maxLen; omega) (by omega) (by have := BB.out.size; have := SZ.out; simp; omega) ?_
   intro v' w9 hown9 hgrow9
   obtain ⟨g', cap', rfl⟩ := ownsRow_succ hown9
   obtain ⟨hv9, k9, kp9, b9, r9, bl9, z9⟩ := app_end2 IV.out IR.out IZ.out (by decide) IB.out (by have := SZ.out; omega) BB.out (by omega) (by omega) (by decide) hown9 hgrow9
   have c9 := hv9.cell
   have f9 := hv9.frozen
   have l9 := hv9.lt
   have S9 := eraH_grown S8 hgrow9 (by simp; omega) (ne_row (row7.alloc (.cells #[.int .i64 (endAt e)] 3)) (era_at7 HXX.out BB.out) (by decide))
   refine hK.out _ _ S9 (fun hHeld4 => ?_)
   clear hK K
   try simp only [Act.put, j]
   refine rdH 5 rfl fun K hK => ?_
   go_simp
   refine hK.out _ _ (eraH_set S9 (by omega)) (fun hHeld5 => ?_)
   clear hK K
   try simp only [Act.put, j]
   refine wpAnyH_done (by kernel_rfl) ?_ _
   exact ⟨k9.from _, kp9, ⟨_, b9, by show World.ownsRow _ _ _ _ _ _ _; rw [HE.out]; simpa using r9, trivial⟩, bl9, z9⟩
 case done =>
  rintro D ys W hD rfl ⟨⟨v, iv, ir, _⟩, iB, iZ⟩ hK
  rw [vS] at hD
  have cb := iv.cell
  have IB := hid iB
  have HK := hid hK
  have BK := hid (belowK_b (w := w) (n₀ := N) (by omega) W D _ (.deferred none) (by omega) hK rfl rfl)
  have RK := hid (ownsRow_putObj ir (.deferred none) hK rfl)
  clear iv ir iB iZ hK
  gi_wp2
  refine ⟨by simp, .inl ⟨_, _, rfl, run_takeDeferred HK.out, ?_⟩⟩
  refine ⟨v, by simp [results, Tryz.results56, go_sem], v, rfl, ?_, ?_⟩
  ·have e : erasOf [x] = x.z.eras := by simp [erasOf]
   have := RK.out
   rw [e] at this
   rw [HNN.out]
   exact this
  ·rw [HNN.out]; exact IB.out.trans BK.out
 case stop =>
  rintro D c pre W _ _ h _
  exact h.elim
end
section
open Go.RowKit Go.Shelf Go.Maps
attribute [local go_sem] Oper.semAt_some

def strSet (l : List Tx.Bs) : DataW Unit := setOf (.agg []) (l.map Lit.string)
theorem strSet_snoc (l : List Tx.Bs) (x : Tx.Bs) : strSet (l ++ [x]) = (strSet l).put (.string x) (.agg []) := by
 unfold strSet; rw [List.map_append]; exact setOf_snoc _ _ _
theorem anyStr (x : Tx.Bs) : ∀ l : List Tx.Bs, l.any ((fun y : Lit => y.sameKey (.string x)) ∘ Lit.string) = l.contains x
 | [] => rfl
 | a :: r => by
   rw [List.any_cons, List.contains_cons, anyStr x r]
   congr 1
   show (a == x) = (x == a)
   by_cases e : a = x
   ·subst e; rfl
   ·have e' : ¬ x = a := fun h => e h.symm
    rw [beq_eq_false_iff_ne.2 e, beq_eq_false_iff_ne.2 e']
theorem has_strSet (l : List Tx.Bs) (x : Tx.Bs) : Maps.has (strSet l) (.string x) = l.contains x := by
 unfold strSet
 rw [has_setOf _ _ _ (fun y hy => by obtain ⟨_, _, rfl⟩ := List.mem_map.1 hy; trivial), List.any_map]
 exact anyStr x _
theorem lawStr : Keyed Tryz.prog 9 := string_keyed Tryz.underlying9
theorem keyStr (x : Tx.Bs) (h : x.length ≤ maxLen) : keyOf Tryz.prog 9 (strV x) = some (.string x) := Go.WideMaps.keyOf_string_mk Tryz.underlying9 (s := ⟨x.toArray⟩) (by simpa [ByteArray.size] using h)
def twiceE (l : List Tx.Bs) : Int := if l.Nodup then 0 else 6
theorem nodup_snoc {l : List Tx.Bs} {x : Tx.Bs} (h : l.Nodup) (hx : l.contains x = false) : (l ++ [x]).Nodup := by
 rw [List.nodup_append]
 refine ⟨h, List.nodup_cons.2 ⟨by simp, List.nodup_nil⟩, ?_⟩
 intro a ha b hb e
 simp at hb
 subst hb; subst e
 have : l.contains a = true := List.contains_iff_mem.2 ha
 rw [hx] at this; cases this
theorem not_nodup_snoc {l : List Tx.Bs} {x : Tx.Bs} (hx : l.contains x = true) : ¬ (l ++ [x]).Nodup := by
 intro h
 rw [List.nodup_append] at h
 exact h.2.2 x (List.contains_iff_mem.1 hx) x (by simp) rfl
theorem not_nodup_of_prefix {l r : List Tx.Bs} (h : l <+: r) (hl : ¬ l.Nodup) : ¬ r.Nodup := fun hr => hl (hr.sublist h.sublist)
theorem twice_end {w W : World} {N D : Nat} {a : Act} {v : Int} {R : Ending → World → Prop} (h2 : a.tmps.getD 2 undef = .pointer (some ⟨N + 1, 0, none⟩)) (hd : a.defers = [{ target := .collected D, args := #[] }])
  (i1 : W.heap[N + 1]? = some (.cells #[.int .i64 v] 28)) (hD : N + 1 < D) (hN : w.heap.size ≤ N) (hK : W.heap[D]? = some (.deferred (some []))) (hB : Below w.heap.size w W) (hR : ∀ w', Below w.heap.size w w' → R (.returned (.int .i64 v)) w') :
  bodyPostM Fence.wide 4 Tryz.prog Tryz.f43 R .ret a W := by
 obtain ⟨tm, df⟩ := a
 dsimp only at h2 hd
 subst hd
 rw [Array.getD_eq_getD_getElem?] at h2
 have hX := belowK_b (w := w) (Nat.le_refl _) W D _ (.deferred none) (by omega) hK rfl rfl
 have j1 : (W.putObj D (.deferred none)).heap[N + 1]? = some (.cells #[.int .i64 v] 28) := (World.putObj_heap_other (by omega)).trans i1
 refine ⟨by simp, .inl ⟨_, _, rfl, run_takeDeferred hK, ?_⟩⟩
 have BX := hB.trans hX
 generalize W.putObj D (.deferred none) = X at j1 BX ⊢
 have y0 := (ca_at (ca_heap2 (vs := [.int .i64 v]) j1) 0 rfl).1
 clear j1 i1 hK hB hX
 refine ⟨.int .i64 v, ?_, hR X BX⟩
 simp [results, Tryz.results43, go_sem, *]
theorem checkTwice_any (zs : List Sx.Zn) (ls : List Sx.Lk) (xs : List ZV) (ra za la : Option Addr) (n1 rcap zcap lcap : Nat) (w : World) (h2 : RdZv w (.slice za xs.length zcap) zs xs) (h3 : RdLinks w (.slice la ls.length lcap) ls)
  (hx : xs.length ≤ 10000) (hl : ls.length ≤ 10000) (hs : ∀ s ∈ namesOf zs ls, s.length ≤ maxLen) :
  Calls Tryz.prog 43 #[.agg #[.slice ra n1 rcap, .slice za xs.length zcap, .slice la ls.length lcap]] w fun e w' => e = .returned (.int .i64 (twiceE (namesOf zs ls))) ∧ Below w.heap.size w w' := by
 have hmm := @run_makeMap Tryz.prog
 refine (callsIn_wide (n := 4)).1 ?_
 refine callsIn_of_wp_marks Tryz.func43 rfl trivial ?_ rfl
 simp only [Tryz.ntmps43, List.size_toArray, List.length_cons, List.length_nil, Nat.reduceAdd, Nat.reduceSub, Array.replicate_succ, Array.replicate_zero, List.push_toArray, List.append_toArray, List.nil_append, List.cons_append]
 gi_wp2_with fail
 refine ⟨trivial, (callsIn_wide.2 (names_any ra za la n1 xs.length ls.length rcap zcap lcap _)).mono ?_⟩
 rintro e w6 ⟨rfl, rfl⟩
 gi_wp2
 obtain ⟨N, hN⟩ : ∃ N, w.heap.size = N := ⟨_, rfl⟩
 obtain ⟨V, hV⟩ : ∃ V, (((((w.alloc (.cells #[.slice ra n1 rcap, .slice za xs.length zcap, .slice la ls.length lcap] 26)).alloc (.cells #[.int .i64 0] 28)).alloc (.map #[] 0)).alloc (.cells #[.map (some (w.heap.size + 1 + 1))] 154)).alloc (.cells #[.slice ra n1 rcap, .slice za xs.length zcap, .slice la ls.length lcap] 26)) = V := ⟨_, rfl⟩
 rw [hV]
 have vS : V.heap.size = N + 5 := by rw [← hV]; simp [hN]
 have vr : V.heap[N + 1]? = some (.cells #[.int .i64 0] 28) := by
  rw [← hV, Below.heap_alloc _ _ _ (by simp; omega), Below.heap_alloc _ _ _ (by simp; omega), Below.heap_alloc _ _ _ (by simp; omega)]
  have := World.alloc_heap_new (w.alloc (.cells #[.slice ra n1 rcap, .slice za xs.length zcap, .slice la ls.length lcap] 26)) (.cells #[.int .i64 0] 28)
  simp only [World.size_alloc, hN] at this
  exact this
 have vm : V.ownsMap Tryz.prog 9 (unitElem (H := Unit)) (N + 1 + 1) 0 (strSet []) := by
  have := World.ownsMap_made ((w.alloc (.cells #[.slice ra n1 rcap, .slice za xs.length zcap, .slice la ls.length lcap] 26)).alloc (.cells #[.int .i64 0] 28)) Tryz.prog 9 (unitElem (H := Unit))
  simp only [World.size_alloc, hN] at this
  rw [← hV]
  exact (this.alloc _).alloc _
 have vb : V.heap[N + 1 + 1 + 1]? = some (.cells #[.map (some (N + 1 + 1))] 154) := by
  rw [← hV, Below.heap_alloc _ _ _ (by simp; omega)]
  have := World.alloc_heap_new (((w.alloc (.cells #[.slice ra n1 rcap, .slice za xs.length zcap, .slice la ls.length lcap] 26)).alloc (.cells #[.int .i64 0] 28)).alloc (.map #[] 0)) (.cells #[.map (some (w.heap.size + 1 + 1))] 154)
  simp only [World.size_alloc, hN] at this ⊢
  exact this
 have vB : Below w.heap.size w V := by
  rw [← hV]; exact (((((Below.refl _ w).alloc (Nat.le_refl _) _).alloc (by simp) _).alloc (by simp; omega) _).alloc (by simp; omega) _).alloc (by simp; omega) _
 have XV : CellsAt V (N + 1 + 1 + 1 + 1) [.slice ra n1 rcap, .slice za xs.length zcap, .slice la ls.length lcap] := by
  have := ca_new ((((w.alloc (.cells #[.slice ra n1 rcap, .slice za xs.length zcap, .slice la ls.length lcap] 26)).alloc (.cells #[.int .i64 0] 28)).alloc (.map #[] 0)).alloc (.cells #[.map (some (w.heap.size + 1 + 1))] 154)) [.slice ra n1 rcap, .slice za xs.length zcap, .slice la ls.length lcap] 26
  simp only [World.size_alloc, hN] at this
  rw [← hV, hN]
  exact this
 have HS := hid hs
 have HNL : Hid ((namesOf zs ls).length ≤ 20000) := by
  show _ ≤ _
  have := rdZv_len h2
  unfold namesOf
  rw [List.length_append, List.length_map, List.length_map]
  omega
 have HNN := hid hN
 clear hV hs
 simp only [hN]
 refine wpIn_range_d rfl (by omega) (gf := 157) (lb := #[.pointer (some ⟨N + 1 + 1 + 1 + 1, 0, none⟩)]) rfl trivial (enters_of Tryz.func157 (by kernel_rfl) rfl)
  (names_seq 3 (N + 1 + 1 + 1 + 1) (by omega) xs zs ls za la zcap lcap w V h2 h3 hx hl (ca_at XV 1 rfl).1 (ca_at XV 2 rfl).1 XV.1 vB)
  kpb_t (kpb_b (by omega) (by omega)) (Below.refl _ _) (fun _ => rfl)
  (fun (pre : List Tx.Bs) W => (W.heap[N + 1]? = some (.cells #[.int .i64 0] 28) ∧ W.heap[N + 1 + 1 + 1]? = some (.cells #[.map (some (N + 1 + 1))] 154)) ∧ W.ownsMap Tryz.prog 9 (unitElem (H := Unit)) (N + 1 + 1) pre.length (strSet pre) ∧ Below w.heap.size w W ∧ pre.Nodup)
  (fun c (pre : List Tx.Bs) W => c = .ret ∧ W.heap[N + 1]? = some (.cells #[.int .i64 6] 28) ∧ Below w.heap.size w W ∧ ¬ pre.Nodup)
  (OwnFrom.and (OwnFrom.and (OwnC.own (ownC_heap (by omega))) (OwnC.own (ownC_heap (by omega)))) (OwnFrom.and (fun s W W' row hs hg hr => hs.kept hg (fun e => by have := (hr _ e.symm).1; omega)) (OwnFrom.and (ownFrom_below (Nat.le_refl _) (by omega)) (OwnC.own (ownC_pure _)))))
  (fun c => OwnFrom.and (OwnC.own (ownC_pure _)) (OwnFrom.and (OwnC.own (ownC_heap (by omega))) (OwnFrom.and (ownFrom_below (Nat.le_refl _) (by omega)) (OwnC.own (ownC_pure _)))))
  ⟨⟨vr, vb⟩, vm, vB, List.nodup_nil⟩
  (fun x a' W => a' = { tmps := #[.agg #[.slice ra n1 rcap, .slice za xs.length zcap, .slice la ls.length lcap], .pointer (some ⟨N, 0, none⟩), .pointer (some ⟨N + 1, 0, none⟩), .pointer (some ⟨N + 1 + 1 + 1, 0, none⟩), strV x, undef, undef, .map (some (N + 1 + 1)), .agg #[.slice ra n1 rcap, .slice za xs.length zcap, .slice la ls.length lcap], .func (.func 157) #[] #[.pointer (some ⟨N + 1 + 1 + 1 + 1, 0, none⟩)], strV x, undef, undef, undef, undef, undef, undef, undef, undef, undef, undef], defers := [] })
  ?hAx ?assign ?body ?done ?stop
 case hAx =>
  intro x a' _ X Y row q hg hr
  exact q
 case assign =>
  rintro l pre x W K hI sz hK
  have R := hid (hK { tmps := #[.agg #[.slice ra n1 rcap, .slice za xs.length zcap, .slice la ls.length lcap], .pointer (some ⟨N, 0, none⟩), .pointer (some ⟨N + 1, 0, none⟩), .pointer (some ⟨N + 1 + 1 + 1, 0, none⟩), strV x, undef, undef, .map (some (N + 1 + 1)), .agg #[.slice ra n1 rcap, .slice za xs.length zcap, .slice la ls.length lcap], .func (.func 157) #[] #[.pointer (some ⟨N + 1 + 1 + 1 + 1, 0, none⟩)], strV x, undef, undef, undef, undef, undef, undef, undef, undef, undef, undef], defers := [] } W ((KeepsOthers.refl _).from _) ⟨Below.refl _ _, fun _ => rfl⟩ hI rfl)
  clear hK hI
  gi_wp2
  exact R.out
 case body =>
  rintro l pre x a' W hl' ⟨r, hr⟩ ⟨⟨i0, i1⟩, im, iB, iP⟩ rfl hpx sz
  rw [vS] at sz
  have hxl := HS.out x (prefix_mem hpx)
  have HK := hid (keyStr x hxl)
  have hpl : pre.length < 20000 := by have h1 := hpx.length_le; have := HNL.out; rw [List.length_append] at h1; simp at h1; omega
  obtain ⟨cb, fb⟩ := ca_at (ca_heap2 (vs := [.map (some (N + 1 + 1))]) i1) 0 rfl
  have lb := (Array.getElem?_eq_some_iff.1 i1).1
  obtain ⟨cr, fr⟩ := ca_at (ca_heap2 (vs := [.int .i64 0]) i0) 0 rfl
  have lr := (Array.getElem?_eq_some_iff.1 i0).1
  have HO := hid im
  have I0 := hid i0
  have I1 := hid i1
  have IB := hid iB
  have IP := hid iP
  have SZ := hid sz
  have HH := has_strSet pre x
  obtain ⟨b, hb⟩ : ∃ b, pre.contains x = b := ⟨_, rfl⟩
  rw [hb] at HH
  have HBB := hid hb
  clear im i0 i1 iB iP hr sz hb hpx
  cases b
  case true =>
   gi_wp2_with (gi_at_lookup; refine wpListIn_lookup_own_unit _ rfl _ _ 154 rfl 9 158 lawStr Tryz.underlying154 (Tryz.zeroValue158 _) (N + 1 + 1) pre.length (strSet pre) rfl HO.out _ _ rfl HK.out ?_; rw [HH])
   have P1 := put1 (.int .i64 6) I0.out
   exact ⟨(KeepsOthers.trans (KeepsOthers.setCell _ _ _) (KeepsOthers.alloc _ _)).from _, rfl, (Below.heap_alloc _ _ _ (by have := SZ.out; simp; omega)).trans P1,
    (below_put IB.out (by rw [HNN.out]; omega) 0 _).alloc (by have := IB.out.size; simp; omega) _, not_nodup_snoc HBB.out⟩
  case false =>
   gi_wp2_with (first | (gi_at_lookup; refine wpListIn_lookup_own_unit _ rfl _ _ 154 rfl 9 158 lawStr Tryz.underlying154 (Tryz.zeroValue158 _) (N + 1 + 1) pre.length (strSet pre) rfl HO.out _ _ rfl HK.out ?_; rw [HH]) | (gi_at_mapUpdate; refine wpListIn_mapUpdate_own _ rfl _ _ _ 154 rfl 9 158 lawStr Tryz.underlying154 (unitElem (H := Unit)) (N + 1 + 1) pre.length (strSet pre) rfl (HO.out.alloc _) (by unfold maxLen; omega) _ _ _ rfl rfl HK.out _ [] unitElem_mk ?_; intro w9 hown9 hgrow9))
   have AB : Hid (Below w.heap.size w (W.alloc (.cells #[] 158))) := IB.out.alloc (Nat.le_trans IB.out.size (Nat.le_refl _)) _
   have gs := hgrow9.size
   simp only [World.size_alloc] at gs
   have sz' := SZ.out
   have a0 : (W.alloc (.cells #[] 158)).heap[N + 1]? = some (.cells #[.int .i64 0] 28) := (Below.heap_alloc _ _ _ (by omega)).trans I0.out
   have a1 : (W.alloc (.cells #[] 158)).heap[N + 1 + 1 + 1]? = some (.cells #[.map (some (N + 1 + 1))] 154) := (Below.heap_alloc _ _ _ (by omega)).trans I1.out
   have b9 : Below (N + 1 + 1) (W.alloc (.cells #[] 158)) w9 := ⟨hgrow9.os, hgrow9.tape, hgrow9.output, hgrow9.size, fun k hk => hgrow9.block k (by simp; omega) (by intro e; injection e with e; omega)⟩
   refine ⟨((KeepsOthers.alloc _ _).from _).trans (KeepsFrom.of_grownBy hgrow9 (by intro j e; injection e with e; rw [vS]; omega)), ⟨?_, ?_⟩, ⟨?_, ?_⟩, ?_, ?_, nodup_snoc IP.out HBB.out⟩
   ·exact (((Below.refl W.heap.size W).alloc (Nat.le_refl _) _).mono (by rw [HNN.out]; omega)).trans (b9.mono (by rw [HNN.out]; omega))
   ·intro q
    exact (hgrow9.block _ (by simp; omega) (by intro e; injection e with e; omega)).trans (Below.heap_alloc _ _ _ q)
   ·exact (hgrow9.block _ (by simp; omega) (by intro e; injection e with e; omega)).trans a0
   ·exact (hgrow9.block _ (by simp; omega) (by intro e; injection e with e; omega)).trans a1
   ·rw [List.length_append, strSet_snoc]; exact hown9
   ·exact AB.out.trans (b9.mono (by rw [HNN.out]; omega))
 case done =>
  rintro D ys W hD rfl ⟨⟨i0, i1⟩, im, iB, iP⟩ hK
  rw [vS] at hD
  obtain ⟨cr, fr⟩ := ca_at (ca_heap2 (vs := [.int .i64 0]) i0) 0 rfl
  have E := hid (twice_end (w := w) (W := W.setCell ⟨N + 1, 0, none⟩ (.int .i64 0)) (N := N) (D := D) (v := 0) (R := fun e w' => e = .returned (.int .i64 (twiceE (namesOf zs ls))) ∧ Below w.heap.size w w') (a := { tmps := #[.agg #[.slice ra n1 rcap, .slice za xs.length zcap, .slice la ls.length lcap], .pointer (some ⟨N, 0, none⟩), .pointer (some ⟨N + 1, 0, none⟩), .pointer (some ⟨N + 1 + 1 + 1, 0, none⟩), undef, undef, undef, .map (some (N + 1 + 1)), .agg #[.slice ra n1 rcap, .slice za xs.length zcap, .slice la ls.length lcap], .func (.func 157) #[] #[.pointer (some ⟨N + 1 + 1 + 1 + 1, 0, none⟩)], undef, undef, undef, undef, undef, undef, undef, undef, undef, undef, undef], defers := [{ target := .collected D, args := #[] }] }) rfl rfl (put1 _ i0) (by omega) (by omega) ((Below.heap_setCell _ _ _ _ (by simp; omega)).trans hK) (below_put iB (by omega) 0 _) (fun w' hb => ⟨by unfold twiceE; rw [if_pos iP], hb⟩))
  clear vr vm vb vB vS XV i0 i1 im iB iP hK
  gi_wp2
  exact E.out
 case stop =>
  rintro D c pre W hD hpre ⟨rfl, i0, iB, iP⟩ hK
  rw [vS] at hD
  have E := hid (twice_end (w := w) (N := N) (D := D) (v := 6) (R := fun e w' => e = .returned (.int .i64 (twiceE (namesOf zs ls))) ∧ Below w.heap.size w w') (a := { tmps := #[.agg #[.slice ra n1 rcap, .slice za xs.length zcap, .slice la ls.length lcap], .pointer (some ⟨N, 0, none⟩), .pointer (some ⟨N + 1, 0, none⟩), .pointer (some ⟨N + 1 + 1 + 1, 0, none⟩), undef, undef, undef, .map (some (N + 1 + 1)), .agg #[.slice ra n1 rcap, .slice za xs.length zcap, .slice la ls.length lcap], .func (.func 157) #[] #[.pointer (some ⟨N + 1 + 1 + 1 + 1, 0, none⟩)], undef, undef, undef, undef, undef, undef, undef, undef, undef, undef, undef], defers := [{ target := .collected D, args := #[] }] }) rfl rfl i0 (by omega) (by omega) hK iB (fun w' hb => ⟨by unfold twiceE; rw [if_neg (not_nodup_of_prefix hpre iP)], hb⟩))
  clear vr vm vb vB vS XV i0 iB iP hK
  gi_wp2
  exact E.out
end
section
open Go.RowKit Go.Shelf Go.Maps
attribute [local go_sem] Oper.semAt_some

theorem wpListIn_insert_own {H : Type} {F : Fence} {nF : Nat} {P : Program} (w : World) {ops : Array Oper} {rest : List Oper} {o : Oper} {a : Act} {Q : Exit → Act → World → Prop}
  (hg : o.guard = none) (m x v : Operand) (t : TypeId) (hop : o.op = Op.insert t m x v)
  (k e : TypeId) (K : Keyed P k) (ht : P.underlying t = some (.map k e)) (R : Value → Option (DataW H × List MemPlace)) (b n : Nat) (D : DataW H)
  (hm : a.eval m = .map (some b)) (hown : w.ownsMap P k R b n D) (hn : n < maxLen) (key val : Value) (kl : Lit) (hx : a.eval x = key) (hv : a.eval v = val) (hkey : keyOf P k key = some kl)
  (d : DataW H) (ps : List MemPlace) (hval : R val = some (d, ps))
  (hK : ∀ w', w'.ownsMap P k R b (n + 1) (D.put kl d) → w.grownBy w' (some b) → wpListIn F nF P ops Q rest (a.put o.dst undef) w') :
  wpListIn F nF P ops Q (o :: rest) a w := by
 refine wpListIn_plain hg fun K' hK' => ?_
 obtain ⟨w', hrun, r1, r2⟩ := hown.update K ht hn hkey hval
 unfold Oper.wpIn
 refine ⟨by simp [Oper.about, hop], ?_⟩
 rw [Oper.semAt_plain F _ _ (by rw [hop]; intro c hc'; cases hc')]
 simp [execOp, hop, hm, hx, hv, hrun, Result.andThen]
 exact hK' _ _ (hK w' r1 r2)

/- what is wrong with the rules that eras name: the first of what rule.Times answers -/
def askE (rs : List Sx.Rl) : List Sx.Er → Int
 | [] => 0
 | e :: r => if e.rules = [] ∨ Sx.timesE rs e.rules e.shift = 0 then askE rs r else Sx.timesE rs e.rules e.shift
theorem askE_cons {rs : List Sx.Rl} (e : Sx.Er) (r : List Sx.Er) : askE rs (e :: r) = if e.rules = [] ∨ Sx.timesE rs e.rules e.shift = 0 then askE rs r else Sx.timesE rs e.rules e.shift := rfl
theorem askE_app {rs : List Sx.Rl} : ∀ {l : List Sx.Er} (r : List Sx.Er), askE rs l = 0 → askE rs (l ++ r) = askE rs r
 | [], _, _ => rfl
 | e :: l, r, h => by
   rw [List.cons_append]
   rw [askE_cons] at h ⊢
   split
   ·rename_i q; rw [if_pos q] at h; exact askE_app r h
   ·rename_i q; rw [if_neg q] at h; exact absurd (Or.inr h) q
theorem askE_stop {rs : List Sx.Rl} : ∀ {l : List Sx.Er} (r : List Sx.Er), askE rs l ≠ 0 → askE rs (l ++ r) = askE rs l
 | [], _, h => absurd rfl h
 | e :: l, r, h => by
   rw [List.cons_append]
   rw [askE_cons] at h
   rw [askE_cons, askE_cons]
   split
   ·rename_i q; rw [if_pos q] at h; exact askE_stop r h
   ·rfl
theorem askE_mem {rs : List Sx.Rl} : ∀ {l : List Sx.Er}, askE rs l = 0 → ∀ e ∈ l, e.rules = [] ∨ Sx.timesE rs e.rules e.shift = 0
 | [], _, _, he => by cases he
 | a :: l, h, e, he => by
   rw [askE_cons] at h
   split at h
   ·rename_i q
    rcases List.mem_cons.1 he with rfl | he
    ·exact q
    ·exact askE_mem h e he
   ·rename_i q; exact absurd (Or.inr h) q
theorem askE_snoc_skip {rs : List Sx.Rl} {pre : List Sx.Er} {e : Sx.Er} (h : askE rs pre = 0) (he : e.rules = [] ∨ Sx.timesE rs e.rules e.shift = 0) : askE rs (pre ++ [e]) = 0 := by
 rw [askE_app _ h, askE_cons]; rw [if_pos he]; rfl
theorem askE_snoc_bad {rs : List Sx.Rl} {pre : List Sx.Er} {e : Sx.Er} (h : askE rs pre = 0) (he : e.rules ≠ []) (hE : Sx.timesE rs e.rules e.shift ≠ 0) : askE rs (pre ++ [e]) = Sx.timesE rs e.rules e.shift := by
 rw [askE_app _ h, askE_cons]; rw [if_neg (by intro q; rcases q with q | q; exact he q; exact hE q)]
theorem askE_prefix {rs : List Sx.Rl} {pre l : List Sx.Er} (h : pre <+: l) (hp : askE rs pre ≠ 0) : askE rs l = askE rs pre := by
 obtain ⟨r, rfl⟩ := h; exact askE_stop r hp
/- the names seen: those of the eras before, and the empty one -/
def SeenOf (L : List Tx.Bs) (pre : List Sx.Er) : Prop := ∀ s, s ∈ L ↔ s = [] ∨ ∃ e ∈ pre, e.rules = s
theorem seen_nil : SeenOf [[]] [] := by intro s; simp
theorem seen_same {L : List Tx.Bs} {pre : List Sx.Er} {e : Sx.Er} (h : SeenOf L pre) (he : e.rules ∈ L) : SeenOf L (pre ++ [e]) := by
 intro s
 rw [h s]
 constructor
 ·rintro (q | ⟨x, hx, q⟩)
  ·exact .inl q
  ·exact .inr ⟨x, List.mem_append_left _ hx, q⟩
 ·rintro (q | ⟨x, hx, q⟩)
  ·exact .inl q
  ·rcases List.mem_append.1 hx with hx | hx
   ·exact .inr ⟨x, hx, q⟩
   ·rw [List.mem_singleton] at hx
    subst hx; subst q
    exact (h _).1 he
theorem seen_snoc {L : List Tx.Bs} {pre : List Sx.Er} {e : Sx.Er} (h : SeenOf L pre) : SeenOf (L ++ [e.rules]) (pre ++ [e]) := by
 intro s
 rw [List.mem_append, h s, List.mem_singleton]
 constructor
 ·rintro ((q | ⟨x, hx, q⟩) | q)
  ·exact .inl q
  ·exact .inr ⟨x, List.mem_append_left _ hx, q⟩
  ·exact .inr ⟨e, by simp, q.symm⟩
 ·rintro (q | ⟨x, hx, q⟩)
  ·exact .inl (.inl q)
  ·rcases List.mem_append.1 hx with hx | hx
   ·exact .inl (.inr ⟨x, hx, q⟩)
   ·rw [List.mem_singleton] at hx
    subst hx
    exact .inr q.symm
theorem ca_ownMap {H : Type} {P : Program} {k : TypeId} {R : Value → Option (DataW H × List MemPlace)} {w w' : World} {b n : Nat} {D : DataW H} (h : w.ownsMap P k R b n D) (hb : Below w.heap.size w w') : w'.ownsMap P k R b n D :=
 h.kept (row := none) ⟨hb.os, hb.tape, hb.output, hb.size, fun j hj _ => hb.block j hj⟩ (by simp)
theorem ask_end {w W : World} {N D : Nat} {a : Act} {v : Int} {R : Ending → World → Prop} (h2 : a.tmps.getD 2 undef = .pointer (some ⟨N + 1, 0, none⟩)) (hd : a.defers = [{ target := .collected D, args := #[] }])
  (i1 : W.heap[N + 1]? = some (.cells #[.int .i64 v] 28)) (hD : N + 1 < D) (hN : w.heap.size ≤ N) (hK : W.heap[D]? = some (.deferred (some []))) (hB : Below w.heap.size w W) (hR : ∀ w', Below w.heap.size w w' → R (.returned (.int .i64 v)) w') :
  bodyPostM Fence.wide 4 Tryz.prog Tryz.f45 R .ret a W := by
 obtain ⟨tm, df⟩ := a
 dsimp only at h2 hd
 subst hd
 rw [Array.getD_eq_getD_getElem?] at h2
 have hX := belowK_b (w := w) (Nat.le_refl _) W D _ (.deferred none) (by omega) hK rfl rfl
 have j1 : (W.putObj D (.deferred none)).heap[N + 1]? = some (.cells #[.int .i64 v] 28) := (World.putObj_heap_other (by omega)).trans i1
 refine ⟨by simp, .inl ⟨_, _, rfl, run_takeDeferred hK, ?_⟩⟩
 have BX := hB.trans hX
 generalize W.putObj D (.deferred none) = X at j1 BX ⊢
 have y0 := (ca_at (ca_heap2 (vs := [.int .i64 v]) j1) 0 rfl).1
 clear j1 i1 hK hB hX
 refine ⟨.int .i64 v, ?_, hR X BX⟩
 simp [results, Tryz.results45, go_sem, *]
theorem checkTimes_any (zs : List Sx.Zn) (rs : List Sx.Rl) (xs : List ZV) (ra za la : Option Addr) (n3 rcap zcap lcap : Nat) (w : World) (h1 : RdRules w (.slice ra rs.length rcap) rs) (h2 : RdZv w (.slice za xs.length zcap) zs xs)
  (hx : xs.length ≤ 10000) (hes : ∀ p ∈ xs, p.z.eras.length ≤ 10000) (hn : (erasOf xs).length ≤ 100000) (hs : ∀ r ∈ rs, r.name.length ≤ maxLen ∧ r.letter.length ≤ maxLen) (hr : ∀ e ∈ erasOf xs, e.rules.length ≤ maxLen)
  (hz : ∀ e ∈ erasOf xs, ∀ e' ∈ erasOf xs, e.rules = e'.rules → Sx.timesE rs e.rules e.shift = Sx.timesE rs e'.rules e'.shift) :
  Calls Tryz.prog 45 #[.agg #[.slice ra rs.length rcap, .slice za xs.length zcap, .slice la n3 lcap]] w fun e w' => e = .returned (.int .i64 (askE rs (erasOf xs))) ∧ Below w.heap.size w w' := by
 have hmm := @run_makeMap Tryz.prog
 have H1 := hid h1
 have H2 := hid h2
 have HS := hid hs
 have HR := hid hr
 have HZ := hid hz
 have HX := hid hx
 have HES := hid hes
 have HN := hid hn
 clear h1 h2 hs hr hz hx hes hn
 have HK0 := hid (keyStr [] (by simp))
 have HO0 : Hid ((((w.alloc (.cells #[.slice ra rs.length rcap, .slice za xs.length zcap, .slice la n3 lcap] 26)).alloc (.cells #[.int .i64 0] 28)).alloc (.map #[] 0)).ownsMap Tryz.prog 9 (unitElem (H := Unit)) (w.heap.size + 1 + 1) 0 (strSet [])) := by
  have := World.ownsMap_made ((w.alloc (.cells #[.slice ra rs.length rcap, .slice za xs.length zcap, .slice la n3 lcap] 26)).alloc (.cells #[.int .i64 0] 28)) Tryz.prog 9 (unitElem (H := Unit))
  simp only [World.size_alloc] at this
  exact this
 have X0 := hid (ca_alloc (ca_alloc (ca_new w [.slice ra rs.length rcap, .slice za xs.length zcap, .slice la n3 lcap] 26) (.cells #[.int .i64 0] 28)) (.map #[] 0))
 have E0 : Hid ((((w.alloc (.cells #[.slice ra rs.length rcap, .slice za xs.length zcap, .slice la n3 lcap] 26)).alloc (.cells #[.int .i64 0] 28)).alloc (.map #[] 0)).heap[w.heap.size + 1]? = some (.cells #[.int .i64 0] 28)) := by
  show _ = _
  rw [Below.heap_alloc _ _ _ (by simp)]
  have := World.alloc_heap_new (w.alloc (.cells #[.slice ra rs.length rcap, .slice za xs.length zcap, .slice la n3 lcap] 26)) (.cells #[.int .i64 0] 28)
  rwa [World.size_alloc] at this
 have S0 : Hid ((((w.alloc (.cells #[.slice ra rs.length rcap, .slice za xs.length zcap, .slice la n3 lcap] 26)).alloc (.cells #[.int .i64 0] 28)).alloc (.map #[] 0)).heap[w.heap.size]? = some (.cells #[.slice ra rs.length rcap, .slice za xs.length zcap, .slice la n3 lcap] 26)) := by
  show _ = _
  rw [Below.heap_alloc _ _ _ (by simp; omega), Below.heap_alloc _ _ _ (by simp)]
  exact World.alloc_heap_new w _
 have B0 : Hid (Below w.heap.size w (((w.alloc (.cells #[.slice ra rs.length rcap, .slice za xs.length zcap, .slice la n3 lcap] 26)).alloc (.cells #[.int .i64 0] 28)).alloc (.map #[] 0))) := ((((Below.refl _ w).alloc (Nat.le_refl _) _).alloc (by simp) _).alloc (by simp; omega) _)
 refine (callsIn_wide (n := 4)).1 ?_
 refine callsIn_of_wp_marks Tryz.func45 rfl trivial ?_ rfl
 simp only [Tryz.ntmps45, List.size_toArray, List.length_cons, List.length_nil, Nat.reduceAdd, Nat.reduceSub, Array.replicate_succ, Array.replicate_zero, List.push_toArray, List.append_toArray, List.nil_append, List.cons_append]
 gi_wp2_with (first
  | (refine wpListIn_insert_own _ rfl _ _ _ 154 rfl 9 158 lawStr Tryz.underlying154 (unitElem (H := Unit)) (w.heap.size + 1 + 1) 0 (strSet []) rfl HO0.out (by unfold maxLen; omega) _ _ _ rfl rfl HK0.out _ [] unitElem_mk ?_; intro w1 hown1 hgrow1; have X1 := hid (ca_grown X0.out hgrow1 (by omega)); obtain ⟨x1, f1⟩ := ca_at X1.out 1 rfl; have sx := X1.out.1)
  | fail)
 refine ⟨trivial, (callsIn_wide.2 (eras_any za xs.length zcap _)).mono ?_⟩
 rintro e w6 ⟨rfl, rfl⟩
 obtain ⟨N, hN⟩ : ∃ N, w.heap.size = N := ⟨_, rfl⟩
 obtain ⟨N1, hN1⟩ : ∃ N1, w1.heap.size = N1 := ⟨_, rfl⟩
 rw [hN] at hown1 hgrow1 X1 x1 f1 sx
 rw [hN] at B0 E0 S0
 have gs := hgrow1.size
 simp only [World.size_alloc, hN, hN1] at gs
 obtain ⟨V, hV⟩ : ∃ V, (w1.alloc (.cells #[.map (some (N + 1 + 1))] 154)).alloc (.cells #[.slice za xs.length zcap] 23) = V := ⟨_, rfl⟩
 have hsz : (w1.alloc (.cells #[.map (some (N + 1 + 1))] 154)).heap.size = N1 + 1 := by simp [hN1]
 have vS : V.heap.size = N1 + 2 := by rw [← hV]; simp [hN1]
 have k1 : ∀ j, j < N1 → V.heap[j]? = w1.heap[j]? := fun j hj => by rw [← hV, Below.heap_alloc _ _ _ (by simp; omega), Below.heap_alloc _ _ _ (by omega)]
 have vr : V.heap[N + 1]? = some (.cells #[.int .i64 0] 28) := (k1 _ (by omega)).trans ((hgrow1.block _ (by simp; omega) (by intro e; injection e with e; omega)).trans E0.out)
 have vs : V.heap[N]? = some (.cells #[.slice ra rs.length rcap, .slice za xs.length zcap, .slice la n3 lcap] 26) := (k1 _ (by omega)).trans ((hgrow1.block _ (by simp; omega) (by intro e; injection e with e; omega)).trans S0.out)
 have vb : V.heap[N1]? = some (.cells #[.map (some (N + 1 + 1))] 154) := by
  rw [← hV, Below.heap_alloc _ _ _ (by simp; omega), ← hN1]
  exact World.alloc_heap_new w1 _
 have vm : V.ownsMap Tryz.prog 9 (unitElem (H := Unit)) (N + 1 + 1) 1 (strSet [[]]) := by
  rw [← hV]
  exact (hown1.alloc _).alloc _
 have vc : V.cell? ⟨N1 + 1, 0, none⟩ = some (.slice za xs.length zcap) := by
  have := ca_at (ca_new (w1.alloc (.cells #[.map (some (N + 1 + 1))] 154)) [.slice za xs.length zcap] 23) 0 rfl
  rw [hsz] at this
  rw [← hV]; exact this.1
 have vB : Below N w V := by
  rw [← hV]
  exact ((B0.out.grown hgrow1 (by have := B0.out.size; omega) (fun j hj => by cases hj; omega)).alloc (by omega) _).alloc (by simp; omega) _
 have HNN := hid hN
 simp only [hN, hN1, hsz, hV]
 clear hown1 hgrow1 X1 x1 f1 sx B0 E0 S0 X0 HO0 k1 hV hsz
 gi_wp2
 refine wpIn_range_d rfl (by omega) (gf := 110) (lb := #[.pointer (some ⟨N1 + 1, 0, none⟩)]) rfl trivial (enters_of Tryz.func110 (by kernel_rfl) rfl)
  (eras_gen (KpB N (N1 + 1)) 3 (N1 + 1) (by omega) xs zs za zcap V (fun W A h1 h2 => rdZv_below H2.out (by rw [HNN.out]; exact vB.trans ((h1.mono (by omega)).trans h2.1))) HX.out HES.out vc (by omega) (fun W _ => ⟨Below.refl _ _, fun _ => rfl⟩) (fun _ _ _ a b => kpb_t a b) (fun W A o h1 h2 => ⟨(Below.refl _ _).alloc (Nat.le_trans (by omega) (Nat.le_trans h1.size h2.1.size)) _, fun q => Below.heap_alloc _ _ _ q⟩))
  kpb_t (kpb_b (by omega) (by omega)) (Below.refl _ _) (fun _ => rfl)
  (fun (pre : List Sx.Er) W => (W.heap[N + 1]? = some (.cells #[.int .i64 0] 28) ∧ W.heap[N1]? = some (.cells #[.map (some (N + 1 + 1))] 154) ∧ W.heap[N]? = some (.cells #[.slice ra rs.length rcap, .slice za xs.length zcap, .slice la n3 lcap] 26)) ∧ (∃ L, W.ownsMap Tryz.prog 9 (unitElem (H := Unit)) (N + 1 + 1) (pre.length + 1) (strSet L) ∧ SeenOf L pre) ∧ Below N w W ∧ askE rs pre = 0)
  (fun c (pre : List Sx.Er) W => c = .ret ∧ W.heap[N + 1]? = some (.cells #[.int .i64 (askE rs pre)] 28) ∧ Below N w W ∧ askE rs pre ≠ 0)
  (OwnFrom.and (OwnFrom.and (OwnC.own (ownC_heap (by omega))) (OwnFrom.and (OwnC.own (ownC_heap (by omega))) (OwnC.own (ownC_heap (by omega))))) (OwnFrom.and (fun s W W' row hs hg hr => by obtain ⟨L, hm, hL⟩ := hs; exact ⟨L, hm.kept hg (fun e => by have := (hr _ e.symm).1; omega), hL⟩) (OwnFrom.and (ownFrom_below (by omega) (by omega)) (OwnC.own (ownC_pure _)))))
  (fun c => OwnFrom.and (OwnC.own (ownC_pure _)) (OwnFrom.and (fun s W W' row hs hg hr => (grownBy_keeps_cells hg (fun r e => (hr r e).2) hs rfl).trans hs) (OwnFrom.and (ownFrom_below (by omega) (by omega)) (OwnC.own (ownC_pure _)))))
  ⟨⟨vr, vb, vs⟩, ⟨[[]], vm, seen_nil⟩, vB, rfl⟩
  (fun e a' W => ∃ Bx, N1 + 1 < Bx ∧ W.heap[Bx]? = some (.cells (eraCells e).toArray 67 (0, 0)) ∧ a' = { tmps := #[.agg #[.slice ra rs.length rcap, .slice za xs.length zcap, .slice la n3 lcap], .pointer (some ⟨N, 0, none⟩), .pointer (some ⟨N + 1, 0, none⟩), .pointer (some ⟨N1, 0, none⟩), .pointer (some ⟨Bx, 0, none⟩), undef, undef, undef, undef, .map (some (N + 1 + 1)), .agg #[], .map (some (N + 1 + 1)), .pointer (some ⟨N, 1, none⟩), .slice za xs.length zcap, .func (.func 110) #[] #[.pointer (some ⟨N1 + 1, 0, none⟩)], eraV e, undef, undef, undef, undef, undef, undef, undef, undef, undef, undef, undef, undef, undef, undef, undef, undef, undef, undef, undef, undef, undef, undef, undef, undef, undef], defers := [] })
  ?hAx ?assign ?body ?done ?stop
 case hAx =>
  rintro e a' _ X Y row ⟨Bx, q1, q2, q3⟩ hg hr
  refine ⟨Bx, q1, ?_, q3⟩
  rw [hg.block Bx (Array.getElem?_eq_some_iff.1 q2).1 (fun e => by obtain ⟨_, o, ho, hc⟩ := hr Bx e.symm; rw [q2] at ho; cases ho; simp [Obj.isCells] at hc)]
  exact q2
 case assign =>
  rintro l pre e W K ⟨⟨i0, i1, i2⟩, ⟨L, im, iL⟩, iB, iP⟩ sz hK
  rw [vS] at sz
  have KB := hid ((Below.refl W.heap.size W).alloc (Nat.le_refl _) (.cells (eraCells e).toArray 67))
  have R := hid (hK { tmps := #[.agg #[.slice ra rs.length rcap, .slice za xs.length zcap, .slice la n3 lcap], .pointer (some ⟨N, 0, none⟩), .pointer (some ⟨N + 1, 0, none⟩), .pointer (some ⟨N1, 0, none⟩), .pointer (some ⟨W.heap.size, 0, none⟩), undef, undef, undef, undef, .map (some (N + 1 + 1)), .agg #[], .map (some (N + 1 + 1)), .pointer (some ⟨N, 1, none⟩), .slice za xs.length zcap, .func (.func 110) #[] #[.pointer (some ⟨N1 + 1, 0, none⟩)], eraV e, undef, undef, undef, undef, undef, undef, undef, undef, undef, undef, undef, undef, undef, undef, undef, undef, undef, undef, undef, undef, undef, undef, undef, undef, undef], defers := [] } (W.alloc (.cells (eraCells e).toArray 67)) ((KeepsOthers.alloc _ _).from _) ⟨KB.out.mono (by omega), fun q => KB.out.block _ q⟩
   ⟨⟨(KB.out.block _ (by omega)).trans i0, (KB.out.block _ (by omega)).trans i1, (KB.out.block _ (by omega)).trans i2⟩, ⟨L, im.alloc _, iL⟩, iB.alloc (by omega) _, iP⟩ ⟨W.heap.size, by omega, World.alloc_heap_new W _, rfl⟩)
  clear hK i0 i1 i2 im iL iB iP
  gi_wp2
  exact R.out
 case body =>
  rintro l pre e a' W hl ⟨r, hr⟩ ⟨⟨i0, i1, i2⟩, ⟨L, im, iL⟩, iB, iP⟩ ⟨Bx, hBx, hX, rfl⟩ hpx sz
  rw [vS] at sz
  have hmem : e ∈ erasOf xs := prefix_mem hpx
  have hpl : pre.length < 100000 := by have h1 := hpx.length_le; have := HN.out; rw [List.length_append] at h1; simp at h1; omega
  have HK := hid (keyStr e.rules (HR.out e hmem))
  have EX := eraH_of (ca_heap2 hX)
  have EX0 := hid EX
  obtain ⟨x0, x1, x2, x3, x4, x5, x6, x7, x8, x9⟩ := EX
  have LX := hid (Array.getElem?_eq_some_iff.1 hX).1
  have lx := LX.out
  obtain ⟨cb, fb⟩ := ca_at (ca_heap2 (vs := [.map (some (N + 1 + 1))]) i1) 0 rfl
  obtain ⟨cr, fr⟩ := ca_at (ca_heap2 (vs := [.int .i64 0]) i0) 0 rfl
  obtain ⟨cs, fs⟩ := ca_at (ca_heap2 (vs := [.slice ra rs.length rcap, .slice za xs.length zcap, .slice la n3 lcap]) i2) 0 rfl
  have HO := hid im
  have I0 := hid i0
  have I1 := hid i1
  have I2 := hid i2
  have IB := hid iB
  have IP := hid iP
  have IL := hid iL
  have SZ := hid sz
  have HM := hid hmem
  have HPX := hid hpx
  have HXX := hid hX
  have lw0 := (Array.getElem?_eq_some_iff.1 i0).1
  have lw1 := (Array.getElem?_eq_some_iff.1 i1).1
  have lw2 := (Array.getElem?_eq_some_iff.1 i2).1
  have CS9 : Hid (∀ w9, (W.alloc (.cells #[] 158)).grownBy w9 (some (N + 1 + 1)) → CellsAt w9 N [.slice ra rs.length rcap, .slice za xs.length zcap, .slice la n3 lcap] ∧ W.heap.size + 1 ≤ w9.heap.size ∧ EraH Bx e w9 ∧ w9.heap[N + 1]? = some (.cells #[.int .i64 0] 28) ∧ w9.heap[N1]? = some (.cells #[.map (some (N + 1 + 1))] 154) ∧ w9.heap[N]? = some (.cells #[.slice ra rs.length rcap, .slice za xs.length zcap, .slice la n3 lcap] 26) ∧ w9.heap[N1 + 1]? = W.heap[N1 + 1]? ∧ Below N w w9 ∧ KeepsFrom V.heap.size W w9) := by
   intro w9 hg
   have gs9 := hg.size
   simp only [World.size_alloc] at gs9
   have kk : ∀ j, j < W.heap.size → j ≠ N + 1 + 1 → w9.heap[j]? = W.heap[j]? := fun j hj hn => (hg.block j (by simp; omega) (by intro e; injection e with e; omega)).trans (Below.heap_alloc _ _ _ hj)
   have b9 : Below N (W.alloc (.cells #[] 158)) w9 := ⟨hg.os, hg.tape, hg.output, hg.size, fun k hk => hg.block k (by simp; omega) (by intro e; injection e with e; omega)⟩
   refine ⟨ca_heap2 (vs := [.slice ra rs.length rcap, .slice za xs.length zcap, .slice la n3 lcap]) ((kk N (by omega) (by omega)).trans i2), gs9, ?_, (kk _ (by omega) (by omega)).trans i0, (kk _ (by omega) (by omega)).trans i1, (kk _ (by omega) (by omega)).trans i2, kk _ (by omega) (by omega), (iB.alloc (by omega) _).trans b9, ((KeepsOthers.alloc _ _).from _).trans (KeepsFrom.of_grownBy hg (by intro j e; injection e with e; rw [vS]; omega))⟩
   exact eraH_of (ca_heap2 ((kk Bx (by omega) (by omega)).trans hX))
  have CB9 : Hid (∀ w9, (W.alloc (.cells #[] 158)).grownBy w9 (some (N + 1 + 1)) → Below N W w9) := by
   intro w9 hg
   have b9 : Below N (W.alloc (.cells #[] 158)) w9 := ⟨hg.os, hg.tape, hg.output, hg.size, fun k hk => hg.block k (by simp; omega) (by intro e; injection e with e; omega)⟩
   exact (((Below.refl W.heap.size W).alloc (Nat.le_refl _) _).mono (by omega)).trans b9
  have HH := has_strSet L e.rules
  obtain ⟨b, hb⟩ : ∃ b, L.contains e.rules = b := ⟨_, rfl⟩
  rw [hb] at HH
  have HBB := hid hb
  clear im i0 i1 i2 iB iP iL hr sz hb hmem hpx hX
  cases b
  case true =>
   gi_wp2_with (gi_at_lookup; refine wpListIn_lookup_own_unit _ rfl _ _ 154 rfl 9 158 lawStr Tryz.underlying154 (Tryz.zeroValue158 _) (N + 1 + 1) (pre.length + 1) (strSet L) rfl HO.out _ _ rfl HK.out ?_; rw [HH])
   have hin : e.rules ∈ L := List.contains_iff_mem.1 HBB.out
   have hsk : e.rules = [] ∨ Sx.timesE rs e.rules e.shift = 0 := by
    rcases (IL.out _).1 hin with q | ⟨e', he', q⟩
    ·exact .inl q
    ·have hm' : e' ∈ erasOf xs := HPX.out.subset (List.mem_append_left _ he')
     rcases askE_mem IP.out e' he' with q2 | q2
     ·exact .inl (by rw [← q, q2])
     ·exact .inr (by rw [HZ.out e HM.out e' hm' q.symm, q2])
   exact ⟨(KeepsOthers.alloc _ _).from _, ⟨((Below.refl W.heap.size W).alloc (Nat.le_refl _) _).mono (by omega), fun q => Below.heap_alloc _ _ _ q⟩,
    ⟨(Below.heap_alloc _ _ _ lw0).trans I0.out, (Below.heap_alloc _ _ _ lw1).trans I1.out, (Below.heap_alloc _ _ _ lw2).trans I2.out⟩,
    ⟨L, by rw [List.length_append]; exact (HO.out.alloc _).mono (by simp), seen_same IL.out hin⟩, IB.out.alloc (by omega) _, askE_snoc_skip IP.out hsk⟩
  case false =>
   gi_wp2_with (first | (gi_at_lookup; refine wpListIn_lookup_own_unit _ rfl _ _ 154 rfl 9 158 lawStr Tryz.underlying154 (Tryz.zeroValue158 _) (N + 1 + 1) (pre.length + 1) (strSet L) rfl HO.out _ _ rfl HK.out ?_; rw [HH]) | (gi_at_mapUpdate; refine wpListIn_mapUpdate_own _ rfl _ _ _ 154 rfl 9 158 lawStr Tryz.underlying154 (unitElem (H := Unit)) (N + 1 + 1) (pre.length + 1) (strSet L) rfl (HO.out.alloc _) (by unfold maxLen; omega) _ _ _ rfl rfl HK.out _ [] unitElem_mk ?_; intro w9 hown9 hgrow9; have C9 := CS9.out w9 hgrow9; obtain ⟨rz, rf⟩ := ca_at C9.1 0 rfl; obtain ⟨u0, u1, u2, u3, u4, u5, u6, u7, u8, u9⟩ := C9.2.2.1; have sz9 := C9.2.1))
   obtain ⟨cS, sz9', E9, c90, c91, c92, c93, B9, K9⟩ := C9
   have hnin : e.rules ∉ L := fun q => by have := List.contains_iff_mem.2 q; rw [HBB.out] at this; cases this
   have hne : e.rules ≠ [] := fun q => hnin ((IL.out _).2 (.inl q))
   have O9 : Hid (w9.ownsMap Tryz.prog 9 (unitElem (H := Unit)) (N + 1 + 1) ((pre ++ [e]).length + 1) (strSet (L ++ [e.rules]))) := by
    show World.ownsMap _ _ _ _ _ _ _
    rw [List.length_append, strSet_snoc]; exact hown9
   have NE := hid hne
   have C90 := hid c90
   have C91 := hid c91
   have C92 := hid c92
   have C93 := hid c93
   have BB9 := hid B9
   have KK9 := hid K9
   have SZ9 := hid sz9'
   have CT := hid (times_any rs (.slice ra rs.length rcap) e.rules e.shift w9 (rd_below H1.out (by rw [HNN.out]; exact B9)) HS.out)
   obtain ⟨T, hT⟩ : ∃ T, Sx.timesE rs e.rules e.shift = T := ⟨_, rfl⟩
   have HT := hid hT
   have BW9 : Hid (Below N W w9) := CB9.out w9 hgrow9
   have XE : Hid (∀ w'', Below w9.heap.size w9 w'' → EraH Bx e w'' ∧ CellsAt w'' (N + 1) [.int .i64 0] ∧ N + 1 < w''.heap.size) := by
    intro w'' hb
    have := hb.size
    have q : w''.heap[N + 1]? = some (.cells #[.int .i64 0] 28) := (hb.block _ (by omega)).trans c90
    exact ⟨eraH_below E9 hb (by omega), ca_heap2 (vs := [.int .i64 0]) q, by omega⟩
   clear hown9 hgrow9 c90 c91 c92 c93 B9 K9 E9 cS sz9' hT hnin hne rz rf u0 u1 u2 u3 u4 u5 u6 u7 u8 u9
   refine ⟨trivial, (CallsIn.inRound l (callsIn_wide.2 CT.out)).mono ?_⟩
   rintro e1 w10 ⟨v, rfl, hot, hb10⟩
   rw [HT.out]
   obtain ⟨⟨u0, u1, u2, u3, u4, u5, u6, u7, u8, u9⟩, cE, lE⟩ := XE.out w10 hb10
   obtain ⟨cr, fr⟩ := ca_at cE 0 rfl
   have HB10 := hid hb10
   have fin : Hid (T = 0 → KeepsFrom V.heap.size W w10 ∧ KpB N (N1 + 1) W w10 ∧ (w10.heap[N + 1]? = some (.cells #[.int .i64 0] 28) ∧ w10.heap[N1]? = some (.cells #[.map (some (N + 1 + 1))] 154) ∧ w10.heap[N]? = some (.cells #[.slice ra rs.length rcap, .slice za xs.length zcap, .slice la n3 lcap] 26)) ∧ (∃ L, w10.ownsMap Tryz.prog 9 (unitElem (H := Unit)) (N + 1 + 1) ((pre ++ [e]).length + 1) (strSet L) ∧ SeenOf L (pre ++ [e])) ∧ Below N w w10 ∧ askE rs (pre ++ [e]) = 0) := by
    intro hT0
    have := SZ9.out
    have kb := hb10.block
    refine ⟨KK9.out.trans ((keeps_below hb10).from _), ⟨?_, ?_⟩, ⟨(kb _ (by omega)).trans C90.out, (kb _ (by omega)).trans C91.out, (kb _ (by omega)).trans C92.out⟩, ⟨L ++ [e.rules], ca_ownMap O9.out hb10, seen_snoc IL.out⟩, BB9.out.trans (hb10.mono (by omega)), askE_snoc_skip IP.out (.inr (by rw [HT.out, hT0]))⟩
    ·exact BW9.out.trans (hb10.mono (by omega))
    ·intro q
     exact (kb _ (by omega)).trans C93.out
   clear hot hb10 cE
   by_cases hT0 : T = 0
   ·subst hT0
    have F := hid (fin.out rfl)
    clear fin HT NE
    gi_wp2
    exact F.out
   ·have hc : (T == 0) = false := by simp [hT0]
    have hd : decide (T = 0) = false := by simp [hT0]
    gi_wp2
    have ea : askE rs (pre ++ [e]) = T := by rw [askE_snoc_bad IP.out NE.out (by rw [HT.out]; exact hT0), HT.out]
    refine ⟨KK9.out.trans (((keeps_below HB10.out).trans (KeepsOthers.setCell _ _ _)).from _), rfl, ?_, ?_, ?_⟩
    ·rw [ea]
     exact put1 _ ((HB10.out.block _ (by have := SZ9.out; omega)).trans C90.out)
    ·exact below_put (BB9.out.trans (HB10.out.mono (by have := SZ9.out; omega))) (by omega) 0 _
    ·rw [ea]; exact hT0
 case done =>
  rintro D ys W hD rfl ⟨⟨i0, i1, i2⟩, ⟨L, im, iL⟩, iB, iP⟩ hK
  rw [vS] at hD
  obtain ⟨cr, fr⟩ := ca_at (ca_heap2 (vs := [.int .i64 0]) i0) 0 rfl
  have E := hid (ask_end (w := w) (W := W.setCell ⟨N + 1, 0, none⟩ (.int .i64 0)) (N := N) (D := D) (v := 0) (R := fun e w' => e = .returned (.int .i64 (askE rs (erasOf xs))) ∧ Below N w w') (a := { tmps := #[.agg #[.slice ra rs.length rcap, .slice za xs.length zcap, .slice la n3 lcap], .pointer (some ⟨N, 0, none⟩), .pointer (some ⟨N + 1, 0, none⟩), .pointer (some ⟨N1, 0, none⟩), undef, undef, undef, undef, undef, .map (some (N + 1 + 1)), .agg #[], .map (some (N + 1 + 1)), .pointer (some ⟨N, 1, none⟩), .slice za xs.length zcap, .func (.func 110) #[] #[.pointer (some ⟨N1 + 1, 0, none⟩)], undef, undef, undef, undef, undef, undef, undef, undef, undef, undef, undef, undef, undef, undef, undef, undef, undef, undef, undef, undef, undef, undef, undef, undef, undef, undef], defers := [{ target := .collected D, args := #[] }] }) rfl rfl (put1 _ i0) (by omega) (by omega) ((Below.heap_setCell _ _ _ _ (by simp; omega)).trans hK) (below_put (by rw [HNN.out]; exact iB) (by omega) 0 _) (fun w' hb => ⟨by rw [iP], by have := hb; rw [HNN.out] at this; exact this⟩))
  clear vr vm vb vB vS vs vc i0 i1 i2 im iL iB iP hK
  gi_wp2
  exact E.out
 case stop =>
  rintro D c pre W hD hpre ⟨rfl, i0, iB, iP⟩ hK
  rw [vS] at hD
  have E := hid (ask_end (w := w) (N := N) (D := D) (v := askE rs pre) (R := fun e w' => e = .returned (.int .i64 (askE rs (erasOf xs))) ∧ Below N w w') (a := { tmps := #[.agg #[.slice ra rs.length rcap, .slice za xs.length zcap, .slice la n3 lcap], .pointer (some ⟨N, 0, none⟩), .pointer (some ⟨N + 1, 0, none⟩), .pointer (some ⟨N1, 0, none⟩), undef, undef, undef, undef, undef, .map (some (N + 1 + 1)), .agg #[], .map (some (N + 1 + 1)), .pointer (some ⟨N, 1, none⟩), .slice za xs.length zcap, .func (.func 110) #[] #[.pointer (some ⟨N1 + 1, 0, none⟩)], undef, undef, undef, undef, undef, undef, undef, undef, undef, undef, undef, undef, undef, undef, undef, undef, undef, undef, undef, undef, undef, undef, undef, undef, undef, undef], defers := [{ target := .collected D, args := #[] }] }) rfl rfl i0 (by omega) (by omega) hK (by rw [HNN.out]; exact iB) (fun w' hb => ⟨by rw [askE_prefix hpre iP], by have := hb; rw [HNN.out] at this; exact this⟩))
  clear vr vm vb vB vS vs vc i0 iB iP hK
  gi_wp2
  exact E.out
end
section
open Go.RowKit Go.Shelf

def risingB : List Int → Bool
 | [] => true
 | [_] => true
 | a :: b :: r => decide (a < b) && risingB (b :: r)
theorem rising_step {l : List Int} {k : Nat} {a b : Int} (ha : l[k]? = some a) (hb : l[k + 1]? = some b) : risingB (l.drop k) = (decide (a < b) && risingB (l.drop (k + 1))) := by
 rw [Sx.drop_get ha, Sx.drop_get hb]; rfl
theorem rising_end {l : List Int} {k : Nat} (h : l.length ≤ k + 1) : risingB (l.drop k) = true := by
 have hl : (l.drop k).length ≤ 1 := by simp; omega
 match l.drop k, hl with
 | [], _ => rfl
 | [_], _ => rfl
 | _ :: _ :: _, h => simp at h
theorem isRising_any (l : List Int) (v : Value) (w : World) (h : RdInts w v l) (hl : l.length ≤ 10000) :
  Calls Tryz.prog 109 #[v] w fun e w' => e = .returned (.bool (risingB l)) ∧ Below w.heap.size w w' := by
 obtain ⟨ra, rcap, rfl⟩ := rd_shape h
 have H := hid h
 obtain ⟨R, hR⟩ : ∃ R, risingB l = R := ⟨_, rfl⟩
 rw [hR]
 have HR : Hid (R = risingB (l.drop 0)) := hR.symm
 clear h hR
 go_enter Tryz.func109, Tryz.ntmps109
 go_wp2_with fail
 go_loopw [3] (fun a wr => ∃ k : Nat, k ≤ l.length ∧ a = .int .i64 (k + 1) ∧ Hid (Below w.heap.size w wr) ∧ Hid (R = risingB (l.drop k))) (fun a _ => l.length + 1 - (intOf a).toNat)
 case atStart => exact ⟨0, Nat.zero_le _, rfl, Below.refl _ _, HR⟩
 case round =>
  clear HR
  obtain ⟨k, hk, rfl, B0, HR⟩ := hrel
  by_cases hlt : k + 1 < l.length
  case neg =>
   have HR2 : Hid (R = true) := by show _ = _; rw [HR.out]; exact rising_end (by omega)
   have hn : ¬ ((k : Int) + 1 < (l.length : Int)) := by omega
   clear hlt
   go_wp2
   go_ret
   exact ⟨ret_bool (by rw [HR2.out]), B0.out⟩
  obtain ⟨a, ha⟩ : ∃ a, l[k]? = some a := ⟨_, List.getElem?_eq_getElem (by omega)⟩
  obtain ⟨b, hb⟩ : ∃ b, l[k + 1]? = some b := ⟨_, List.getElem?_eq_getElem hlt⟩
  have HS := hid (rising_step ha hb)
  have RW := rd_below H.out B0.out
  obtain ⟨rb, ro, rfl, hrb, hc⟩ := rd_elem RW ha
  obtain ⟨rb', ro', e2, _, hc'⟩ := rd_elem RW hb
  simp only [Option.some.injEq, Addr.mk.injEq] at e2
  obtain ⟨rfl, rfl, _⟩ := e2
  have c0 : wr.cell? ⟨rb, ro + k, none⟩ = some (.int .i64 a) := by have := hc 0 _ rfl; simpa using this
  have c1 : wr.cell? ⟨rb, ro + (k + 1), none⟩ = some (.int .i64 b) := by have := hc' 0 _ rfl; simpa using this
  have hp : (k : Int) + 1 < (l.length : Int) := by omega
  have hp2 : (k : Int) < (l.length : Int) := by omega
  clear hc hc' ha hb RW
  by_cases hab : a < b
  ·have hnb : ¬ b ≤ a := by omega
   have HR2 : Hid (R = risingB (l.drop (k + 1))) := by show _ = _; rw [HR.out, HS.out, decide_eq_true hab]; rfl
   clear HR HS
   go_wp2_with fail
   go_quiet (fail)
   go_wp2
   go_roundw
   case rel => exact ⟨k + 1, by omega, by go_num, below_drewN B0.out _, HR2⟩
   case measure => simp [intOf]; omega
  ·have hnb : b ≤ a := by omega
   have HR2 : Hid (R = false) := by show _ = _; rw [HR.out, HS.out, decide_eq_false hab]; rfl
   clear HR HS
   go_wp2_with fail
   go_quiet (fail)
   go_wp2
   go_ret
   exact ⟨ret_bool (by rw [HR2.out]), below_drewN B0.out _⟩
theorem ends1_any (x : ZV) (w : World) (h : RdEras w (.slice x.a x.z.eras.length x.c) x.z.eras) (hl : x.z.eras.length ≤ 1000) (hcp : x.z.eras.length ≤ x.c) (hok : ∀ e ∈ x.z.eras, e.opn = true ∨ EndOk e) :
  Calls Tryz.prog 108 #[zvV x] w fun e w' => e = .returned (.bool (!risingB (endsE x.z.eras))) ∧ Below w.heap.size w w' := by
 have BV := hid ((Below.refl w.heap.size w).alloc (Nat.le_refl _) (.cells (zvCells x).toArray 44))
 have XV := ca_new w (zvCells x) 44
 have sx := XV.1
 have C := hid (ends_any x (w.alloc (.cells (zvCells x).toArray 44)) (rd_below h BV.out) hl hcp hok)
 have HL : Hid ((endsE x.z.eras).length ≤ 10000) := by
  show _ ≤ _
  have h2 : (endsE x.z.eras).length ≤ x.z.eras.length := by unfold endsE; rw [List.length_map]; exact List.length_filter_le _ _
  omega
 clear XV h hl hcp hok
 go_enter Tryz.func108, Tryz.ntmps108
 go_wp2_with fail
 refine C.out.mono ?_
 rintro e w1 ⟨v, rfl, hown, hb⟩
 have B1 : Hid (Below w.heap.size w w1) := BV.out.trans (hb.mono BV.out.size)
 have R1 := hid (ownEnds_rd hown)
 obtain ⟨ra, rcap, rfl⟩ := rd_shape R1.out
 clear hown hb
 go_wp2_with fail
 refine (isRising_any _ _ _ R1.out HL.out).mono ?_
 rintro e w2 ⟨rfl, hb⟩
 have B2 : Hid (Below w.heap.size w w2) := B1.out.trans (hb.mono B1.out.size)
 clear hb
 go_wp2
 go_ret
 exact ⟨rfl, B2.out⟩
def endsErr (xs : List ZV) : Int := if (xs.any fun p => !risingB (endsE p.z.eras)) = true then 4 else 0
theorem checkEnds_any (zs : List Sx.Zn) (xs : List ZV) (rv lv : Value) (ra za la : Option Addr) (n1 n3 rcap zcap lcap : Nat) (w : World) (h2 : RdZv w (.slice za xs.length zcap) zs xs) (hx : xs.length ≤ 10000) (he : ∀ p ∈ xs, p.z.eras.length ≤ 1000) (hok : ∀ p ∈ xs, ∀ e ∈ p.z.eras, e.opn = true ∨ EndOk e) :
  Calls Tryz.prog 46 #[.agg #[.slice ra n1 rcap, .slice za xs.length zcap, .slice la n3 lcap]] w fun e w' => e = .returned (.int .i64 (endsErr xs)) ∧ Below w.heap.size w w' := by
 have BV := hid ((Below.refl w.heap.size w).alloc (Nat.le_refl _) (.cells [.slice ra n1 rcap, .slice za xs.length zcap, .slice la n3 lcap].toArray 26))
 obtain ⟨V, hV⟩ : ∃ V, w.alloc (.cells #[.slice ra n1 rcap, .slice za xs.length zcap, .slice la n3 lcap] 26) = V := ⟨_, rfl⟩
 have hV' : w.alloc (.cells [.slice ra n1 rcap, .slice za xs.length zcap, .slice la n3 lcap].toArray 26) = V := hV
 have XV := ca_new w [.slice ra n1 rcap, .slice za xs.length zcap, .slice la n3 lcap] 26
 rw [hV'] at BV XV
 obtain ⟨x1, _⟩ := ca_at XV 1 rfl
 have sx := XV.1
 clear XV
 have R2 := rdZv_below h2 BV.out
 have e1 : ∀ args w, (callFunc 108 args).run Tryz.prog w = .ok (.enter 108 args) w := enters_of Tryz.func108 (by kernel_rfl) rfl
 have eZ : ∀ args w, (callFunc 161 args).run Tryz.prog w = .ok (.enter 161 args) w := enters_of Tryz.func161 (by kernel_rfl) rfl
 have hWL : Below V.heap.size V (V.alloc (.cells #[.slice za xs.length zcap] 23)) := (Below.refl V.heap.size V).alloc (Nat.le_refl _) _
 have C1 := hid (hasZ_any 161 108 #[.pointer (some ⟨V.heap.size, 0, none⟩)] #[] (fun p => !risingB (endsE p.z.eras)) xs (V.alloc (.cells #[.slice za xs.length zcap] 23)) eZ e1
   (fun w1 hw1 => valsZ_seq 3 V.heap.size (by omega) xs za zcap (V.alloc (.cells #[.slice za xs.length zcap] 23)) w1 (rd_below R2.rd hWL) hx ((hw1.cell (p := ⟨V.heap.size, 0, none⟩) (by simp)).trans (ca_at (ca_new V [.slice za xs.length zcap] 23) 0 rfl).1) (Nat.lt_of_lt_of_le (by simp) hw1.size) hw1)
   (fun x hxx W' hW' => by
    have hh := hWL.trans (hW'.mono hWL.size)
    exact ends1_any x W' (rd_below (R2.eras x hxx) hh) (he x hxx) (R2.cap x hxx) (hok x hxx)))
 have HTE : Hid (endsErr xs = if (xs.any fun p => !risingB (endsE p.z.eras)) = true then 4 else 0) := rfl
 obtain ⟨A, hA⟩ : ∃ A, (xs.any fun p => !risingB (endsE p.z.eras)) = A := ⟨_, rfl⟩
 rw [hA] at C1 HTE
 clear R2 h2 hx he e1 eZ hV' hok hA hWL
 go_enter Tryz.func46, Tryz.ntmps46
 go_wp2_with fail
 refine (valsZ_any _ _ _ _).mono ?_
 rintro e w1 ⟨rfl, rfl⟩
 go_wp2_with fail
 refine C1.out.mono ?_
 rintro e w2 ⟨rfl, hb⟩
 have HB2 : Hid (Below V.heap.size V w2) := ((Below.refl V.heap.size V).alloc (Nat.le_refl _) _).trans (hb.mono (by simp))
 clear hb C1
 cases A
 all_goals
  go_wp2
  go_ret
  exact ⟨ret_int (by rw [HTE.out]; rfl), BV.out.trans (HB2.out.mono BV.out.size)⟩
end
section
open Go.RowKit Go.Shelf
attribute [local go_sem] Oper.semAt_some

def errsOf (c : Nat → Int) : Int := if c 0 ≠ 0 then c 0 else if c 1 ≠ 0 then c 1 else if c 2 ≠ 0 then c 2 else if c 3 ≠ 0 then c 3 else c 4
theorem errs_at {c : Nat → Int} {k : Nat} (hk : k < 5) (h : ∀ i < k, c i = 0) (hc : c k ≠ 0) : errsOf c = c k := by
 unfold errsOf
 have d0 : k ≠ 0 → c 0 = 0 := fun q => h 0 (by omega)
 have d1 : 1 < k → c 1 = 0 := fun q => h 1 (by omega)
 have d2 : 2 < k → c 2 = 0 := fun q => h 2 (by omega)
 have d3 : 3 < k → c 3 = 0 := fun q => h 3 (by omega)
 match k, hk, hc with
 | 0, _, hc => rw [if_pos hc]
 | 1, _, hc => rw [if_neg (by simp [d0 (by omega)]), if_pos hc]
 | 2, _, hc => rw [if_neg (by simp [d0 (by omega)]), if_neg (by simp [d1 (by omega)]), if_pos hc]
 | 3, _, hc => rw [if_neg (by simp [d0 (by omega)]), if_neg (by simp [d1 (by omega)]), if_neg (by simp [d2 (by omega)]), if_pos hc]
 | 4, _, hc => rw [if_neg (by simp [d0 (by omega)]), if_neg (by simp [d1 (by omega)]), if_neg (by simp [d2 (by omega)]), if_neg (by simp [d3 (by omega)])]
theorem errs_all {c : Nat → Int} (h : ∀ i < 5, c i = 0) : errsOf c = 0 := by
 unfold errsOf
 rw [h 0 (by omega), h 1 (by omega), h 2 (by omega), h 3 (by omega), h 4 (by omega)]; simp
theorem zCheck_seq (c : Nat → Int) (ra za la : Option Addr) (n1 n2 n3 rcap zcap lcap : Nat) (w : World) (h0 : (∀ i < 0, c i = 0) → ∀ W, Below w.heap.size w W → Calls Tryz.prog 42 #[.agg #[.slice ra n1 rcap, .slice za n2 zcap, .slice la n3 lcap]] W fun e w' => e = .returned (.int .i64 (c 0)) ∧ Below W.heap.size W w') (h1 : (∀ i < 1, c i = 0) → ∀ W, Below w.heap.size w W → Calls Tryz.prog 43 #[.agg #[.slice ra n1 rcap, .slice za n2 zcap, .slice la n3 lcap]] W fun e w' => e = .returned (.int .i64 (c 1)) ∧ Below W.heap.size W w') (h2 : (∀ i < 2, c i = 0) → ∀ W, Below w.heap.size w W → Calls Tryz.prog 44 #[.agg #[.slice ra n1 rcap, .slice za n2 zcap, .slice la n3 lcap]] W fun e w' => e = .returned (.int .i64 (c 2)) ∧ Below W.heap.size W w') (h3 : (∀ i < 3, c i = 0) → ∀ W, Below w.heap.size w W → Calls Tryz.prog 45 #[.agg #[.slice ra n1 rcap, .slice za n2 zcap, .slice la n3 lcap]] W fun e w' => e = .returned (.int .i64 (c 3)) ∧ Below W.heap.size W w') (h4 : (∀ i < 4, c i = 0) → ∀ W, Below w.heap.size w W → Calls Tryz.prog 46 #[.agg #[.slice ra n1 rcap, .slice za n2 zcap, .slice la n3 lcap]] W fun e w' => e = .returned (.int .i64 (c 4)) ∧ Below W.heap.size W w') :
  Calls Tryz.prog 14 #[.agg #[.slice ra n1 rcap, .slice za n2 zcap, .slice la n3 lcap]] w fun e w' => e = .returned (.int .i64 (errsOf c)) ∧ Below w.heap.size w w' := by
 have H0 := hid h0
 have H1 := hid h1
 have H2 := hid h2
 have H3 := hid h3
 have H4 := hid h4
 clear h0 h1 h2 h3 h4
 have XS := hid (ca_alloc (ca_new w [.slice ra n1 rcap, .slice za n2 zcap, .slice la n3 lcap] 26) (.cells #[.func (.func 42) #[] #[], .func (.func 43) #[] #[], .func (.func 44) #[] #[], .func (.func 45) #[] #[], .func (.func 46) #[] #[]] 29))
 have XF := hid (ca_new (w.alloc (.cells #[.slice ra n1 rcap, .slice za n2 zcap, .slice la n3 lcap] 26)) [.func (.func 42) #[] #[], .func (.func 43) #[] #[], .func (.func 44) #[] #[], .func (.func 45) #[] #[], .func (.func 46) #[] #[]] 29)
 have B0 := hid (((Below.refl _ w).alloc (Nat.le_refl _) (.cells #[.slice ra n1 rcap, .slice za n2 zcap, .slice la n3 lcap] 26)).alloc (by simp) (.cells #[.func (.func 42) #[] #[], .func (.func 43) #[] #[], .func (.func 44) #[] #[], .func (.func 45) #[] #[], .func (.func 46) #[] #[]] 29))
 rw [World.size_alloc] at XF
 go_enter Tryz.func14, Tryz.ntmps14
 go_wp2_with fail
 go_loopw [10] (fun a wr => ∃ k : Nat, k ≤ 5 ∧ a = .int .i64 k ∧ Hid (Below w.heap.size w wr) ∧ Hid (CellsAt wr w.heap.size [.slice ra n1 rcap, .slice za n2 zcap, .slice la n3 lcap]) ∧ Hid (CellsAt wr (w.heap.size + 1) [.func (.func 42) #[] #[], .func (.func 43) #[] #[], .func (.func 44) #[] #[], .func (.func 45) #[] #[], .func (.func 46) #[] #[]]) ∧ Hid (∀ i < k, c i = 0)) (fun a _ => 5 - (intOf a).toNat)
 case atStart => exact ⟨0, by omega, rfl, B0, XS, XF, fun i hi => absurd hi (Nat.not_lt_zero _)⟩
 case round =>
  clear B0 XS XF
  obtain ⟨k, hk, rfl, B0, XS, XF, HC⟩ := hrel
  obtain ⟨x0, f0⟩ := ca_at XS.out 0 rfl
  obtain ⟨x1, f1⟩ := ca_at XS.out 1 rfl
  obtain ⟨x2, f2⟩ := ca_at XS.out 2 rfl
  have sx := XS.out.1
  have sf := XF.out.1
  rcases (show k = 0 ∨ k = 1 ∨ k = 2 ∨ k = 3 ∨ k = 4 ∨ k = 5 by omega) with rfl | rfl | rfl | rfl | rfl | rfl
  ·have CC := hid (H0.out HC.out wr B0.out)
   have y := (ca_at XF.out 0 rfl).1
   clear H0 H1 H2 H3 H4
   obtain ⟨E, hE⟩ : ∃ E, c 0 = E := ⟨_, rfl⟩
   rw [hE] at CC
   have HE := hid hE
   clear hE
   go_wp2_with fail
   refine CC.out.mono ?_
   rintro e w1 ⟨rfl, hb⟩
   have B1 := hid (B0.out.trans (hb.mono B0.out.size))
   have X1 := hid (ca_below XS.out hb)
   have Y1 := hid (ca_below XF.out hb)
   clear CC hb B0 XS XF
   by_cases hq : E = 0
   ·subst hq
    have HC2 : Hid (∀ i < 1, c i = 0) := fun i hi => by
     by_cases e : i = 0
     ·rw [e]; exact HE.out
     ·exact HC.out i (by omega)
    clear HC HE
    go_wp2
    go_roundw
    case rel => exact ⟨1, by omega, by go_num, B1, X1, Y1, HC2⟩
    case measure => simp [intOf]
   ·have hq2 : (E == 0) = false := by simp [hq]
    have hq3 : decide (E = 0) = false := by simp [hq]
    go_wp2
    go_ret
    exact ⟨ret_int (by rw [errs_at (by omega) HC.out (by rw [HE.out]; exact hq), HE.out]), B1.out⟩
  ·have CC := hid (H1.out HC.out wr B0.out)
   have y := (ca_at XF.out 1 rfl).1
   clear H0 H1 H2 H3 H4
   obtain ⟨E, hE⟩ : ∃ E, c 1 = E := ⟨_, rfl⟩
   rw [hE] at CC
   have HE := hid hE
   clear hE
   go_wp2_with fail
   refine CC.out.mono ?_
   rintro e w1 ⟨rfl, hb⟩
   have B1 := hid (B0.out.trans (hb.mono B0.out.size))
   have X1 := hid (ca_below XS.out hb)
   have Y1 := hid (ca_below XF.out hb)
   clear CC hb B0 XS XF
   by_cases hq : E = 0
   ·subst hq
    have HC2 : Hid (∀ i < 2, c i = 0) := fun i hi => by
     by_cases e : i = 1
     ·rw [e]; exact HE.out
     ·exact HC.out i (by omega)
    clear HC HE
    go_wp2
    go_roundw
    case rel => exact ⟨2, by omega, by go_num, B1, X1, Y1, HC2⟩
    case measure => simp [intOf]
   ·have hq2 : (E == 0) = false := by simp [hq]
    have hq3 : decide (E = 0) = false := by simp [hq]
    go_wp2
    go_ret
    exact ⟨ret_int (by rw [errs_at (by omega) HC.out (by rw [HE.out]; exact hq), HE.out]), B1.out⟩
  ·have CC := hid (H2.out HC.out wr B0.out)
   have y := (ca_at XF.out 2 rfl).1
   clear H0 H1 H2 H3 H4
   obtain ⟨E, hE⟩ : ∃ E, c 2 = E := ⟨_, rfl⟩
   rw [hE] at CC
   have HE := hid hE
   clear hE
   go_wp2_with fail
   refine CC.out.mono ?_
   rintro e w1 ⟨rfl, hb⟩
   have B1 := hid (B0.out.trans (hb.mono B0.out.size))
   have X1 := hid (ca_below XS.out hb)
   have Y1 := hid (ca_below XF.out hb)
   clear CC hb B0 XS XF
   by_cases hq : E = 0
   ·subst hq
    have HC2 : Hid (∀ i < 3, c i = 0) := fun i hi => by
     by_cases e : i = 2
     ·rw [e]; exact HE.out
     ·exact HC.out i (by omega)
    clear HC HE
    go_wp2
    go_roundw
    case rel => exact ⟨3, by omega, by go_num, B1, X1, Y1, HC2⟩
    case measure => simp [intOf]
   ·have hq2 : (E == 0) = false := by simp [hq]
    have hq3 : decide (E = 0) = false := by simp [hq]
    go_wp2
    go_ret
    exact ⟨ret_int (by rw [errs_at (by omega) HC.out (by rw [HE.out]; exact hq), HE.out]), B1.out⟩
  ·have CC := hid (H3.out HC.out wr B0.out)
   have y := (ca_at XF.out 3 rfl).1
   clear H0 H1 H2 H3 H4
   obtain ⟨E, hE⟩ : ∃ E, c 3 = E := ⟨_, rfl⟩
   rw [hE] at CC
   have HE := hid hE
   clear hE
   go_wp2_with fail
   refine CC.out.mono ?_
   rintro e w1 ⟨rfl, hb⟩
   have B1 := hid (B0.out.trans (hb.mono B0.out.size))
   have X1 := hid (ca_below XS.out hb)
   have Y1 := hid (ca_below XF.out hb)
   clear CC hb B0 XS XF
   by_cases hq : E = 0
   ·subst hq
    have HC2 : Hid (∀ i < 4, c i = 0) := fun i hi => by
     by_cases e : i = 3
     ·rw [e]; exact HE.out
     ·exact HC.out i (by omega)
    clear HC HE
    go_wp2
    go_roundw
    case rel => exact ⟨4, by omega, by go_num, B1, X1, Y1, HC2⟩
    case measure => simp [intOf]
   ·have hq2 : (E == 0) = false := by simp [hq]
    have hq3 : decide (E = 0) = false := by simp [hq]
    go_wp2
    go_ret
    exact ⟨ret_int (by rw [errs_at (by omega) HC.out (by rw [HE.out]; exact hq), HE.out]), B1.out⟩
  ·have CC := hid (H4.out HC.out wr B0.out)
   have y := (ca_at XF.out 4 rfl).1
   clear H0 H1 H2 H3 H4
   obtain ⟨E, hE⟩ : ∃ E, c 4 = E := ⟨_, rfl⟩
   rw [hE] at CC
   have HE := hid hE
   clear hE
   go_wp2_with fail
   refine CC.out.mono ?_
   rintro e w1 ⟨rfl, hb⟩
   have B1 := hid (B0.out.trans (hb.mono B0.out.size))
   have X1 := hid (ca_below XS.out hb)
   have Y1 := hid (ca_below XF.out hb)
   clear CC hb B0 XS XF
   by_cases hq : E = 0
   ·subst hq
    have HC2 : Hid (∀ i < 5, c i = 0) := fun i hi => by
     by_cases e : i = 4
     ·rw [e]; exact HE.out
     ·exact HC.out i (by omega)
    clear HC HE
    go_wp2
    go_roundw
    case rel => exact ⟨5, by omega, by go_num, B1, X1, Y1, HC2⟩
    case measure => simp [intOf]
   ·have hq2 : (E == 0) = false := by simp [hq]
    have hq3 : decide (E = 0) = false := by simp [hq]
    go_wp2
    go_ret
    exact ⟨ret_int (by rw [errs_at (by omega) HC.out (by rw [HE.out]; exact hq), HE.out]), B1.out⟩
  ·clear H0 H1 H2 H3 H4
   go_wp2
   go_ret
   exact ⟨ret_int (by rw [errs_all HC.out]), B0.out⟩
end
namespace Sx
theorem eras_mem : ∀ {l : List Er}, erasE l = 0 → ∀ x ∈ l, ∃ b, eraE x b = 0
 | [], _, x, hx => by cases hx
 | [a], h, x, hx => by rw [List.mem_singleton] at hx; subst hx; exact ⟨true, h⟩
 | a :: b :: r, h, x, hx => by
   have h' : (if eraE a false ≠ 0 then eraE a false else erasE (b :: r)) = 0 := h
   by_cases q : eraE a false = 0
   ·rw [if_neg (by simp [q])] at h'
    rcases List.mem_cons.1 hx with rfl | hx
    ·exact ⟨false, q⟩
    ·exact eras_mem h' x hx
   ·rw [if_pos q] at h'; exact absurd h' q
structure EraOk (x : Er) : Prop where
 name : x.rules = [] ∨ nameB x.rules = true
 fmt : formatB x.format = true
 sh0 : -64800 ≤ x.shift
 sh1 : x.shift ≤ 64800
 sv0 : 0 ≤ x.save
 sv1 : x.save ≤ 10800
 till : x.opn = true ∨ EndOk x
theorem era_ok {x : Er} {b : Bool} (h : eraE x b = 0) : EraOk x := by
 unfold eraE at h
 split at h
 ·cases h
 rename_i h1
 split at h
 ·cases h
 rename_i h2
 split at h
 ·cases h
 rename_i h3
 split at h
 ·cases h
 split at h
 ·cases h
 simp [inB] at h1 h2 h3
 have ht : x.opn = true ∨ EndOk x := by
  unfold endE at h
  by_cases q : x.opn = true
  ·exact .inl q
  ·rw [if_neg q] at h
   split at h
   ·cases h
   rename_i h4
   split at h
   ·cases h
   rename_i h5
   simp [inB] at h4 h5
   exact .inr ⟨h4, h5.1, h5.2, h2.1, h2.2⟩
 refine ⟨?_, h1.2, h2.1, h2.2, h3.1, h3.2, ht⟩
 rcases h1.1 with q | q
 ·exact .inl (by simpa using q)
 ·exact .inr q
structure SrcOk (s : Sr) : Prop where
 many : manyB s = false
 rule : ∀ r ∈ s.rules, ruleE r = 0
 zone : ∀ z ∈ s.zones, zoneE z = 0
 link : ∀ l ∈ s.links, linkE l = 0
theorem src_okZ {s : Sr} (h : srcE s = 0) : SrcOk s := by
 unfold srcE at h
 split at h
 ·cases h
 rename_i h1
 unfold orE at h
 split at h
 ·rename_i q; exact absurd h q
 rename_i h2
 split at h
 ·rename_i q; exact absurd h q
 rename_i h3
 simp at h1 h2 h3
 exact ⟨by simpa using h1, firstE_zero _ h2, firstE_zero _ h3, firstE_zero _ h⟩
theorem zone_eras {z : Zn} (h : zoneE z = 0) : ∀ x ∈ z.eras, EraOk x := by
 unfold zoneE at h
 split at h
 ·cases h
 ·intro x hx
  obtain ⟨b, hb⟩ := eras_mem h x hx
  exact era_ok hb
theorem times_same {rs : List Rl} {nm : Tx.Bs} {a b : Int} (ha : -64800 ≤ a ∧ a ≤ 64800) (hb : -64800 ≤ b ∧ b ≤ 64800) : timesE rs nm a = timesE rs nm b := by
 unfold timesE
 rw [show inB a (-64800) 64800 = true by simp [inB]; omega, show inB b (-64800) 64800 = true by simp [inB]; omega]
end Sx
section
open Go.RowKit Go.Shelf
/- what zone.Check answers -/
def zoneC (s : Sx.Sr) (xs : List ZV) : Nat → Int
 | 0 => Sx.srcE s
 | 1 => twiceE (namesOf s.zones s.links)
 | 2 => thereE s.rules s.links xs
 | 3 => askE s.rules (erasOf xs)
 | _ => endsErr xs
def zoneErr (s : Sx.Sr) (xs : List ZV) : Int := errsOf (zoneC s xs)
theorem zv_mem {w : World} {v : Value} {zs : List Sx.Zn} {xs : List ZV} (h : RdZv w v zs xs) {p : ZV} (hp : p ∈ xs) : p.z ∈ zs := by
 rw [← h.fst]; exact List.mem_map_of_mem hp
theorem era_mem {w : World} {v : Value} {zs : List Sx.Zn} {xs : List ZV} (h : RdZv w v zs xs) {e : Sx.Er} (he : e ∈ erasOf xs) : ∃ z ∈ zs, e ∈ z.eras := by
 obtain ⟨p, hp, q⟩ := List.mem_flatMap.1 he
 exact ⟨p.z, zv_mem h hp, q⟩
/- a source as the call finds it -/
structure SrcIn (s : Sx.Sr) (xs : List ZV) (ra za la : Option Addr) (rcap zcap lcap : Nat) (m : Int) (w : World) : Prop where
 rules : RdRules w (.slice ra s.rules.length rcap) s.rules
 zones : RdZones w (.slice za xs.length zcap) s.zones
 cap : CapZs w (.slice za xs.length zcap) s.zones
 zv : RdZv w (.slice za xs.length zcap) s.zones xs
 links : RdLinks w (.slice la s.links.length lcap) s.links
 size : SizedS s
 max : w.cell? ⟨0, 0, none⟩ = some (.int .i64 m)
 pos : 0 < w.heap.size
theorem srcIn_below {s : Sx.Sr} {xs : List ZV} {ra za la : Option Addr} {rcap zcap lcap : Nat} {m : Int} {w W : World} (h : SrcIn s xs ra za la rcap zcap lcap m w) (hb : Below w.heap.size w W) : SrcIn s xs ra za la rcap zcap lcap m W :=
 ⟨rd_below h.rules hb, rdZones_below h.zones hb, capZs_below h.cap h.zones hb, rdZv_below h.zv hb, rd_below h.links hb, h.size, (hb.cell (p := ⟨0, 0, none⟩) h.pos).trans h.max, Nat.lt_of_lt_of_le h.pos hb.size⟩
theorem zCheck_any (s : Sx.Sr) (xs : List ZV) (ra za la : Option Addr) (rcap zcap lcap : Nat) (m : Int) (w : World) (h : SrcIn s xs ra za la rcap zcap lcap m w) :
  Calls Tryz.prog 14 #[.agg #[.slice ra s.rules.length rcap, .slice za xs.length zcap, .slice la s.links.length lcap]] w fun e w' => e = .returned (.int .i64 (zoneErr s xs)) ∧ Below w.heap.size w w' := by
 have hl := rdZv_len h.zv
 have facts : zoneC s xs 0 = 0 → s.rules.length ≤ 40 ∧ xs.length ≤ 20 ∧ s.links.length ≤ 20 ∧ (∀ p ∈ xs, p.z.eras.length ≤ 8) ∧ (∀ e ∈ erasOf xs, Sx.EraOk e) ∧ (∀ p ∈ xs, ∀ e ∈ p.z.eras, e.opn = true ∨ EndOk e) ∧ (erasOf xs).length ≤ 160 := by
  intro h0
  have ok := Sx.src_okZ h0
  obtain ⟨f1, f2, f3, f4⟩ := many_few ok.many
  have f5 : ∀ p ∈ xs, p.z.eras.length ≤ 8 := fun p hp => f4 p.z (zv_mem h.zv hp)
  have hlen : ∀ l : List ZV, (∀ p ∈ l, p.z.eras.length ≤ 8) → (erasOf l).length ≤ l.length * 8 := by
   intro l
   induction l with
   | nil => intro _; simp [erasOf]
   | cons a r ih =>
     intro hh
     have h1 := hh a (by simp)
     have h2 := ih (fun p hp => hh p (List.mem_cons_of_mem _ hp))
     have e : (erasOf (a :: r)).length = a.z.eras.length + (erasOf r).length := by simp [erasOf]
     rw [e, List.length_cons]; omega
  have hlen' := hlen xs f5
  refine ⟨f1, by omega, f3, f5, ?_, ?_, by omega⟩
  ·intro e he
   obtain ⟨z, hz, q⟩ := era_mem h.zv he
   exact Sx.zone_eras (ok.zone z hz) e q
  ·intro p hp e he
   exact (Sx.zone_eras (ok.zone p.z (zv_mem h.zv hp)) e he).till
 refine zCheck_seq (zoneC s xs) ra za la s.rules.length xs.length s.links.length rcap zcap lcap w ?_ ?_ ?_ ?_ ?_
 ·intro _ W hW
  have g := srcIn_below h hW
  exact sCheck_any s _ _ _ m W ⟨g.rules, g.zones, g.links⟩ g.cap g.size g.max g.pos
 ·intro hc W hW
  have g := srcIn_below h hW
  obtain ⟨f1, f2, f3, f4, f5, f6, f7⟩ := facts (hc 0 (by omega))
  refine checkTwice_any s.zones s.links xs ra za la s.rules.length rcap zcap lcap W g.zv g.links (by omega) (by omega) ?_
  intro n hn
  unfold namesOf at hn
  rcases List.mem_append.1 hn with hn | hn
  ·obtain ⟨z, hz, rfl⟩ := List.mem_map.1 hn
   exact (h.size.zones z hz).1
  ·obtain ⟨l, hl, rfl⟩ := List.mem_map.1 hn
   exact (h.size.links l hl).2
 ·intro hc W hW
  have g := srcIn_below h hW
  obtain ⟨f1, f2, f3, f4, f5, f6, f7⟩ := facts (hc 0 (by omega))
  exact checkThere_any s.rules s.zones s.links xs ra za la rcap zcap lcap W g.rules g.zv g.links (by omega) (by omega) (by omega) (fun p hp => by have := f4 p hp; omega)
 ·intro hc W hW
  have g := srcIn_below h hW
  obtain ⟨f1, f2, f3, f4, f5, f6, f7⟩ := facts (hc 0 (by omega))
  refine checkTimes_any s.zones s.rules xs ra za la s.links.length rcap zcap lcap W g.rules g.zv (by omega) (fun p hp => by have := f4 p hp; omega) (by omega) h.size.rules ?_ ?_
  ·intro e he
   obtain ⟨z, hz, q⟩ := era_mem h.zv he
   exact ((h.size.zones z hz).2 e q).1
  ·intro e he e' he' q
   rw [q]
   exact Sx.times_same ⟨(f5 e he).sh0, (f5 e he).sh1⟩ ⟨(f5 e' he').sh0, (f5 e' he').sh1⟩
 ·intro hc W hW
  have g := srcIn_below h hW
  obtain ⟨f1, f2, f3, f4, f5, f6, f7⟩ := facts (hc 0 (by omega))
  exact checkEnds_any s.zones xs (.slice ra s.rules.length rcap) (.slice la s.links.length lcap) ra za la s.rules.length s.links.length rcap zcap lcap W g.zv (by omega) (fun p hp => by have := f4 p hp; omega) f6
end
section
open Go.RowKit Go.Shelf
attribute [local go_sem] Oper.semAt_some

theorem ownC_heapf {β : Type} {B k : Nat} {o : β → Obj} (h : k < B) : OwnC B (fun (s : β) W => W.heap[k]? = some (o s)) :=
 fun s W W' row hs hg hr => @ownC_heap Unit B k (o s) h () W W' row hs hg hr
def zeroT : Sx.Tm := ⟨0, 0, []⟩
def lastT (p : Sx.Tm → Bool) (l : List Sx.Tm) : Sx.Tm := l.foldl (fun a x => if p x = true then x else a) zeroT
theorem lastT_snoc (p : Sx.Tm → Bool) (l : List Sx.Tm) (x : Sx.Tm) : lastT p (l ++ [x]) = if p x = true then x else lastT p l := by
 unfold lastT; rw [List.foldl_append]; rfl
theorem put3T {W : World} {b : Nat} {t : TypeId} {c0 c1 c2 : Value} (v0 v1 v2 : Value) (h : W.heap[b]? = some (.cells #[c0, c1, c2] t)) :
  (((W.setCell ⟨b, 0, none⟩ v0).setCell ⟨b, 1, none⟩ v1).setCell ⟨b, 2, none⟩ v2).heap[b]? = some (.cells #[v0, v1, v2] t) := by
 have e := put_at (put_at (put_at h 0 v0) 1 v1) 2 v2
 simp only [List.setIfInBounds_toArray, List.set_cons_zero, List.set_cons_succ] at e
 exact e
theorem grown3T (W : World) (b : Nat) (v0 v1 v2 : Value) : W.grownBy (((W.setCell ⟨b, 0, none⟩ v0).setCell ⟨b, 1, none⟩ v1).setCell ⟨b, 2, none⟩ v2) (some b) := grown_put (grown_put (grown_put (grown_same W b) 0 v0) 1 v1) 2 v2
theorem lastT_end {w W : World} {N D : Nat} {a : Act} {x : Sx.Tm} {b : Bool} {R : Ending → World → Prop} (h4 : a.tmps.getD 4 undef = .pointer (some ⟨N + 1, 0, none⟩)) (h5 : a.tmps.getD 5 undef = .bool b) (hd : a.defers = [{ target := .collected D, args := #[] }])
  (i1 : W.heap[N + 1]? = some (.cells #[.int .i64 x.at_, .int .i64 x.save, strV x.letter] 72)) (hD : N + 1 < D) (hN : w.heap.size ≤ N) (hK : W.heap[D]? = some (.deferred (some []))) (hB : Below w.heap.size w W) (hR : ∀ w', Below w.heap.size w w' → R (.returned (.tuple #[timeV x, .bool b])) w') :
  bodyPostM Fence.wide 4 Tryz.prog Tryz.f112 R .ret a W := by
 obtain ⟨tm, df⟩ := a
 dsimp only at h4 h5 hd
 subst hd
 rw [Array.getD_eq_getD_getElem?] at h4 h5
 have hX := belowK_b (w := w) (Nat.le_refl _) W D _ (.deferred none) (by omega) hK rfl rfl
 have j1 : (W.putObj D (.deferred none)).heap[N + 1]? = some (.cells #[.int .i64 x.at_, .int .i64 x.save, strV x.letter] 72) := (World.putObj_heap_other (by omega)).trans i1
 refine ⟨by simp, .inl ⟨_, _, rfl, run_takeDeferred hK, ?_⟩⟩
 have BX := hid (hR _ (hB.trans hX))
 generalize W.putObj D (.deferred none) = X at j1 BX ⊢
 obtain ⟨y0, _⟩ := ca_at (ca_heap2 (vs := [.int .i64 x.at_, .int .i64 x.save, strV x.letter]) j1) 0 rfl
 obtain ⟨y1, _⟩ := ca_at (ca_heap2 (vs := [.int .i64 x.at_, .int .i64 x.save, strV x.letter]) j1) 1 rfl
 obtain ⟨y2, _⟩ := ca_at (ca_heap2 (vs := [.int .i64 x.at_, .int .i64 x.save, strV x.letter]) j1) 2 rfl
 clear j1 i1 hK hB hX hR
 refine ⟨.tuple #[timeV x, .bool b], ?_, BX.out⟩
 simp [results, Tryz.results112, go_sem, *]
theorem lastT_any (gf hf : Nat) (lb hc : Array Value) (p : Sx.Tm → Bool) (xs : List Sx.Tm) (w : World)
  (eg : ∀ args w, (callFunc gf args).run Tryz.prog w = .ok (.enter gf args) w) (eh : ∀ args w, (callFunc hf args).run Tryz.prog w = .ok (.enter hf args) w)
  (hseq : ∀ w1, Below w.heap.size w w1 → SeqD Fence.wide 3 Tryz.prog gf lb (fun x : Sx.Tm => #[timeV x]) (Below w.heap.size) (fun ys => ys = xs) (fun pre => pre <+: xs) w1)
  (hp : ∀ x ∈ xs, ∀ W, Below w.heap.size w W → Calls Tryz.prog hf (#[timeV x] ++ hc) W fun e W' => e = .returned (.bool (p x)) ∧ Below W.heap.size W W') :
  Calls Tryz.prog 112 #[.func (.func gf) #[] lb, .func (.func hf) #[] hc] w
   fun e w' => e = .returned (.tuple #[timeV (lastT p xs), .bool (xs.any p)]) ∧ Below w.heap.size w w' := by
 refine (callsIn_wide (n := 4)).1 ?_
 refine callsIn_of_wp_marks Tryz.func112 rfl trivial ?_ rfl
 simp only [Tryz.ntmps112, List.size_toArray, List.length_cons, List.length_nil, Nat.reduceAdd, Nat.reduceSub, Array.replicate_succ, Array.replicate_zero, List.push_toArray, List.append_toArray, List.nil_append, List.cons_append]
 have HP := hid hp
 have HQ := hid hseq
 clear hp hseq
 gi_wp2
 obtain ⟨N, hN⟩ : ∃ N, w.heap.size = N := ⟨_, rfl⟩
 obtain ⟨V, hV⟩ : ∃ V, ((((w.alloc (.cells #[.func (.func hf) #[] hc] 181)).alloc (.cells #[.int .i64 0, .int .i64 0, .string ⟨#[]⟩] 72)).alloc (.cells #[.int .i64 0, .int .i64 0, .string ⟨#[]⟩] 72)).alloc (.cells #[.bool false] 4)) = V := ⟨_, rfl⟩
 rw [hV]
 have vS : V.heap.size = N + 4 := by rw [← hV, ← hN]; simp
 have v0 : V.heap[N]? = some (.cells #[.func (.func hf) #[] hc] 181) := by
  rw [← hV, Below.heap_alloc _ _ _ (by simp; omega), Below.heap_alloc _ _ _ (by simp; omega), Below.heap_alloc _ _ _ (by simp; omega), ← hN]; exact World.alloc_heap_new w _
 have v1 : V.heap[N + 1]? = some (.cells #[.int .i64 0, .int .i64 0, .string ⟨#[]⟩] 72) := by
  rw [← hV, Below.heap_alloc _ _ _ (by simp; omega), Below.heap_alloc _ _ _ (by simp; omega), ← hN]
  have := World.alloc_heap_new (w.alloc (.cells #[.func (.func hf) #[] hc] 181)) (.cells #[.int .i64 0, .int .i64 0, .string ⟨#[]⟩] 72)
  rwa [World.size_alloc] at this
 have v2 : V.heap[N + 1 + 1]? = some (.cells #[.int .i64 0, .int .i64 0, .string ⟨#[]⟩] 72) := by
  rw [← hV, Below.heap_alloc _ _ _ (by simp; omega), ← hN]
  have := World.alloc_heap_new ((w.alloc (.cells #[.func (.func hf) #[] hc] 181)).alloc (.cells #[.int .i64 0, .int .i64 0, .string ⟨#[]⟩] 72)) (.cells #[.int .i64 0, .int .i64 0, .string ⟨#[]⟩] 72)
  rwa [World.size_alloc, World.size_alloc] at this
 have v3 : V.heap[N + 1 + 1 + 1]? = some (.cells #[.bool false] 4) := by
  rw [← hV, ← hN]
  have := World.alloc_heap_new (((w.alloc (.cells #[.func (.func hf) #[] hc] 181)).alloc (.cells #[.int .i64 0, .int .i64 0, .string ⟨#[]⟩] 72)).alloc (.cells #[.int .i64 0, .int .i64 0, .string ⟨#[]⟩] 72)) (.cells #[.bool false] 4)
  rwa [World.size_alloc, World.size_alloc, World.size_alloc] at this
 have vB : Below w.heap.size w V := by
  rw [← hV]; exact ((((Below.refl _ w).alloc (Nat.le_refl _) _).alloc (by simp) _).alloc (by simp; omega) _).alloc (by simp; omega) _
 rw [hN]
 refine wpIn_range_c rfl (by omega) (gf := gf) (lb := lb) rfl trivial eg
  (seqC_of_d (HQ.out V vB)) (fun h k => h.trans k) (belowK_b (by omega)) (Below.refl _ _) (fun _ => rfl)
  (fun (pre : List Sx.Tm) W => (W.heap[N]? = some (.cells #[.func (.func hf) #[] hc] 181) ∧ W.heap[N + 1]? = some (.cells #[.int .i64 0, .int .i64 0, .string ⟨#[]⟩] 72) ∧ W.heap[N + 1 + 1]? = some (.cells #[.int .i64 (lastT p pre).at_, .int .i64 (lastT p pre).save, strV (lastT p pre).letter] 72) ∧ W.heap[N + 1 + 1 + 1]? = some (.cells #[.bool (pre.any p)] 4)) ∧ Below w.heap.size w W)
  (fun _ _ _ => False)
  (OwnC.and (OwnC.and (ownC_heap (by omega)) (OwnC.and (ownC_heap (by omega)) (OwnC.and (ownC_heapf (by omega)) (ownC_heapf (by omega))))) (ownC_below (Nat.le_refl _) (by omega)))
  (fun _ _ _ _ _ h _ _ => h)
  ⟨⟨v0, v1, v2, v3⟩, vB⟩
  (fun x a' W => ∃ Bx, N + 1 + 1 + 1 < Bx ∧ W.heap[Bx]? = some (.cells (timeC x).toArray 72 (0, 0)) ∧ a' = { tmps := #[.func (.func gf) #[] lb, .func (.func hf) #[] hc, undef, .pointer (some ⟨N, 0, none⟩), .pointer (some ⟨N + 1, 0, none⟩), .bool false, .pointer (some ⟨N + 1 + 1, 0, none⟩), .pointer (some ⟨N + 1 + 1 + 1, 0, none⟩), .pointer (some ⟨Bx, 0, none⟩), .func (.func gf) #[] lb, timeV x, undef, undef, undef, undef, undef, undef], defers := [] })
  ?hAx ?assign ?body ?done ?stop
 case hAx =>
  rintro x a' _ X Y row ⟨Bx, q1, q2, q3⟩ hg hr
  refine ⟨Bx, q1, ?_, q3⟩
  rw [hg.block Bx (Array.getElem?_eq_some_iff.1 q2).1 (fun e => by obtain ⟨_, o, ho, hc⟩ := hr Bx e.symm; rw [q2] at ho; cases ho; simp [Obj.isCells] at hc)]
  exact q2
 case assign =>
  rintro l pre x W K ⟨⟨i0, i1, i2, i3⟩, iB⟩ sz hK
  rw [vS] at sz
  have KB := hid ((Below.refl W.heap.size W).alloc (Nat.le_refl _) (.cells (timeC x).toArray 72))
  have R := hid (hK { tmps := #[.func (.func gf) #[] lb, .func (.func hf) #[] hc, undef, .pointer (some ⟨N, 0, none⟩), .pointer (some ⟨N + 1, 0, none⟩), .bool false, .pointer (some ⟨N + 1 + 1, 0, none⟩), .pointer (some ⟨N + 1 + 1 + 1, 0, none⟩), .pointer (some ⟨W.heap.size, 0, none⟩), .func (.func gf) #[] lb, timeV x, undef, undef, undef, undef, undef, undef], defers := [] } (W.alloc (.cells (timeC x).toArray 72)) ((KeepsOthers.alloc _ _).from _) (KB.out.mono iB.size)
   ⟨⟨(KB.out.block _ (Array.getElem?_eq_some_iff.1 i0).1).trans i0, (KB.out.block _ (Array.getElem?_eq_some_iff.1 i1).1).trans i1, (KB.out.block _ (Array.getElem?_eq_some_iff.1 i2).1).trans i2, (KB.out.block _ (Array.getElem?_eq_some_iff.1 i3).1).trans i3⟩, iB.alloc iB.size _⟩ ⟨W.heap.size, by omega, World.alloc_heap_new W _, rfl⟩)
  clear hK i0 i1 i2 i3
  gi_wp2
  exact R.out
 case body =>
  rintro l pre x a' W hl ⟨r, hr⟩ ⟨⟨i0, i1, i2, i3⟩, iB⟩ ⟨Bx, hBx, hX, rfl⟩ hpx sz
  have HC := hid (HP.out x (prefix_mem hpx) W iB)
  obtain ⟨x0, _⟩ := ca_at (ca_heap2 hX) 0 rfl
  obtain ⟨x1, _⟩ := ca_at (ca_heap2 hX) 1 rfl
  obtain ⟨x2, _⟩ := ca_at (ca_heap2 hX) 2 rfl
  have f0 := (ca_at (ca_heap2 (vs := [.func (.func hf) #[] hc]) i0) 0 rfl).1
  have sx := (Array.getElem?_eq_some_iff.1 hX).1
  have s0 := (Array.getElem?_eq_some_iff.1 i0).1
  have HX := hid hX
  have I0 := hid i0
  have I1 := hid i1
  have IB := hid iB
  obtain ⟨L, hL⟩ : ∃ L, lastT p pre = L := ⟨_, rfl⟩
  obtain ⟨A, hA⟩ : ∃ A, pre.any p = A := ⟨_, rfl⟩
  rw [hL] at i2
  rw [hA] at i3
  have HL := hid hL
  have HA := hid hA
  have I2 := hid i2
  have I3 := hid i3
  clear hX i0 i1 i2 i3 iB hr hpx hL hA
  obtain ⟨C, hC⟩ : ∃ C, p x = C := ⟨_, rfl⟩
  rw [hC] at HC
  have HCC := hid hC
  have SV : Hid (V.heap.size = N + 4 ∧ w.heap.size = N) := ⟨vS, hN⟩
  clear hC
  cases C
  case false =>
   have E1 : Hid (lastT p (pre ++ [x]) = L) := by show _ = _; rw [lastT_snoc, HCC.out, HL.out]; rfl
   have E2 : Hid ((pre ++ [x]).any p = A) := by show _ = _; rw [List.any_append, HA.out]; simp [HCC.out]
   gi_wp2_with fail
   refine ⟨trivial, (CallsIn.inRound l (callsIn_wide.2 HC.out)).mono ?_⟩
   rintro e w1 ⟨rfl, hb⟩
   gi_wp2
   refine ⟨(keeps_below hb).from _, hb.mono IB.out.size, ⟨(hb.block _ (Array.getElem?_eq_some_iff.1 I0.out).1).trans I0.out, (hb.block _ (Array.getElem?_eq_some_iff.1 I1.out).1).trans I1.out, ?_, ?_⟩, IB.out.trans (hb.mono IB.out.size)⟩
   ·rw [E1.out]; exact (hb.block _ (Array.getElem?_eq_some_iff.1 I2.out).1).trans I2.out
   ·rw [E2.out]; exact (hb.block _ (Array.getElem?_eq_some_iff.1 I3.out).1).trans I3.out
  case true =>
   have E1 : Hid (lastT p (pre ++ [x]) = x) := by show _ = _; rw [lastT_snoc, HCC.out]; rfl
   have E2 : Hid ((pre ++ [x]).any p = true) := by show _ = _; rw [List.any_append]; simp [HCC.out]
   gi_wp2_with fail
   refine ⟨trivial, (CallsIn.inRound l (callsIn_wide.2 HC.out)).mono ?_⟩
   rintro e w1 ⟨rfl, hb⟩
   have HB := hid hb
   have CX := ca_below (ca_heap2 HX.out) hb
   obtain ⟨y0, _⟩ := ca_at CX 0 rfl
   obtain ⟨y1, _⟩ := ca_at CX 1 rfl
   obtain ⟨y2, _⟩ := ca_at CX 2 rfl
   have CR := ca_below (ca_heap2 (vs := [.int .i64 L.at_, .int .i64 L.save, strV L.letter]) I2.out) hb
   obtain ⟨r0, q0⟩ := ca_at CR 0 rfl
   obtain ⟨r1, q1⟩ := ca_at CR 1 rfl
   obtain ⟨r2, q2⟩ := ca_at CR 2 rfl
   have CB := ca_below (ca_heap2 (vs := [.bool A]) I3.out) hb
   obtain ⟨b0, b1⟩ := ca_at CB 0 rfl
   have sR := CR.1
   have sB := CB.1
   have sX := CX.1
   clear hb CX CR CB
   gi_wp2
   have G1 := grown3T w1 (N + 1 + 1) (.int .i64 x.at_) (.int .i64 x.save) (strV x.letter)
   have hb := HB.out
   have e0 := (hb.block _ (Array.getElem?_eq_some_iff.1 I0.out).1).trans I0.out
   have e1 := (hb.block _ (Array.getElem?_eq_some_iff.1 I1.out).1).trans I1.out
   have e2 := (hb.block _ (Array.getElem?_eq_some_iff.1 I2.out).1).trans I2.out
   have e3 := (hb.block _ (Array.getElem?_eq_some_iff.1 I3.out).1).trans I3.out
   have p1 := put3T (.int .i64 x.at_) (.int .i64 x.save) (strV x.letter) e2
   have p2 := (G1.block (N + 1 + 1 + 1) (Array.getElem?_eq_some_iff.1 e3).1 (by simp)).trans e3
   have p3 := put1 (.bool true) p2
   have G2 := grownBy_setCell' (((w1.setCell ⟨N + 1 + 1, 0, none⟩ (.int .i64 x.at_)).setCell ⟨N + 1 + 1, 1, none⟩ (.int .i64 x.save)).setCell ⟨N + 1 + 1, 2, none⟩ (strV x.letter)) (N + 1 + 1 + 1) (.bool true)
   have B1 := IB.out.trans (hb.mono IB.out.size)
   have B2 := B1.grown G1 B1.size (fun k e => by cases e; have := SV.out; omega)
   have B3 := B2.grown G2 B2.size (fun k e => by cases e; have := SV.out; omega)
   have hk : ∀ k o, k < w1.heap.size → k ≠ N + 1 + 1 → k ≠ N + 1 + 1 + 1 → w1.heap[k]? = some o → ((((w1.setCell ⟨N + 1 + 1, 0, none⟩ (.int .i64 x.at_)).setCell ⟨N + 1 + 1, 1, none⟩ (.int .i64 x.save)).setCell ⟨N + 1 + 1, 2, none⟩ (strV x.letter)).setCell ⟨N + 1 + 1 + 1, 0, none⟩ (.bool true)).heap[k]? = some o := fun k o h0 h1 h2 h3 => ((G2.block k (by simpa using h0) (by intro e; injection e with e; omega)).trans (G1.block k h0 (by intro e; injection e with e; omega))).trans h3
   refine ⟨(((keeps_below hb).trans (keeps_grown G1 e2)).trans (keeps_grown G2 p2)).from _, ?_, ⟨hk N _ (Array.getElem?_eq_some_iff.1 e0).1 (by omega) (by omega) e0, hk (N + 1) _ (Array.getElem?_eq_some_iff.1 e1).1 (by omega) (by omega) e1, ?_, ?_⟩, B3⟩
   ·have q1 := (hb.mono IB.out.size : Below w.heap.size W w1)
    have q2 := q1.grown G1 B1.size (fun k e => by cases e; have := SV.out; omega)
    exact q2.grown G2 B2.size (fun k e => by cases e; have := SV.out; omega)
   ·rw [E1.out]; exact (G2.block (N + 1 + 1) (Array.getElem?_eq_some_iff.1 p1).1 (by simp)).trans p1
   ·rw [E2.out]; exact p3
 case done =>
  rintro D ys W hD rfl ⟨⟨i0, i1, i2, i3⟩, iB⟩ hK
  rw [vS] at hD
  obtain ⟨L, hL⟩ : ∃ L, lastT p ys = L := ⟨_, rfl⟩
  obtain ⟨A, hA⟩ : ∃ A, ys.any p = A := ⟨_, rfl⟩
  rw [hL] at i2
  rw [hA] at i3
  have HLA : Hid (lastT p ys = L ∧ ys.any p = A) := ⟨hL, hA⟩
  have CZ := ca_heap2 (vs := [.int .i64 0, .int .i64 0, .string ⟨#[]⟩]) i1
  have CR := ca_heap2 (vs := [.int .i64 L.at_, .int .i64 L.save, strV L.letter]) i2
  have CB := ca_heap2 (vs := [.bool A]) i3
  obtain ⟨z0, k0⟩ := ca_at CZ 0 rfl
  obtain ⟨z1, k1⟩ := ca_at CZ 1 rfl
  obtain ⟨z2, k2⟩ := ca_at CZ 2 rfl
  obtain ⟨r0, _⟩ := ca_at CR 0 rfl
  obtain ⟨r1, _⟩ := ca_at CR 1 rfl
  obtain ⟨r2, _⟩ := ca_at CR 2 rfl
  obtain ⟨b0, _⟩ := ca_at CB 0 rfl
  have sZ := CZ.1
  have sR := CR.1
  have sB := CB.1
  have HK := hid hK
  have IB := hid iB
  have I1 := hid i1
  have HD := hid hD
  have SV : Hid (w.heap.size = N) := hN
  clear i0 i1 i2 i3 CZ CR CB hK iB v0 v1 v2 v3 vB hV vS eg hL hA
  gi_wp2_with fail
  gi_region
  all_goals
   have G1 := grown3T W (N + 1) (.int .i64 L.at_) (.int .i64 L.save) (strV L.letter)
   have p1 := put3T (.int .i64 L.at_) (.int .i64 L.save) (strV L.letter) I1.out
   have d1 := (G1.block D (Array.getElem?_eq_some_iff.1 HK.out).1 (by have := HD.out; intro e; injection e with e; omega)).trans HK.out
   have B2 := IB.out.grown G1 IB.out.size (fun k e => by cases e; have := SV.out; omega)
   have hD2 := HD.out
   have sv := SV.out
   gi_wp2
   refine lastT_end (w := w) (N := N) (D := D) (x := L) (b := A) rfl rfl rfl p1 (by omega) (by omega) d1 ⟨B2.os, B2.tape, B2.output, B2.size, B2.block⟩ (fun w' hb => ⟨?_, hb⟩)
   rw [HLA.out.1, HLA.out.2]
 case stop =>
  rintro D c pre W _ _ h _
  exact h.elim
end
namespace Sx

structure Sz (s : Sr) : Prop where
 rules : ∀ r ∈ s.rules, r.name.length ≤ 24 ∧ r.letter.length ≤ 24
 zones : ∀ z ∈ s.zones, z.name.length ≤ 24 ∧ ∀ x ∈ z.eras, x.rules.length ≤ 24 ∧ x.format.length ≤ 24
 links : ∀ l ∈ s.links, l.to.length ≤ 24 ∧ l.name.length ≤ 24
structure StOk (st : St) (i : Nat) : Prop where
 must : st.must = true → st.src.zones ≠ []
 rules : st.src.rules.length ≤ i
 zones : st.src.zones.length ≤ i
 links : st.src.links.length ≤ i
 eras : ∀ z ∈ st.src.zones, z.eras.length ≤ i
 sz : Sz st.src
theorem stOk_start : StOk ⟨noSr, false⟩ 0 := ⟨fun h => (by cases h), Nat.le_refl _, Nat.le_refl _, Nat.le_refl _, by simp [noSr], ⟨by simp [noSr], by simp [noSr], by simp [noSr]⟩⟩
theorem letterO_in {s t : Tx.Bs} (h : letterO s = some t) : t = [] ∨ t = s := by
 unfold letterO at h
 split at h
 ·simp at h; exact .inl h
 ·split at h
  ·simp at h; exact .inr h.symm
  ·cases h
theorem nameO_in {s t : Tx.Bs} (h : nameO s = some t) : t = s := by
 unfold nameO at h
 split at h
 ·simp at h; exact h.symm
 ·cases h
theorem formatO_in {s t : Tx.Bs} (h : formatO s = some t) : t = s := by
 unfold formatO at h
 split at h
 ·simp at h; exact h.symm
 ·cases h
theorem rulesO_in {s : Tx.Bs} {p : Tx.Bs × Int} (h : rulesO s = some p) : p.1 = [] ∨ p.1 = s := by
 rw [rulesO_def] at h
 split at h
 ·simp at h; subst h; exact .inl rfl
 ·split at h
  ·split at h
   ·cases h
   ·simp [Option.map_eq_some_iff] at h; obtain ⟨_, _, rfl⟩ := h; exact .inl rfl
  ·split at h
   ·simp at h; subst h; exact .inr rfl
   ·cases h
theorem ruleO_sz {fs : List Tx.Bs} {p : Rl × List Tx.Bs} (h : ruleO fs = some p) (hf : ∀ f ∈ fs, f.length ≤ 24) : p.1.name.length ≤ 24 ∧ p.1.letter.length ≤ 24 := by
 unfold ruleO at h
 split at h
 ·simp only [Option.bind_eq_some_iff, Option.map_eq_some_iff] at h
  obtain ⟨nm, h1, _, _, _, _, _, _, _, _, _, _, _, _, lt, h8, rfl⟩ := h
  have e1 := nameO_in h1
  subst e1
  refine ⟨hf _ (by simp), ?_⟩
  rcases letterO_in h8 with rfl | rfl
  ·simp
  ·exact hf _ (by simp)
 ·cases h
theorem eraO_sz {fs : List Tx.Bs} {p : Er × List Tx.Bs} (h : eraO fs = some p) (hf : ∀ f ∈ fs, f.length ≤ 24) : p.1.rules.length ≤ 24 ∧ p.1.format.length ≤ 24 := by
 unfold eraO at h
 split at h
 ·rename_i a b c rest
  simp only [Option.bind_eq_some_iff] at h
  obtain ⟨_, _, rs, h2, fm, h3, h⟩ := h
  have e3 := formatO_in h3
  subst e3
  have hr : rs.1.length ≤ 24 := by
   rcases rulesO_in h2 with q | q <;> rw [q]
   ·simp
   ·exact hf _ (by simp)
  have hc : fm.length ≤ 24 := hf _ (by simp)
  split at h
  ·simp at h; subst h; exact ⟨hr, hc⟩
  ·simp only [Option.bind_eq_some_iff] at h
   obtain ⟨_, _, _, _, _, _, _, _, h⟩ := h
   split at h
   ·cases h
   ·simp at h; subst h; exact ⟨hr, hc⟩
  ·cases h
 ·cases h
theorem whole_in {α : Type} {o : Option (α × List Tx.Bs)} {a : α} (h : whole o = some a) : o = some (a, []) := by
 unfold whole at h
 split at h
 ·simp at h; subst h; rfl
 ·cases h
theorem snoc_of_ne {α : Type} : ∀ (l : List α), l ≠ [] → ∃ a x, l = a ++ [x]
 | [], h => absurd rfl h
 | [x], _ => ⟨[], x, rfl⟩
 | x :: y :: r, _ => by
   obtain ⟨a, z, e⟩ := snoc_of_ne (y :: r) (by simp)
   exact ⟨x :: a, z, by rw [e]; rfl⟩
theorem stOk_next {st st' : St} {l : Tx.Ln} {i : Nat} (h : lineO st l = some st') (hf : ∀ f ∈ l.fields, f.length ≤ 24) (hk : StOk st i) : StOk st' (i + 1) := by
 obtain ⟨m1, k1, k2, k3, k4, ⟨s1, s2, s3⟩⟩ := hk
 unfold lineO at h
 split at h
 ·cases h
 split at h
 ·rename_i hm
  simp only [Option.map_eq_some_iff] at h
  obtain ⟨x, hx, rfl⟩ := h
  have hs := eraO_sz (whole_in hx) hf
  obtain ⟨zs, z0, e⟩ := snoc_of_ne _ (m1 hm)
  rw [e] at k2 k4 s2
  have hz0 := k4 z0 (by simp)
  have ha : addEra x st.src.zones = zs ++ [⟨z0.name, z0.eras ++ [x]⟩] := by rw [e, addEra_snoc]
  refine ⟨fun _ => by rw [ha]; simp, by simp; omega, by rw [ha]; simp at k2 ⊢; omega, by simp; omega, ?_, ⟨s1, ?_, s3⟩⟩
  ·rw [ha]
   intro y hy
   simp at hy
   rcases hy with hy | rfl
   ·have := k4 y (by simp [hy]); omega
   ·simp; omega
  ·rw [ha]
   intro y hy
   simp at hy
   rcases hy with hy | rfl
   ·exact s2 y (by simp [hy])
   ·refine ⟨(s2 z0 (by simp)).1, fun q hq => ?_⟩
    simp at hq
    rcases hq with hq | rfl
    ·exact (s2 z0 (by simp)).2 q hq
    ·exact hs
 ·unfold wordO at h
  split at h
  ·cases h
  rename_i w fs hfs
  have hf' : ∀ f ∈ fs, f.length ≤ 24 := fun f q => hf f (by rw [hfs]; simp [q])
  have k4' : ∀ z ∈ st.src.zones, z.eras.length ≤ i + 1 := fun z hz => by have := k4 z hz; omega
  split at h
  ·simp only [Option.map_eq_some_iff] at h
   obtain ⟨x, hx, rfl⟩ := h
   have hs := ruleO_sz (whole_in hx) hf'
   refine ⟨fun q => (by cases q), by simp; omega, by simp; omega, by simp; omega, k4', ⟨?_, s2, s3⟩⟩
   intro y hy
   simp at hy
   rcases hy with hy | rfl
   ·exact s1 y hy
   ·exact hs
  split at h
  ·simp only [Option.map_eq_some_iff] at h
   obtain ⟨x, hx, rfl⟩ := h
   have hz := whole_in hx
   unfold zoneO at hz
   split at hz
   ·rename_i n fs2
    simp only [Option.bind_eq_some_iff, Option.map_eq_some_iff] at hz
    obtain ⟨nm, h1, p, h2, h3⟩ := hz
    have e1 := nameO_in h1
    subst e1
    have hs := eraO_sz h2 (fun f q => hf' f (by simp [q]))
    simp at h3
    obtain ⟨rfl, _⟩ := h3
    have hn := hf' nm (by simp)
    refine ⟨fun _ => by simp, by simp; omega, by simp; omega, by simp; omega, ?_, ⟨s1, ?_, s3⟩⟩
    ·intro y hy
     simp at hy
     rcases hy with hy | rfl
     ·exact k4' y hy
     ·simp
    ·intro y hy
     simp at hy
     rcases hy with hy | rfl
     ·exact s2 y hy
     ·exact ⟨hn, fun q hq => by simp at hq; subst hq; exact hs⟩
   ·cases hz
  split at h
  ·simp only [Option.map_eq_some_iff] at h
   obtain ⟨x, hx, rfl⟩ := h
   have hz := whole_in hx
   unfold linkO at hz
   split at hz
   ·simp only [Option.bind_eq_some_iff, Option.map_eq_some_iff] at hz
    obtain ⟨nm, h1, p, h2, h3⟩ := hz
    have e1 := nameO_in h1
    have e2 := nameO_in h2
    subst e1 e2
    simp at h3
    obtain ⟨rfl, _⟩ := h3
    refine ⟨fun q => (by cases q), by simp; omega, by simp; omega, by simp; omega, k4', ⟨s1, s2, ?_⟩⟩
    intro y hy
    simp at hy
    rcases hy with hy | rfl
    ·exact s3 y hy
    ·exact ⟨hf' _ (by simp), hf' _ (by simp)⟩
   ·cases hz
  ·cases h
end Sx
end Go.Proofs.YtkhlkohlccndgaaGreat
