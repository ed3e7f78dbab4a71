/- The contract of the program's checkEra. · Contracts of the program's First over eras, checkZone, First over zones, checkLink, First over links. · Contracts of the program's fitsLimits and source.Check, whatever source. · The contract of the iterator of rule.turns. · Steps from turn to turn: in plain terms; the contract of the iterator of rule.steps. · Contracts of the iterators of slices.Values over links, zones and times, of zone.eras and zone.names, and of the functions that make them. · A region that draws its order, in a round of a loop over an iterator: what is shown of it outside a round holds of it there. -/
import Derived.Test.YtkhlkohlccndgaaGreatQaf
import Derived.Test.YtkhlkohlccndgaaGreatQaa
import Derived.RangeFuncCalls
import Derived.OrdersIn
import Derived.OrdersHeld
import Derived.OwnWalkIn
import Derived.OwnWalk
import Derived.Deep.RegionHeld3
namespace Go.Proofs.YtkhlkohlccndgaaGreat
open Go.RowKit
set_option linter.unusedVariables false
set_option linter.unusedSimpArgs false
attribute [local go_sem ↓] Go.wp_at_zero Go.wp_at_succ

def EraH (B : Nat) (x : Sx.Er) (w : World) : Prop := w.cell? ⟨B, 0, none⟩ = some (.int .i64 x.shift) ∧ w.cell? ⟨B, 1, none⟩ = some (strV x.rules) ∧ w.cell? ⟨B, 2, none⟩ = some (.int .i64 x.save) ∧ w.cell? ⟨B, 3, none⟩ = some (strV x.format) ∧ w.cell? ⟨B, 4, none⟩ = some (.bool x.opn) ∧ w.cell? ⟨B, 5, none⟩ = some (.int .i64 x.uy) ∧ w.cell? ⟨B, 6, none⟩ = some (.int .i64 x.um) ∧ w.cell? ⟨B, 7, none⟩ = some (.int .i64 x.ud) ∧ w.cell? ⟨B, 8, none⟩ = some (.int .i64 x.uat) ∧ w.cell? ⟨B, 9, none⟩ = some (.int .i64 x.uclock)
theorem eraH_below {B : Nat} {x : Sx.Er} {w w' : World} (h : EraH B x w) (hb : Below w.heap.size w w') (hB : B < w.heap.size) : EraH B x w' := by
  obtain ⟨b0, b1, b2, b3, b4, b5, b6, b7, b8, b9⟩ := h
  have e := fun k => hb.cell (p := ⟨B, k, none⟩) hB
  exact ⟨(e 0).trans b0, (e 1).trans b1, (e 2).trans b2, (e 3).trans b3, (e 4).trans b4, (e 5).trans b5, (e 6).trans b6, (e 7).trans b7, (e 8).trans b8, (e 9).trans b9⟩
theorem below_drewn {V w3 : World} {n : Nat} (h : Below (V.drewN n).heap.size (V.drewN n) w3) : Below V.heap.size V w3 := ⟨h.os, h.tape, h.output, h.size, h.block⟩
theorem below_drew1 {V w3 : World} (h : Below V.drew.heap.size V.drew w3) : Below V.heap.size V w3 := ⟨h.os, h.tape, h.output, h.size, h.block⟩
theorem eraH_of {B : Nat} {x : Sx.Er} {w : World} (h : CellsAt w B (eraCells x)) : EraH B x w :=
  ⟨(ca_at h 0 rfl).1, (ca_at h 1 rfl).1, (ca_at h 2 rfl).1, (ca_at h 3 rfl).1, (ca_at h 4 rfl).1, (ca_at h 5 rfl).1, (ca_at h 6 rfl).1, (ca_at h 7 rfl).1, (ca_at h 8 rfl).1, (ca_at h 9 rfl).1⟩
theorem eraE_or (x : Sx.Er) (last : Bool) : Sx.eraE x last = Sx.firstE id [uE ((x.rules.isEmpty || Sx.nameB x.rules) && Sx.formatB x.format) 1, uE (Sx.inB x.shift (-64800) 64800) 3, uE (Sx.inB x.save 0 10800) 3, uE (x.rules.isEmpty || x.save == 0) 1, uE (x.opn == last) 4, Sx.endE x] := by
  have e1 : (x.save == 0) = decide (x.save = 0) := by rw [Bool.eq_iff_iff]; simp
  have e2 : (if x.opn ≠ last then (4 : Int) else Sx.endE x) = if (x.opn == last) = false then 4 else Sx.endE x := by cases x.opn <;> cases last <;> rfl
  unfold Sx.eraE
  rw [e2, e1]
  simp only [Sx.firstE, id, uE]
  cases (x.rules.isEmpty || Sx.nameB x.rules) && Sx.formatB x.format <;> cases Sx.inB x.shift (-64800) 64800 <;> cases Sx.inB x.save 0 10800 <;> cases x.rules.isEmpty || decide (x.save = 0) <;> cases x.opn == last <;> simp
set_option maxRecDepth 100000 in
set_option maxHeartbeats 3000000 in
theorem pCheckEra_any (x : Sx.Er) (last : Bool) (m : Int) (w : World) (hr : x.rules.length ≤ maxLen) (hf : x.format.length ≤ maxLen) (hm : w.cell? ⟨0, 0, none⟩ = some (.int .i64 m)) (h0 : 0 < w.heap.size) :
    Calls Tryz.prog 156 #[eraV x, .bool last] w fun e w' => e = .returned (.int .i64 (Sx.eraE x last)) ∧ Below w.heap.size w w' := by
  rw [eraE_or]
  have XV := hid (eraH_of (ca_new w (eraCells x) 67))
  have BV := hid ((Below.refl w.heap.size w).alloc (Nat.le_refl _) (.cells (eraCells x).toArray 67))
  have HMV : Hid ((w.alloc (.cells (eraCells x).toArray 67)).cell? ⟨0, 0, none⟩ = some (.int .i64 m)) := (BV.out.cell (p := ⟨0, 0, none⟩) h0).trans hm
  have SV : Hid (w.heap.size < (w.alloc (.cells (eraCells x).toArray 67)).heap.size) := by show _ < _; simp
  clear hm h0
  have HR := hid hr
  have HF := hid hf
  clear hr hf
  obtain ⟨sh, rl, sv, fm, op, uy, um, ud, ua, uc⟩ := x
  dsimp only at HR HF
  obtain ⟨F, hF⟩ : ∃ F, Sx.formatB fm = F := ⟨_, rfl⟩
  obtain ⟨A1, hA1⟩ : ∃ A, Sx.inB sh (-64800) 64800 = A := ⟨_, rfl⟩
  obtain ⟨A2, hA2⟩ : ∃ A, Sx.inB sv 0 10800 = A := ⟨_, rfl⟩
  obtain ⟨E, hE⟩ : ∃ E, Sx.endE ⟨sh, rl, sv, fm, op, uy, um, ud, ua, uc⟩ = E := ⟨_, rfl⟩
  dsimp only
  rw [hF, hA1, hA2, hE]
  have HFF := hid hF
  have HA1 := hid hA1
  have HA2 := hid hA2
  have HE := hid hE
  clear hF hA1 hA2 hE
  obtain ⟨B, hB⟩ : ∃ B, w.heap.size = B := ⟨_, rfl⟩
  have HB := hid hB
  rw [hB] at XV SV
  obtain ⟨V, hV⟩ : ∃ V, w.alloc (.cells (eraCells ⟨sh, rl, sv, fm, op, uy, um, ud, ua, uc⟩).toArray 67) = V := ⟨_, rfl⟩
  go_enter Tryz.func156, Tryz.ntmps156
  go_upto_region 1 with fail
  rw [show w.alloc (.cells #[.int .i64 sh, strV rl, .int .i64 sv, strV fm, .bool op, .int .i64 uy, .int .i64 um, .int .i64 ud, .int .i64 ua, .int .i64 uc] 67) = V from hV]
  try rw [hB]
  rw [hV] at XV BV HMV SV
  clear hB hV
  cases hr : rl.isEmpty
  case true =>
    obtain rfl : rl = [] := List.isEmpty_iff.1 hr
    clear hr
    have SS : EraH B ⟨sh, [], sv, fm, op, uy, um, ud, ua, uc⟩ V.drew := XV.out
    have HMD : V.drew.cell? ⟨0, 0, none⟩ = some (.int .i64 m) := HMV.out
    have SD : B < V.drew.heap.size := SV.out
    refine wp_region_held_drew (S := fun w' => EraH B ⟨sh, [], sv, fm, op, uy, um, ud, ua, uc⟩ w') (by kernel_rfl) SS (fun hHeld => ?_)
    refine wpAnyH_take (i := 0) (v := ?vz1z) rfl (by kernel_rfl) (by kernel_rfl) (by kernel_rfl) (fun _ _ _ h => h) (Or.inl ⟨by rfl, ?hyz1z⟩) (by assumption) ?_
    case hyz1z => (intro w hSw; obtain ⟨s0, s1, s2, s3, s4, s5, s6, s7, s8, s9⟩ := hSw; go_simp; try with_reducible rfl)
    try simp only [Act.put, List.setIfInBounds_toArray, List.set_cons_zero, List.set_cons_succ, List.getElem_toArray, List.getElem_cons_zero, List.getElem_cons_succ]
    refine wpAnyH_take (i := 1) (v := ?vz2z) rfl (by kernel_rfl) (by kernel_rfl) (by kernel_rfl) (fun _ _ _ h => h) (Or.inl ⟨by rfl, ?hyz2z⟩) (by assumption) ?_
    case hyz2z => (intro w hSw; obtain ⟨s0, s1, s2, s3, s4, s5, s6, s7, s8, s9⟩ := hSw; go_simp; try with_reducible rfl)
    try simp only [Act.put, List.setIfInBounds_toArray, List.set_cons_zero, List.set_cons_succ, List.getElem_toArray, List.getElem_cons_zero, List.getElem_cons_succ]
    refine wpAnyH_take (i := 2) (v := ?vz3z) rfl (by kernel_rfl) (by kernel_rfl) (by kernel_rfl) (fun _ _ _ h => h) (Or.inl ⟨by rfl, ?hyz3z⟩) (by assumption) ?_
    case hyz3z => (intro w hSw; obtain ⟨s0, s1, s2, s3, s4, s5, s6, s7, s8, s9⟩ := hSw; go_simp; try with_reducible rfl)
    try simp only [Act.put, List.setIfInBounds_toArray, List.set_cons_zero, List.set_cons_succ, List.getElem_toArray, List.getElem_cons_zero, List.getElem_cons_succ]
    refine wpAnyH_take (i := 3) (v := ?vz4z) rfl (by kernel_rfl) (by kernel_rfl) (by kernel_rfl) (fun _ _ _ h => h) (Or.inl ⟨by rfl, ?hyz4z⟩) (by assumption) ?_
    case hyz4z => (intro w hSw; obtain ⟨s0, s1, s2, s3, s4, s5, s6, s7, s8, s9⟩ := hSw; go_simp; try with_reducible rfl)
    try simp only [Act.put, List.setIfInBounds_toArray, List.set_cons_zero, List.set_cons_succ, List.getElem_toArray, List.getElem_cons_zero, List.getElem_cons_succ]
    refine wpAnyH_take (i := 4) (v := undef) rfl (by kernel_rfl) (by kernel_rfl) (by kernel_rfl) (fun _ _ _ h => h) (Or.inr ⟨by rfl, rfl⟩) (by assumption) ?_
    try simp only [Act.put, List.setIfInBounds_toArray, List.set_cons_zero, List.set_cons_succ, List.getElem_toArray, List.getElem_cons_zero, List.getElem_cons_succ]
    refine wpAnyH_take (i := 5) (v := undef) rfl (by kernel_rfl) (by kernel_rfl) (by kernel_rfl) (fun _ _ _ h => h) (Or.inr ⟨by rfl, rfl⟩) (by assumption) ?_
    try simp only [Act.put, List.setIfInBounds_toArray, List.set_cons_zero, List.set_cons_succ, List.getElem_toArray, List.getElem_cons_zero, List.getElem_cons_succ]
    refine wpAnyH_take (i := 6) (v := undef) rfl (by kernel_rfl) (by kernel_rfl) (by kernel_rfl) (fun _ _ _ h => h) (Or.inr ⟨by rfl, rfl⟩) (by assumption) ?_
    try simp only [Act.put, List.setIfInBounds_toArray, List.set_cons_zero, List.set_cons_succ, List.getElem_toArray, List.getElem_cons_zero, List.getElem_cons_succ]
    refine wpAnyH_take (i := 7) (v := ?vz5z) rfl (by kernel_rfl) (by kernel_rfl) (by kernel_rfl) (fun _ _ _ h => h) (Or.inl ⟨by rfl, ?hyz5z⟩) (by assumption) ?_
    case hyz5z => (intro w hSw; obtain ⟨s0, s1, s2, s3, s4, s5, s6, s7, s8, s9⟩ := hSw; go_simp; try with_reducible rfl)
    try simp only [Act.put, List.setIfInBounds_toArray, List.set_cons_zero, List.set_cons_succ, List.getElem_toArray, List.getElem_cons_zero, List.getElem_cons_succ]
    refine wpAnyH_take (i := 8) (v := ?vz6z) rfl (by kernel_rfl) (by kernel_rfl) (by kernel_rfl) (fun _ _ _ h => h) (Or.inl ⟨by rfl, ?hyz6z⟩) (by assumption) ?_
    case hyz6z => (intro w hSw; obtain ⟨s0, s1, s2, s3, s4, s5, s6, s7, s8, s9⟩ := hSw; go_simp; try with_reducible rfl)
    try simp only [Act.put, List.setIfInBounds_toArray, List.set_cons_zero, List.set_cons_succ, List.getElem_toArray, List.getElem_cons_zero, List.getElem_cons_succ]
    refine wpAnyH_take (i := 9) (v := ?vz7z) rfl (by kernel_rfl) (by kernel_rfl) (by kernel_rfl) (fun _ _ _ h => h) (Or.inl ⟨by rfl, ?hyz7z⟩) (by assumption) ?_
    case hyz7z => (intro w hSw; obtain ⟨s0, s1, s2, s3, s4, s5, s6, s7, s8, s9⟩ := hSw; go_simp; try with_reducible rfl)
    try simp only [Act.put, List.setIfInBounds_toArray, List.set_cons_zero, List.set_cons_succ, List.getElem_toArray, List.getElem_cons_zero, List.getElem_cons_succ]
    refine wpAnyH_take (i := 10) (v := ?vz8z) rfl (by kernel_rfl) (by kernel_rfl) (by kernel_rfl) (fun _ _ _ h => h) (Or.inl ⟨by rfl, ?hyz8z⟩) (by assumption) ?_
    case hyz8z => (intro w hSw; obtain ⟨s0, s1, s2, s3, s4, s5, s6, s7, s8, s9⟩ := hSw; go_simp; try with_reducible rfl)
    try simp only [Act.put, List.setIfInBounds_toArray, List.set_cons_zero, List.set_cons_succ, List.getElem_toArray, List.getElem_cons_zero, List.getElem_cons_succ]
    refine wpAnyH_take (i := 14) (v := ?vz9z) rfl (by kernel_rfl) (by kernel_rfl) (by kernel_rfl) (fun _ _ _ h => h) (Or.inl ⟨by rfl, ?hyz9z⟩) (by assumption) ?_
    case hyz9z => (intro w hSw; obtain ⟨s0, s1, s2, s3, s4, s5, s6, s7, s8, s9⟩ := hSw; go_simp; try with_reducible rfl)
    try simp only [Act.put, List.setIfInBounds_toArray, List.set_cons_zero, List.set_cons_succ, List.getElem_toArray, List.getElem_cons_zero, List.getElem_cons_succ]
    refine wpAnyH_take (i := 15) (v := ?vz10z) rfl (by kernel_rfl) (by kernel_rfl) (by kernel_rfl) (fun _ _ _ h => h) (Or.inl ⟨by rfl, ?hyz10z⟩) (by assumption) ?_
    case hyz10z => (intro w hSw; obtain ⟨s0, s1, s2, s3, s4, s5, s6, s7, s8, s9⟩ := hSw; go_simp; try with_reducible rfl)
    try simp only [Act.put, List.setIfInBounds_toArray, List.set_cons_zero, List.set_cons_succ, List.getElem_toArray, List.getElem_cons_zero, List.getElem_cons_succ]
    refine wpAnyH_take (i := 18) (v := ?vz11z) rfl (by kernel_rfl) (by kernel_rfl) (by kernel_rfl) (fun _ _ _ h => h) (Or.inl ⟨by rfl, ?hyz11z⟩) (by assumption) ?_
    case hyz11z => (intro w hSw; obtain ⟨s0, s1, s2, s3, s4, s5, s6, s7, s8, s9⟩ := hSw; go_simp; try with_reducible rfl)
    try simp only [Act.put, List.setIfInBounds_toArray, List.set_cons_zero, List.set_cons_succ, List.getElem_toArray, List.getElem_cons_zero, List.getElem_cons_succ]
    refine wpAnyH_take (i := 19) (v := ?vz12z) rfl (by kernel_rfl) (by kernel_rfl) (by kernel_rfl) (fun _ _ _ h => h) (Or.inl ⟨by rfl, ?hyz12z⟩) (by assumption) ?_
    case hyz12z => (intro w hSw; obtain ⟨s0, s1, s2, s3, s4, s5, s6, s7, s8, s9⟩ := hSw; go_simp; try with_reducible rfl)
    try simp only [Act.put, List.setIfInBounds_toArray, List.set_cons_zero, List.set_cons_succ, List.getElem_toArray, List.getElem_cons_zero, List.getElem_cons_succ]
    refine wpAnyH_take (i := 22) (v := ?vz13z) rfl (by kernel_rfl) (by kernel_rfl) (by kernel_rfl) (fun _ _ _ h => h) (Or.inl ⟨by rfl, ?hyz13z⟩) (by assumption) ?_
    case hyz13z => (intro w hSw; obtain ⟨s0, s1, s2, s3, s4, s5, s6, s7, s8, s9⟩ := hSw; go_simp; try with_reducible rfl)
    try simp only [Act.put, List.setIfInBounds_toArray, List.set_cons_zero, List.set_cons_succ, List.getElem_toArray, List.getElem_cons_zero, List.getElem_cons_succ]
    refine wpAnyH_take (i := 23) (v := ?vz14z) rfl (by kernel_rfl) (by kernel_rfl) (by kernel_rfl) (fun _ _ _ h => h) (Or.inl ⟨by rfl, ?hyz14z⟩) (by assumption) ?_
    case hyz14z => (intro w hSw; obtain ⟨s0, s1, s2, s3, s4, s5, s6, s7, s8, s9⟩ := hSw; go_simp; try with_reducible rfl)
    try simp only [Act.put, List.setIfInBounds_toArray, List.set_cons_zero, List.set_cons_succ, List.getElem_toArray, List.getElem_cons_zero, List.getElem_cons_succ]
    refine wpAnyH_take (i := 24) (v := ?vz15z) rfl (by kernel_rfl) (by kernel_rfl) (by kernel_rfl) (fun _ _ _ h => h) (Or.inl ⟨by rfl, ?hyz15z⟩) (by assumption) ?_
    case hyz15z => (intro w hSw; obtain ⟨s0, s1, s2, s3, s4, s5, s6, s7, s8, s9⟩ := hSw; go_simp; try with_reducible rfl)
    try simp only [Act.put, List.setIfInBounds_toArray, List.set_cons_zero, List.set_cons_succ, List.getElem_toArray, List.getElem_cons_zero, List.getElem_cons_succ]
    refine wpAnyH_take (i := 31) (v := ?vz16z) rfl (by kernel_rfl) (by kernel_rfl) (by kernel_rfl) (fun _ _ _ h => h) (Or.inl ⟨by rfl, ?hyz16z⟩) (by assumption) ?_
    case hyz16z => (intro w hSw; obtain ⟨s0, s1, s2, s3, s4, s5, s6, s7, s8, s9⟩ := hSw; go_simp; try with_reducible rfl)
    try simp only [Act.put, List.setIfInBounds_toArray, List.set_cons_zero, List.set_cons_succ, List.getElem_toArray, List.getElem_cons_zero, List.getElem_cons_succ]
    refine wpAnyH_take (i := 32) (v := ?vz17z) rfl (by kernel_rfl) (by kernel_rfl) (by kernel_rfl) (fun _ _ _ h => h) (Or.inl ⟨by rfl, ?hyz17z⟩) (by assumption) ?_
    case hyz17z => (intro w hSw; obtain ⟨s0, s1, s2, s3, s4, s5, s6, s7, s8, s9⟩ := hSw; go_simp; try with_reducible rfl)
    try simp only [Act.put, List.setIfInBounds_toArray, List.set_cons_zero, List.set_cons_succ, List.getElem_toArray, List.getElem_cons_zero, List.getElem_cons_succ]
    refine wpAnyH_take (i := 33) (v := ?vz18z) rfl (by kernel_rfl) (by kernel_rfl) (by kernel_rfl) (fun _ _ _ h => h) (Or.inl ⟨by rfl, ?hyz18z⟩) (by assumption) ?_
    case hyz18z => (intro w hSw; obtain ⟨s0, s1, s2, s3, s4, s5, s6, s7, s8, s9⟩ := hSw; go_simp; try with_reducible rfl)
    try simp only [Act.put, List.setIfInBounds_toArray, List.set_cons_zero, List.set_cons_succ, List.getElem_toArray, List.getElem_cons_zero, List.getElem_cons_succ]
    refine wpAnyH_take (i := 34) (v := ?vz19z) rfl (by kernel_rfl) (by kernel_rfl) (by kernel_rfl) (fun _ _ _ h => h) (Or.inl ⟨by rfl, ?hyz19z⟩) (by assumption) ?_
    case hyz19z => (intro w hSw; obtain ⟨s0, s1, s2, s3, s4, s5, s6, s7, s8, s9⟩ := hSw; go_simp; try with_reducible rfl)
    try simp only [Act.put, List.setIfInBounds_toArray, List.set_cons_zero, List.set_cons_succ, List.getElem_toArray, List.getElem_cons_zero, List.getElem_cons_succ]
    refine wpAnyH_take (i := 36) (v := ?vz20z) rfl (by kernel_rfl) (by kernel_rfl) (by kernel_rfl) (fun _ _ _ h => h) (Or.inl ⟨by rfl, ?hyz20z⟩) (by assumption) ?_
    case hyz20z => (intro w hSw; obtain ⟨s0, s1, s2, s3, s4, s5, s6, s7, s8, s9⟩ := hSw; go_simp; try with_reducible rfl)
    try simp only [Act.put, List.setIfInBounds_toArray, List.set_cons_zero, List.set_cons_succ, List.getElem_toArray, List.getElem_cons_zero, List.getElem_cons_succ]
    refine wpAnyH_ready (rs := [11]) (by kernel_rfl) (by simp) ?_
    refine AllReadyH.cons rfl (fun K hK => ?_) AllReadyH.nil
    go_simp
    refine (pFormat_is fm m _ HF.out HMD HFF.out).mono ?_
    rintro e w2 ⟨rfl, nf, rfl⟩
    refine hK.out _ _ ?_ (fun hHeld => ?_)
    · exact hHeld
    clear hK K
    try simp only [Act.put, List.setIfInBounds_toArray, List.set_cons_zero, List.set_cons_succ, List.getElem_toArray, List.getElem_cons_zero, List.getElem_cons_succ]
    refine wpAnyH_take (i := 12) (v := ?vz21z) rfl (by kernel_rfl) (by kernel_rfl) (by kernel_rfl) (fun _ _ _ h => h) (Or.inl ⟨by rfl, ?hyz21z⟩) (by assumption) ?_
    case hyz21z => (intro w hSw; obtain ⟨s0, s1, s2, s3, s4, s5, s6, s7, s8, s9⟩ := hSw; go_simp; try with_reducible rfl)
    try simp only [Act.put, List.setIfInBounds_toArray, List.set_cons_zero, List.set_cons_succ, List.getElem_toArray, List.getElem_cons_zero, List.getElem_cons_succ]
    refine wpAnyH_ready (rs := [13]) (by kernel_rfl) (by simp) ?_
    refine AllReadyH.cons rfl (fun K hK => ?_) AllReadyH.nil
    go_simp
    refine (unless_any _ _ _).mono ?_
    rintro e w2 ⟨rfl, rfl⟩
    refine hK.out _ _ ?_ (fun hHeld => ?_)
    · exact hHeld
    clear hK K
    try simp only [Act.put, List.setIfInBounds_toArray, List.set_cons_zero, List.set_cons_succ, List.getElem_toArray, List.getElem_cons_zero, List.getElem_cons_succ]
    refine wpAnyH_ready (rs := [16]) (by kernel_rfl) (by simp) ?_
    refine AllReadyH.cons rfl (fun K hK => ?_) AllReadyH.nil
    go_simp
    refine (within_is sh (-64800) 64800 _ HA1.out).mono ?_
    rintro e w2 ⟨rfl, rfl⟩
    refine hK.out _ _ ?_ (fun hHeld => ?_)
    · exact hHeld
    clear hK K
    try simp only [Act.put, List.setIfInBounds_toArray, List.set_cons_zero, List.set_cons_succ, List.getElem_toArray, List.getElem_cons_zero, List.getElem_cons_succ]
    refine wpAnyH_ready (rs := [17]) (by kernel_rfl) (by simp) ?_
    refine AllReadyH.cons rfl (fun K hK => ?_) AllReadyH.nil
    go_simp
    refine (unless_any _ _ _).mono ?_
    rintro e w2 ⟨rfl, rfl⟩
    refine hK.out _ _ ?_ (fun hHeld => ?_)
    · exact hHeld
    clear hK K
    try simp only [Act.put, List.setIfInBounds_toArray, List.set_cons_zero, List.set_cons_succ, List.getElem_toArray, List.getElem_cons_zero, List.getElem_cons_succ]
    refine wpAnyH_ready (rs := [20]) (by kernel_rfl) (by simp) ?_
    refine AllReadyH.cons rfl (fun K hK => ?_) AllReadyH.nil
    go_simp
    refine (within_is sv 0 10800 _ HA2.out).mono ?_
    rintro e w2 ⟨rfl, rfl⟩
    refine hK.out _ _ ?_ (fun hHeld => ?_)
    · exact hHeld
    clear hK K
    try simp only [Act.put, List.setIfInBounds_toArray, List.set_cons_zero, List.set_cons_succ, List.getElem_toArray, List.getElem_cons_zero, List.getElem_cons_succ]
    refine wpAnyH_ready (rs := [21]) (by kernel_rfl) (by simp) ?_
    refine AllReadyH.cons rfl (fun K hK => ?_) AllReadyH.nil
    go_simp
    refine (unless_any _ _ _).mono ?_
    rintro e w2 ⟨rfl, rfl⟩
    refine hK.out _ _ ?_ (fun hHeld => ?_)
    · exact hHeld
    clear hK K
    try simp only [Act.put, List.setIfInBounds_toArray, List.set_cons_zero, List.set_cons_succ, List.getElem_toArray, List.getElem_cons_zero, List.getElem_cons_succ]
    refine wpAnyH_take (i := 25) (v := ?vz22z) rfl (by kernel_rfl) (by kernel_rfl) (by kernel_rfl) (fun _ _ _ h => h) (Or.inl ⟨by rfl, ?hyz22z⟩) (by assumption) ?_
    case hyz22z => (intro w hSw; obtain ⟨s0, s1, s2, s3, s4, s5, s6, s7, s8, s9⟩ := hSw; go_simp; try with_reducible rfl)
    try simp only [Act.put, List.setIfInBounds_toArray, List.set_cons_zero, List.set_cons_succ, List.getElem_toArray, List.getElem_cons_zero, List.getElem_cons_succ]
    refine wpAnyH_take (i := 26) (v := undef) rfl (by kernel_rfl) (by kernel_rfl) (by kernel_rfl) (fun _ _ _ h => h) (Or.inr ⟨by rfl, rfl⟩) (by assumption) ?_
    try simp only [Act.put, List.setIfInBounds_toArray, List.set_cons_zero, List.set_cons_succ, List.getElem_toArray, List.getElem_cons_zero, List.getElem_cons_succ]
    refine wpAnyH_take (i := 27) (v := undef) rfl (by kernel_rfl) (by kernel_rfl) (by kernel_rfl) (fun _ _ _ h => h) (Or.inr ⟨by rfl, rfl⟩) (by assumption) ?_
    try simp only [Act.put, List.setIfInBounds_toArray, List.set_cons_zero, List.set_cons_succ, List.getElem_toArray, List.getElem_cons_zero, List.getElem_cons_succ]
    refine wpAnyH_take (i := 28) (v := undef) rfl (by kernel_rfl) (by kernel_rfl) (by kernel_rfl) (fun _ _ _ h => h) (Or.inr ⟨by rfl, rfl⟩) (by assumption) ?_
    try simp only [Act.put, List.setIfInBounds_toArray, List.set_cons_zero, List.set_cons_succ, List.getElem_toArray, List.getElem_cons_zero, List.getElem_cons_succ]
    refine wpAnyH_take (i := 29) (v := ?vz23z) rfl (by kernel_rfl) (by kernel_rfl) (by kernel_rfl) (fun _ _ _ h => h) (Or.inl ⟨by rfl, ?hyz23z⟩) (by assumption) ?_
    case hyz23z => (intro w hSw; obtain ⟨s0, s1, s2, s3, s4, s5, s6, s7, s8, s9⟩ := hSw; go_simp; try with_reducible rfl)
    try simp only [Act.put, List.setIfInBounds_toArray, List.set_cons_zero, List.set_cons_succ, List.getElem_toArray, List.getElem_cons_zero, List.getElem_cons_succ]
    refine wpAnyH_ready (rs := [30]) (by kernel_rfl) (by simp) ?_
    refine AllReadyH.cons rfl (fun K hK => ?_) AllReadyH.nil
    go_simp
    refine (unless_any _ _ _).mono ?_
    rintro e w2 ⟨rfl, rfl⟩
    refine hK.out _ _ ?_ (fun hHeld => ?_)
    · exact hHeld
    clear hK K
    try simp only [Act.put, List.setIfInBounds_toArray, List.set_cons_zero, List.set_cons_succ, List.getElem_toArray, List.getElem_cons_zero, List.getElem_cons_succ]
    refine wpAnyH_ready (rs := [35]) (by kernel_rfl) (by simp) ?_
    refine AllReadyH.cons rfl (fun K hK => ?_) AllReadyH.nil
    go_simp
    refine (unless_any _ _ _).mono ?_
    rintro e w2 ⟨rfl, rfl⟩
    refine hK.out _ _ ?_ (fun hHeld => ?_)
    · exact hHeld
    clear hK K
    try simp only [Act.put, List.setIfInBounds_toArray, List.set_cons_zero, List.set_cons_succ, List.getElem_toArray, List.getElem_cons_zero, List.getElem_cons_succ]
    refine wpAnyH_ready (rs := [37]) (by kernel_rfl) (by simp) ?_
    refine AllReadyH.cons rfl (fun K hK => ?_) AllReadyH.nil
    go_simp
    refine (pCheckEnd_any ⟨sh, [], sv, fm, op, uy, um, ud, ua, uc⟩ _).mono ?_
    rintro e w3 ⟨rfl, hb3⟩
    rw [HE.out]
    have S3 : EraH B ⟨sh, [], sv, fm, op, uy, um, ud, ua, uc⟩ w3 := eraH_below hHeld hb3 SD
    have BB : Hid (Below V.heap.size V w3) := by first | exact below_drewn hb3 | exact below_drew1 hb3
    have S4 : B < w3.heap.size := Nat.lt_of_lt_of_le SD hb3.size
    have CN := hid (ca_new w3 ([uE F 1, uE A1 3, uE A2 3, uE true 1, uE (op == last) 4, E].map (Value.int .i64)) 28)
    clear hb3
    refine hK.out _ _ ?_ (fun hHeld => ?_)
    · exact S3
    clear hK K
    try simp only [Act.put, List.setIfInBounds_toArray, List.set_cons_zero, List.set_cons_succ, List.getElem_toArray, List.getElem_cons_zero, List.getElem_cons_succ]
    refine wpAnyH_ready (rs := [38]) (by kernel_rfl) (by simp) ?_
    refine AllReadyH.cons rfl (fun K hK => ?_) AllReadyH.nil
    go_simp
    refine hK.out _ _ ?_ (fun hHeld => ?_)
    · exact eraH_below S3 ((Below.refl _ _).alloc (Nat.le_refl _) _) S4
    clear hK K
    try simp only [Act.put, List.setIfInBounds_toArray, List.set_cons_zero, List.set_cons_succ, List.getElem_toArray, List.getElem_cons_zero, List.getElem_cons_succ]
    refine wpAnyH_ready (rs := [39]) (by kernel_rfl) (by simp) ?_
    refine AllReadyH.cons rfl (fun K hK => ?_) AllReadyH.nil
    go_simp
    refine (or_any [uE F 1, uE A1 3, uE A2 3, uE true 1, uE (op == last) 4, E] w3.heap.size 6 _ CN.out (by simp)).mono ?_
    rintro e w2 ⟨rfl, rfl⟩
    refine hK.out _ _ ?_ (fun hHeld => ?_)
    · exact hHeld
    clear hK K
    try simp only [Act.put, List.setIfInBounds_toArray, List.set_cons_zero, List.set_cons_succ, List.getElem_toArray, List.getElem_cons_zero, List.getElem_cons_succ]
    refine wpAnyH_take (i := 40) (v := ?vz24z) rfl (by kernel_rfl) (by kernel_rfl) (by kernel_rfl) (fun _ _ _ h => h) (Or.inl ⟨by rfl, ?hyz24z⟩) (by assumption) ?_
    case hyz24z => (intro w hSw; obtain ⟨s0, s1, s2, s3, s4, s5, s6, s7, s8, s9⟩ := hSw; go_simp; try with_reducible rfl)
    try simp only [Act.put, List.setIfInBounds_toArray, List.set_cons_zero, List.set_cons_succ, List.getElem_toArray, List.getElem_cons_zero, List.getElem_cons_succ]
    refine wpAnyH_done (by kernel_rfl) ?_ _
    have BF : Below w.heap.size w (w3.alloc (.cells ([uE F 1, uE A1 3, uE A2 3, uE true 1, uE (op == last) 4, E].map (Value.int .i64)).toArray 28)) := BV.out.trans ((BB.out.alloc BB.out.size _).mono BV.out.size)
    go_wp2
    go_ret
    exact ⟨ret_int (by simp []), BF⟩
  case false =>
    cases hN : Sx.nameB rl
    case true =>
      have HN := hid hN
      clear hN
      have SS : EraH B ⟨sh, rl, sv, fm, op, uy, um, ud, ua, uc⟩ V.drew := XV.out
      have HMD : V.drew.cell? ⟨0, 0, none⟩ = some (.int .i64 m) := HMV.out
      have SD : B < V.drew.heap.size := SV.out
      refine wp_region_held_drew (S := fun w' => EraH B ⟨sh, rl, sv, fm, op, uy, um, ud, ua, uc⟩ w') (by kernel_rfl) SS (fun hHeld => ?_)
      refine wpAnyH_take (i := 0) (v := ?vz25z) rfl (by kernel_rfl) (by kernel_rfl) (by kernel_rfl) (fun _ _ _ h => h) (Or.inl ⟨by rfl, ?hyz25z⟩) (by assumption) ?_
      case hyz25z => (intro w hSw; obtain ⟨s0, s1, s2, s3, s4, s5, s6, s7, s8, s9⟩ := hSw; go_simp; try with_reducible rfl)
      try simp only [Act.put, List.setIfInBounds_toArray, List.set_cons_zero, List.set_cons_succ, List.getElem_toArray, List.getElem_cons_zero, List.getElem_cons_succ]
      refine wpAnyH_take (i := 1) (v := ?vz26z) rfl (by kernel_rfl) (by kernel_rfl) (by kernel_rfl) (fun _ _ _ h => h) (Or.inl ⟨by rfl, ?hyz26z⟩) (by assumption) ?_
      case hyz26z => (intro w hSw; obtain ⟨s0, s1, s2, s3, s4, s5, s6, s7, s8, s9⟩ := hSw; go_simp; try with_reducible rfl)
      try simp only [Act.put, List.setIfInBounds_toArray, List.set_cons_zero, List.set_cons_succ, List.getElem_toArray, List.getElem_cons_zero, List.getElem_cons_succ]
      refine wpAnyH_take (i := 2) (v := ?vz27z) rfl (by kernel_rfl) (by kernel_rfl) (by kernel_rfl) (fun _ _ _ h => h) (Or.inl ⟨by rfl, ?hyz27z⟩) (by assumption) ?_
      case hyz27z => (intro w hSw; obtain ⟨s0, s1, s2, s3, s4, s5, s6, s7, s8, s9⟩ := hSw; go_simp; try with_reducible rfl)
      try simp only [Act.put, List.setIfInBounds_toArray, List.set_cons_zero, List.set_cons_succ, List.getElem_toArray, List.getElem_cons_zero, List.getElem_cons_succ]
      refine wpAnyH_take (i := 3) (v := ?vz28z) rfl (by kernel_rfl) (by kernel_rfl) (by kernel_rfl) (fun _ _ _ h => h) (Or.inl ⟨by rfl, ?hyz28z⟩) (by assumption) ?_
      case hyz28z => (intro w hSw; obtain ⟨s0, s1, s2, s3, s4, s5, s6, s7, s8, s9⟩ := hSw; go_simp; try with_reducible rfl)
      try simp only [Act.put, List.setIfInBounds_toArray, List.set_cons_zero, List.set_cons_succ, List.getElem_toArray, List.getElem_cons_zero, List.getElem_cons_succ]
      refine wpAnyH_take (i := 4) (v := ?vz29z) rfl (by kernel_rfl) (by kernel_rfl) (by kernel_rfl) (fun _ _ _ h => h) (Or.inl ⟨by rfl, ?hyz29z⟩) (by assumption) ?_
      case hyz29z => (intro w hSw; obtain ⟨s0, s1, s2, s3, s4, s5, s6, s7, s8, s9⟩ := hSw; go_simp; try with_reducible rfl)
      try simp only [Act.put, List.setIfInBounds_toArray, List.set_cons_zero, List.set_cons_succ, List.getElem_toArray, List.getElem_cons_zero, List.getElem_cons_succ]
      refine wpAnyH_take (i := 5) (v := ?vz30z) rfl (by kernel_rfl) (by kernel_rfl) (by kernel_rfl) (fun _ _ _ h => h) (Or.inl ⟨by rfl, ?hyz30z⟩) (by assumption) ?_
      case hyz30z => (intro w hSw; obtain ⟨s0, s1, s2, s3, s4, s5, s6, s7, s8, s9⟩ := hSw; go_simp; try with_reducible rfl)
      try simp only [Act.put, List.setIfInBounds_toArray, List.set_cons_zero, List.set_cons_succ, List.getElem_toArray, List.getElem_cons_zero, List.getElem_cons_succ]
      refine wpAnyH_take (i := 14) (v := ?vz31z) rfl (by kernel_rfl) (by kernel_rfl) (by kernel_rfl) (fun _ _ _ h => h) (Or.inl ⟨by rfl, ?hyz31z⟩) (by assumption) ?_
      case hyz31z => (intro w hSw; obtain ⟨s0, s1, s2, s3, s4, s5, s6, s7, s8, s9⟩ := hSw; go_simp; try with_reducible rfl)
      try simp only [Act.put, List.setIfInBounds_toArray, List.set_cons_zero, List.set_cons_succ, List.getElem_toArray, List.getElem_cons_zero, List.getElem_cons_succ]
      refine wpAnyH_take (i := 15) (v := ?vz32z) rfl (by kernel_rfl) (by kernel_rfl) (by kernel_rfl) (fun _ _ _ h => h) (Or.inl ⟨by rfl, ?hyz32z⟩) (by assumption) ?_
      case hyz32z => (intro w hSw; obtain ⟨s0, s1, s2, s3, s4, s5, s6, s7, s8, s9⟩ := hSw; go_simp; try with_reducible rfl)
      try simp only [Act.put, List.setIfInBounds_toArray, List.set_cons_zero, List.set_cons_succ, List.getElem_toArray, List.getElem_cons_zero, List.getElem_cons_succ]
      refine wpAnyH_take (i := 18) (v := ?vz33z) rfl (by kernel_rfl) (by kernel_rfl) (by kernel_rfl) (fun _ _ _ h => h) (Or.inl ⟨by rfl, ?hyz33z⟩) (by assumption) ?_
      case hyz33z => (intro w hSw; obtain ⟨s0, s1, s2, s3, s4, s5, s6, s7, s8, s9⟩ := hSw; go_simp; try with_reducible rfl)
      try simp only [Act.put, List.setIfInBounds_toArray, List.set_cons_zero, List.set_cons_succ, List.getElem_toArray, List.getElem_cons_zero, List.getElem_cons_succ]
      refine wpAnyH_take (i := 19) (v := ?vz34z) rfl (by kernel_rfl) (by kernel_rfl) (by kernel_rfl) (fun _ _ _ h => h) (Or.inl ⟨by rfl, ?hyz34z⟩) (by assumption) ?_
      case hyz34z => (intro w hSw; obtain ⟨s0, s1, s2, s3, s4, s5, s6, s7, s8, s9⟩ := hSw; go_simp; try with_reducible rfl)
      try simp only [Act.put, List.setIfInBounds_toArray, List.set_cons_zero, List.set_cons_succ, List.getElem_toArray, List.getElem_cons_zero, List.getElem_cons_succ]
      refine wpAnyH_take (i := 22) (v := ?vz35z) rfl (by kernel_rfl) (by kernel_rfl) (by kernel_rfl) (fun _ _ _ h => h) (Or.inl ⟨by rfl, ?hyz35z⟩) (by assumption) ?_
      case hyz35z => (intro w hSw; obtain ⟨s0, s1, s2, s3, s4, s5, s6, s7, s8, s9⟩ := hSw; go_simp; try with_reducible rfl)
      try simp only [Act.put, List.setIfInBounds_toArray, List.set_cons_zero, List.set_cons_succ, List.getElem_toArray, List.getElem_cons_zero, List.getElem_cons_succ]
      refine wpAnyH_take (i := 23) (v := ?vz36z) rfl (by kernel_rfl) (by kernel_rfl) (by kernel_rfl) (fun _ _ _ h => h) (Or.inl ⟨by rfl, ?hyz36z⟩) (by assumption) ?_
      case hyz36z => (intro w hSw; obtain ⟨s0, s1, s2, s3, s4, s5, s6, s7, s8, s9⟩ := hSw; go_simp; try with_reducible rfl)
      try simp only [Act.put, List.setIfInBounds_toArray, List.set_cons_zero, List.set_cons_succ, List.getElem_toArray, List.getElem_cons_zero, List.getElem_cons_succ]
      refine wpAnyH_take (i := 24) (v := ?vz37z) rfl (by kernel_rfl) (by kernel_rfl) (by kernel_rfl) (fun _ _ _ h => h) (Or.inl ⟨by rfl, ?hyz37z⟩) (by assumption) ?_
      case hyz37z => (intro w hSw; obtain ⟨s0, s1, s2, s3, s4, s5, s6, s7, s8, s9⟩ := hSw; go_simp; try with_reducible rfl)
      try simp only [Act.put, List.setIfInBounds_toArray, List.set_cons_zero, List.set_cons_succ, List.getElem_toArray, List.getElem_cons_zero, List.getElem_cons_succ]
      refine wpAnyH_take (i := 31) (v := ?vz38z) rfl (by kernel_rfl) (by kernel_rfl) (by kernel_rfl) (fun _ _ _ h => h) (Or.inl ⟨by rfl, ?hyz38z⟩) (by assumption) ?_
      case hyz38z => (intro w hSw; obtain ⟨s0, s1, s2, s3, s4, s5, s6, s7, s8, s9⟩ := hSw; go_simp; try with_reducible rfl)
      try simp only [Act.put, List.setIfInBounds_toArray, List.set_cons_zero, List.set_cons_succ, List.getElem_toArray, List.getElem_cons_zero, List.getElem_cons_succ]
      refine wpAnyH_take (i := 32) (v := ?vz39z) rfl (by kernel_rfl) (by kernel_rfl) (by kernel_rfl) (fun _ _ _ h => h) (Or.inl ⟨by rfl, ?hyz39z⟩) (by assumption) ?_
      case hyz39z => (intro w hSw; obtain ⟨s0, s1, s2, s3, s4, s5, s6, s7, s8, s9⟩ := hSw; go_simp; try with_reducible rfl)
      try simp only [Act.put, List.setIfInBounds_toArray, List.set_cons_zero, List.set_cons_succ, List.getElem_toArray, List.getElem_cons_zero, List.getElem_cons_succ]
      refine wpAnyH_take (i := 33) (v := ?vz40z) rfl (by kernel_rfl) (by kernel_rfl) (by kernel_rfl) (fun _ _ _ h => h) (Or.inl ⟨by rfl, ?hyz40z⟩) (by assumption) ?_
      case hyz40z => (intro w hSw; obtain ⟨s0, s1, s2, s3, s4, s5, s6, s7, s8, s9⟩ := hSw; go_simp; try with_reducible rfl)
      try simp only [Act.put, List.setIfInBounds_toArray, List.set_cons_zero, List.set_cons_succ, List.getElem_toArray, List.getElem_cons_zero, List.getElem_cons_succ]
      refine wpAnyH_take (i := 34) (v := ?vz41z) rfl (by kernel_rfl) (by kernel_rfl) (by kernel_rfl) (fun _ _ _ h => h) (Or.inl ⟨by rfl, ?hyz41z⟩) (by assumption) ?_
      case hyz41z => (intro w hSw; obtain ⟨s0, s1, s2, s3, s4, s5, s6, s7, s8, s9⟩ := hSw; go_simp; try with_reducible rfl)
      try simp only [Act.put, List.setIfInBounds_toArray, List.set_cons_zero, List.set_cons_succ, List.getElem_toArray, List.getElem_cons_zero, List.getElem_cons_succ]
      refine wpAnyH_take (i := 36) (v := ?vz42z) rfl (by kernel_rfl) (by kernel_rfl) (by kernel_rfl) (fun _ _ _ h => h) (Or.inl ⟨by rfl, ?hyz42z⟩) (by assumption) ?_
      case hyz42z => (intro w hSw; obtain ⟨s0, s1, s2, s3, s4, s5, s6, s7, s8, s9⟩ := hSw; go_simp; try with_reducible rfl)
      try simp only [Act.put, List.setIfInBounds_toArray, List.set_cons_zero, List.set_cons_succ, List.getElem_toArray, List.getElem_cons_zero, List.getElem_cons_succ]
      refine wpAnyH_ready (rs := [6]) (by kernel_rfl) (by simp) ?_
      refine AllReadyH.cons rfl (fun K hK => ?_) AllReadyH.nil
      go_simp
      refine (pName_str rl _ HR.out HN.out).mono ?_
      rintro e w2 ⟨rfl, rfl⟩
      refine hK.out _ _ ?_ (fun hHeld => ?_)
      · exact hHeld
      clear hK K
      try simp only [Act.put, List.setIfInBounds_toArray, List.set_cons_zero, List.set_cons_succ, List.getElem_toArray, List.getElem_cons_zero, List.getElem_cons_succ]
      refine wpAnyH_take (i := 7) (v := ?vz43z) rfl (by kernel_rfl) (by kernel_rfl) (by kernel_rfl) (fun _ _ _ h => h) (Or.inl ⟨by rfl, ?hyz43z⟩) (by assumption) ?_
      case hyz43z => (intro w hSw; obtain ⟨s0, s1, s2, s3, s4, s5, s6, s7, s8, s9⟩ := hSw; go_simp; try with_reducible rfl)
      try simp only [Act.put, List.setIfInBounds_toArray, List.set_cons_zero, List.set_cons_succ, List.getElem_toArray, List.getElem_cons_zero, List.getElem_cons_succ]
      refine wpAnyH_take (i := 8) (v := ?vz44z) rfl (by kernel_rfl) (by kernel_rfl) (by kernel_rfl) (fun _ _ _ h => h) (Or.inl ⟨by rfl, ?hyz44z⟩) (by assumption) ?_
      case hyz44z => (intro w hSw; obtain ⟨s0, s1, s2, s3, s4, s5, s6, s7, s8, s9⟩ := hSw; go_simp; try with_reducible rfl)
      try simp only [Act.put, List.setIfInBounds_toArray, List.set_cons_zero, List.set_cons_succ, List.getElem_toArray, List.getElem_cons_zero, List.getElem_cons_succ]
      refine wpAnyH_take (i := 9) (v := ?vz45z) rfl (by kernel_rfl) (by kernel_rfl) (by kernel_rfl) (fun _ _ _ h => h) (Or.inl ⟨by rfl, ?hyz45z⟩) (by assumption) ?_
      case hyz45z => (intro w hSw; obtain ⟨s0, s1, s2, s3, s4, s5, s6, s7, s8, s9⟩ := hSw; go_simp; try with_reducible rfl)
      try simp only [Act.put, List.setIfInBounds_toArray, List.set_cons_zero, List.set_cons_succ, List.getElem_toArray, List.getElem_cons_zero, List.getElem_cons_succ]
      refine wpAnyH_take (i := 10) (v := ?vz46z) rfl (by kernel_rfl) (by kernel_rfl) (by kernel_rfl) (fun _ _ _ h => h) (Or.inl ⟨by rfl, ?hyz46z⟩) (by assumption) ?_
      case hyz46z => (intro w hSw; obtain ⟨s0, s1, s2, s3, s4, s5, s6, s7, s8, s9⟩ := hSw; go_simp; try with_reducible rfl)
      try simp only [Act.put, List.setIfInBounds_toArray, List.set_cons_zero, List.set_cons_succ, List.getElem_toArray, List.getElem_cons_zero, List.getElem_cons_succ]
      refine wpAnyH_ready (rs := [11]) (by kernel_rfl) (by simp) ?_
      refine AllReadyH.cons rfl (fun K hK => ?_) AllReadyH.nil
      go_simp
      refine (pFormat_is fm m _ HF.out HMD HFF.out).mono ?_
      rintro e w2 ⟨rfl, nf, rfl⟩
      refine hK.out _ _ ?_ (fun hHeld => ?_)
      · exact hHeld
      clear hK K
      try simp only [Act.put, List.setIfInBounds_toArray, List.set_cons_zero, List.set_cons_succ, List.getElem_toArray, List.getElem_cons_zero, List.getElem_cons_succ]
      refine wpAnyH_take (i := 12) (v := ?vz47z) rfl (by kernel_rfl) (by kernel_rfl) (by kernel_rfl) (fun _ _ _ h => h) (Or.inl ⟨by rfl, ?hyz47z⟩) (by assumption) ?_
      case hyz47z => (intro w hSw; obtain ⟨s0, s1, s2, s3, s4, s5, s6, s7, s8, s9⟩ := hSw; go_simp; try with_reducible rfl)
      try simp only [Act.put, List.setIfInBounds_toArray, List.set_cons_zero, List.set_cons_succ, List.getElem_toArray, List.getElem_cons_zero, List.getElem_cons_succ]
      refine wpAnyH_ready (rs := [13]) (by kernel_rfl) (by simp) ?_
      refine AllReadyH.cons rfl (fun K hK => ?_) AllReadyH.nil
      go_simp
      refine (unless_any _ _ _).mono ?_
      rintro e w2 ⟨rfl, rfl⟩
      refine hK.out _ _ ?_ (fun hHeld => ?_)
      · exact hHeld
      clear hK K
      try simp only [Act.put, List.setIfInBounds_toArray, List.set_cons_zero, List.set_cons_succ, List.getElem_toArray, List.getElem_cons_zero, List.getElem_cons_succ]
      refine wpAnyH_ready (rs := [16]) (by kernel_rfl) (by simp) ?_
      refine AllReadyH.cons rfl (fun K hK => ?_) AllReadyH.nil
      go_simp
      refine (within_is sh (-64800) 64800 _ HA1.out).mono ?_
      rintro e w2 ⟨rfl, rfl⟩
      refine hK.out _ _ ?_ (fun hHeld => ?_)
      · exact hHeld
      clear hK K
      try simp only [Act.put, List.setIfInBounds_toArray, List.set_cons_zero, List.set_cons_succ, List.getElem_toArray, List.getElem_cons_zero, List.getElem_cons_succ]
      refine wpAnyH_ready (rs := [17]) (by kernel_rfl) (by simp) ?_
      refine AllReadyH.cons rfl (fun K hK => ?_) AllReadyH.nil
      go_simp
      refine (unless_any _ _ _).mono ?_
      rintro e w2 ⟨rfl, rfl⟩
      refine hK.out _ _ ?_ (fun hHeld => ?_)
      · exact hHeld
      clear hK K
      try simp only [Act.put, List.setIfInBounds_toArray, List.set_cons_zero, List.set_cons_succ, List.getElem_toArray, List.getElem_cons_zero, List.getElem_cons_succ]
      refine wpAnyH_ready (rs := [20]) (by kernel_rfl) (by simp) ?_
      refine AllReadyH.cons rfl (fun K hK => ?_) AllReadyH.nil
      go_simp
      refine (within_is sv 0 10800 _ HA2.out).mono ?_
      rintro e w2 ⟨rfl, rfl⟩
      refine hK.out _ _ ?_ (fun hHeld => ?_)
      · exact hHeld
      clear hK K
      try simp only [Act.put, List.setIfInBounds_toArray, List.set_cons_zero, List.set_cons_succ, List.getElem_toArray, List.getElem_cons_zero, List.getElem_cons_succ]
      refine wpAnyH_ready (rs := [21]) (by kernel_rfl) (by simp) ?_
      refine AllReadyH.cons rfl (fun K hK => ?_) AllReadyH.nil
      go_simp
      refine (unless_any _ _ _).mono ?_
      rintro e w2 ⟨rfl, rfl⟩
      refine hK.out _ _ ?_ (fun hHeld => ?_)
      · exact hHeld
      clear hK K
      try simp only [Act.put, List.setIfInBounds_toArray, List.set_cons_zero, List.set_cons_succ, List.getElem_toArray, List.getElem_cons_zero, List.getElem_cons_succ]
      refine wpAnyH_take (i := 25) (v := ?vz48z) rfl (by kernel_rfl) (by kernel_rfl) (by kernel_rfl) (fun _ _ _ h => h) (Or.inl ⟨by rfl, ?hyz48z⟩) (by assumption) ?_
      case hyz48z => (intro w hSw; obtain ⟨s0, s1, s2, s3, s4, s5, s6, s7, s8, s9⟩ := hSw; go_simp; try with_reducible rfl)
      try simp only [Act.put, List.setIfInBounds_toArray, List.set_cons_zero, List.set_cons_succ, List.getElem_toArray, List.getElem_cons_zero, List.getElem_cons_succ]
      refine wpAnyH_take (i := 26) (v := ?vz49z) rfl (by kernel_rfl) (by kernel_rfl) (by kernel_rfl) (fun _ _ _ h => h) (Or.inl ⟨by rfl, ?hyz49z⟩) (by assumption) ?_
      case hyz49z => (intro w hSw; obtain ⟨s0, s1, s2, s3, s4, s5, s6, s7, s8, s9⟩ := hSw; go_simp; try with_reducible rfl)
      try simp only [Act.put, List.setIfInBounds_toArray, List.set_cons_zero, List.set_cons_succ, List.getElem_toArray, List.getElem_cons_zero, List.getElem_cons_succ]
      refine wpAnyH_take (i := 27) (v := ?vz50z) rfl (by kernel_rfl) (by kernel_rfl) (by kernel_rfl) (fun _ _ _ h => h) (Or.inl ⟨by rfl, ?hyz50z⟩) (by assumption) ?_
      case hyz50z => (intro w hSw; obtain ⟨s0, s1, s2, s3, s4, s5, s6, s7, s8, s9⟩ := hSw; go_simp; try with_reducible rfl)
      try simp only [Act.put, List.setIfInBounds_toArray, List.set_cons_zero, List.set_cons_succ, List.getElem_toArray, List.getElem_cons_zero, List.getElem_cons_succ]
      refine wpAnyH_take (i := 28) (v := ?vz51z) rfl (by kernel_rfl) (by kernel_rfl) (by kernel_rfl) (fun _ _ _ h => h) (Or.inl ⟨by rfl, ?hyz51z⟩) (by assumption) ?_
      case hyz51z => (intro w hSw; obtain ⟨s0, s1, s2, s3, s4, s5, s6, s7, s8, s9⟩ := hSw; go_simp; try with_reducible rfl)
      try simp only [Act.put, List.setIfInBounds_toArray, List.set_cons_zero, List.set_cons_succ, List.getElem_toArray, List.getElem_cons_zero, List.getElem_cons_succ]
      refine wpAnyH_take (i := 29) (v := ?vz52z) rfl (by kernel_rfl) (by kernel_rfl) (by kernel_rfl) (fun _ _ _ h => h) (Or.inl ⟨by rfl, ?hyz52z⟩) (by assumption) ?_
      case hyz52z => (intro w hSw; obtain ⟨s0, s1, s2, s3, s4, s5, s6, s7, s8, s9⟩ := hSw; go_simp; try with_reducible rfl)
      try simp only [Act.put, List.setIfInBounds_toArray, List.set_cons_zero, List.set_cons_succ, List.getElem_toArray, List.getElem_cons_zero, List.getElem_cons_succ]
      refine wpAnyH_ready (rs := [30]) (by kernel_rfl) (by simp) ?_
      refine AllReadyH.cons rfl (fun K hK => ?_) AllReadyH.nil
      go_simp
      refine (unless_any _ _ _).mono ?_
      rintro e w2 ⟨rfl, rfl⟩
      refine hK.out _ _ ?_ (fun hHeld => ?_)
      · exact hHeld
      clear hK K
      try simp only [Act.put, List.setIfInBounds_toArray, List.set_cons_zero, List.set_cons_succ, List.getElem_toArray, List.getElem_cons_zero, List.getElem_cons_succ]
      refine wpAnyH_ready (rs := [35]) (by kernel_rfl) (by simp) ?_
      refine AllReadyH.cons rfl (fun K hK => ?_) AllReadyH.nil
      go_simp
      refine (unless_any _ _ _).mono ?_
      rintro e w2 ⟨rfl, rfl⟩
      refine hK.out _ _ ?_ (fun hHeld => ?_)
      · exact hHeld
      clear hK K
      try simp only [Act.put, List.setIfInBounds_toArray, List.set_cons_zero, List.set_cons_succ, List.getElem_toArray, List.getElem_cons_zero, List.getElem_cons_succ]
      refine wpAnyH_ready (rs := [37]) (by kernel_rfl) (by simp) ?_
      refine AllReadyH.cons rfl (fun K hK => ?_) AllReadyH.nil
      go_simp
      refine (pCheckEnd_any ⟨sh, rl, sv, fm, op, uy, um, ud, ua, uc⟩ _).mono ?_
      rintro e w3 ⟨rfl, hb3⟩
      rw [HE.out]
      have S3 : EraH B ⟨sh, rl, sv, fm, op, uy, um, ud, ua, uc⟩ w3 := eraH_below hHeld hb3 SD
      have BB : Hid (Below V.heap.size V w3) := by first | exact below_drewn hb3 | exact below_drew1 hb3
      have S4 : B < w3.heap.size := Nat.lt_of_lt_of_le SD hb3.size
      have CN := hid (ca_new w3 ([uE F 1, uE A1 3, uE A2 3, uE (sv == 0) 1, uE (op == last) 4, E].map (Value.int .i64)) 28)
      clear hb3
      refine hK.out _ _ ?_ (fun hHeld => ?_)
      · exact S3
      clear hK K
      try simp only [Act.put, List.setIfInBounds_toArray, List.set_cons_zero, List.set_cons_succ, List.getElem_toArray, List.getElem_cons_zero, List.getElem_cons_succ]
      refine wpAnyH_ready (rs := [38]) (by kernel_rfl) (by simp) ?_
      refine AllReadyH.cons rfl (fun K hK => ?_) AllReadyH.nil
      go_simp
      refine hK.out _ _ ?_ (fun hHeld => ?_)
      · exact eraH_below S3 ((Below.refl _ _).alloc (Nat.le_refl _) _) S4
      clear hK K
      try simp only [Act.put, List.setIfInBounds_toArray, List.set_cons_zero, List.set_cons_succ, List.getElem_toArray, List.getElem_cons_zero, List.getElem_cons_succ]
      refine wpAnyH_ready (rs := [39]) (by kernel_rfl) (by simp) ?_
      refine AllReadyH.cons rfl (fun K hK => ?_) AllReadyH.nil
      go_simp
      refine (or_any [uE F 1, uE A1 3, uE A2 3, uE (sv == 0) 1, uE (op == last) 4, E] w3.heap.size 6 _ CN.out (by simp)).mono ?_
      rintro e w2 ⟨rfl, rfl⟩
      refine hK.out _ _ ?_ (fun hHeld => ?_)
      · exact hHeld
      clear hK K
      try simp only [Act.put, List.setIfInBounds_toArray, List.set_cons_zero, List.set_cons_succ, List.getElem_toArray, List.getElem_cons_zero, List.getElem_cons_succ]
      refine wpAnyH_take (i := 40) (v := ?vz53z) rfl (by kernel_rfl) (by kernel_rfl) (by kernel_rfl) (fun _ _ _ h => h) (Or.inl ⟨by rfl, ?hyz53z⟩) (by assumption) ?_
      case hyz53z => (intro w hSw; obtain ⟨s0, s1, s2, s3, s4, s5, s6, s7, s8, s9⟩ := hSw; go_simp; try with_reducible rfl)
      try simp only [Act.put, List.setIfInBounds_toArray, List.set_cons_zero, List.set_cons_succ, List.getElem_toArray, List.getElem_cons_zero, List.getElem_cons_succ]
      refine wpAnyH_done (by kernel_rfl) ?_ _
      have BF : Below w.heap.size w (w3.alloc (.cells ([uE F 1, uE A1 3, uE A2 3, uE (sv == 0) 1, uE (op == last) 4, E].map (Value.int .i64)).toArray 28)) := BV.out.trans ((BB.out.alloc BB.out.size _).mono BV.out.size)
      go_wp2
      go_ret
      exact ⟨ret_int (by simp [hr, HN.out]), BF⟩
    case false =>
      have HN := hid hN
      clear hN
      have SS : EraH B ⟨sh, rl, sv, fm, op, uy, um, ud, ua, uc⟩ V.drew := XV.out
      have HMD : V.drew.cell? ⟨0, 0, none⟩ = some (.int .i64 m) := HMV.out
      have SD : B < V.drew.heap.size := SV.out
      refine wp_region_held_drew (S := fun w' => EraH B ⟨sh, rl, sv, fm, op, uy, um, ud, ua, uc⟩ w') (by kernel_rfl) SS (fun hHeld => ?_)
      refine wpAnyH_take (i := 0) (v := ?vz54z) rfl (by kernel_rfl) (by kernel_rfl) (by kernel_rfl) (fun _ _ _ h => h) (Or.inl ⟨by rfl, ?hyz54z⟩) (by assumption) ?_
      case hyz54z => (intro w hSw; obtain ⟨s0, s1, s2, s3, s4, s5, s6, s7, s8, s9⟩ := hSw; go_simp; try with_reducible rfl)
      try simp only [Act.put, List.setIfInBounds_toArray, List.set_cons_zero, List.set_cons_succ, List.getElem_toArray, List.getElem_cons_zero, List.getElem_cons_succ]
      refine wpAnyH_take (i := 1) (v := ?vz55z) rfl (by kernel_rfl) (by kernel_rfl) (by kernel_rfl) (fun _ _ _ h => h) (Or.inl ⟨by rfl, ?hyz55z⟩) (by assumption) ?_
      case hyz55z => (intro w hSw; obtain ⟨s0, s1, s2, s3, s4, s5, s6, s7, s8, s9⟩ := hSw; go_simp; try with_reducible rfl)
      try simp only [Act.put, List.setIfInBounds_toArray, List.set_cons_zero, List.set_cons_succ, List.getElem_toArray, List.getElem_cons_zero, List.getElem_cons_succ]
      refine wpAnyH_take (i := 2) (v := ?vz56z) rfl (by kernel_rfl) (by kernel_rfl) (by kernel_rfl) (fun _ _ _ h => h) (Or.inl ⟨by rfl, ?hyz56z⟩) (by assumption) ?_
      case hyz56z => (intro w hSw; obtain ⟨s0, s1, s2, s3, s4, s5, s6, s7, s8, s9⟩ := hSw; go_simp; try with_reducible rfl)
      try simp only [Act.put, List.setIfInBounds_toArray, List.set_cons_zero, List.set_cons_succ, List.getElem_toArray, List.getElem_cons_zero, List.getElem_cons_succ]
      refine wpAnyH_take (i := 3) (v := ?vz57z) rfl (by kernel_rfl) (by kernel_rfl) (by kernel_rfl) (fun _ _ _ h => h) (Or.inl ⟨by rfl, ?hyz57z⟩) (by assumption) ?_
      case hyz57z => (intro w hSw; obtain ⟨s0, s1, s2, s3, s4, s5, s6, s7, s8, s9⟩ := hSw; go_simp; try with_reducible rfl)
      try simp only [Act.put, List.setIfInBounds_toArray, List.set_cons_zero, List.set_cons_succ, List.getElem_toArray, List.getElem_cons_zero, List.getElem_cons_succ]
      refine wpAnyH_take (i := 4) (v := ?vz58z) rfl (by kernel_rfl) (by kernel_rfl) (by kernel_rfl) (fun _ _ _ h => h) (Or.inl ⟨by rfl, ?hyz58z⟩) (by assumption) ?_
      case hyz58z => (intro w hSw; obtain ⟨s0, s1, s2, s3, s4, s5, s6, s7, s8, s9⟩ := hSw; go_simp; try with_reducible rfl)
      try simp only [Act.put, List.setIfInBounds_toArray, List.set_cons_zero, List.set_cons_succ, List.getElem_toArray, List.getElem_cons_zero, List.getElem_cons_succ]
      refine wpAnyH_take (i := 5) (v := ?vz59z) rfl (by kernel_rfl) (by kernel_rfl) (by kernel_rfl) (fun _ _ _ h => h) (Or.inl ⟨by rfl, ?hyz59z⟩) (by assumption) ?_
      case hyz59z => (intro w hSw; obtain ⟨s0, s1, s2, s3, s4, s5, s6, s7, s8, s9⟩ := hSw; go_simp; try with_reducible rfl)
      try simp only [Act.put, List.setIfInBounds_toArray, List.set_cons_zero, List.set_cons_succ, List.getElem_toArray, List.getElem_cons_zero, List.getElem_cons_succ]
      refine wpAnyH_take (i := 14) (v := ?vz60z) rfl (by kernel_rfl) (by kernel_rfl) (by kernel_rfl) (fun _ _ _ h => h) (Or.inl ⟨by rfl, ?hyz60z⟩) (by assumption) ?_
      case hyz60z => (intro w hSw; obtain ⟨s0, s1, s2, s3, s4, s5, s6, s7, s8, s9⟩ := hSw; go_simp; try with_reducible rfl)
      try simp only [Act.put, List.setIfInBounds_toArray, List.set_cons_zero, List.set_cons_succ, List.getElem_toArray, List.getElem_cons_zero, List.getElem_cons_succ]
      refine wpAnyH_take (i := 15) (v := ?vz61z) rfl (by kernel_rfl) (by kernel_rfl) (by kernel_rfl) (fun _ _ _ h => h) (Or.inl ⟨by rfl, ?hyz61z⟩) (by assumption) ?_
      case hyz61z => (intro w hSw; obtain ⟨s0, s1, s2, s3, s4, s5, s6, s7, s8, s9⟩ := hSw; go_simp; try with_reducible rfl)
      try simp only [Act.put, List.setIfInBounds_toArray, List.set_cons_zero, List.set_cons_succ, List.getElem_toArray, List.getElem_cons_zero, List.getElem_cons_succ]
      refine wpAnyH_take (i := 18) (v := ?vz62z) rfl (by kernel_rfl) (by kernel_rfl) (by kernel_rfl) (fun _ _ _ h => h) (Or.inl ⟨by rfl, ?hyz62z⟩) (by assumption) ?_
      case hyz62z => (intro w hSw; obtain ⟨s0, s1, s2, s3, s4, s5, s6, s7, s8, s9⟩ := hSw; go_simp; try with_reducible rfl)
      try simp only [Act.put, List.setIfInBounds_toArray, List.set_cons_zero, List.set_cons_succ, List.getElem_toArray, List.getElem_cons_zero, List.getElem_cons_succ]
      refine wpAnyH_take (i := 19) (v := ?vz63z) rfl (by kernel_rfl) (by kernel_rfl) (by kernel_rfl) (fun _ _ _ h => h) (Or.inl ⟨by rfl, ?hyz63z⟩) (by assumption) ?_
      case hyz63z => (intro w hSw; obtain ⟨s0, s1, s2, s3, s4, s5, s6, s7, s8, s9⟩ := hSw; go_simp; try with_reducible rfl)
      try simp only [Act.put, List.setIfInBounds_toArray, List.set_cons_zero, List.set_cons_succ, List.getElem_toArray, List.getElem_cons_zero, List.getElem_cons_succ]
      refine wpAnyH_take (i := 22) (v := ?vz64z) rfl (by kernel_rfl) (by kernel_rfl) (by kernel_rfl) (fun _ _ _ h => h) (Or.inl ⟨by rfl, ?hyz64z⟩) (by assumption) ?_
      case hyz64z => (intro w hSw; obtain ⟨s0, s1, s2, s3, s4, s5, s6, s7, s8, s9⟩ := hSw; go_simp; try with_reducible rfl)
      try simp only [Act.put, List.setIfInBounds_toArray, List.set_cons_zero, List.set_cons_succ, List.getElem_toArray, List.getElem_cons_zero, List.getElem_cons_succ]
      refine wpAnyH_take (i := 23) (v := ?vz65z) rfl (by kernel_rfl) (by kernel_rfl) (by kernel_rfl) (fun _ _ _ h => h) (Or.inl ⟨by rfl, ?hyz65z⟩) (by assumption) ?_
      case hyz65z => (intro w hSw; obtain ⟨s0, s1, s2, s3, s4, s5, s6, s7, s8, s9⟩ := hSw; go_simp; try with_reducible rfl)
      try simp only [Act.put, List.setIfInBounds_toArray, List.set_cons_zero, List.set_cons_succ, List.getElem_toArray, List.getElem_cons_zero, List.getElem_cons_succ]
      refine wpAnyH_take (i := 24) (v := ?vz66z) rfl (by kernel_rfl) (by kernel_rfl) (by kernel_rfl) (fun _ _ _ h => h) (Or.inl ⟨by rfl, ?hyz66z⟩) (by assumption) ?_
      case hyz66z => (intro w hSw; obtain ⟨s0, s1, s2, s3, s4, s5, s6, s7, s8, s9⟩ := hSw; go_simp; try with_reducible rfl)
      try simp only [Act.put, List.setIfInBounds_toArray, List.set_cons_zero, List.set_cons_succ, List.getElem_toArray, List.getElem_cons_zero, List.getElem_cons_succ]
      refine wpAnyH_take (i := 31) (v := ?vz67z) rfl (by kernel_rfl) (by kernel_rfl) (by kernel_rfl) (fun _ _ _ h => h) (Or.inl ⟨by rfl, ?hyz67z⟩) (by assumption) ?_
      case hyz67z => (intro w hSw; obtain ⟨s0, s1, s2, s3, s4, s5, s6, s7, s8, s9⟩ := hSw; go_simp; try with_reducible rfl)
      try simp only [Act.put, List.setIfInBounds_toArray, List.set_cons_zero, List.set_cons_succ, List.getElem_toArray, List.getElem_cons_zero, List.getElem_cons_succ]
      refine wpAnyH_take (i := 32) (v := ?vz68z) rfl (by kernel_rfl) (by kernel_rfl) (by kernel_rfl) (fun _ _ _ h => h) (Or.inl ⟨by rfl, ?hyz68z⟩) (by assumption) ?_
      case hyz68z => (intro w hSw; obtain ⟨s0, s1, s2, s3, s4, s5, s6, s7, s8, s9⟩ := hSw; go_simp; try with_reducible rfl)
      try simp only [Act.put, List.setIfInBounds_toArray, List.set_cons_zero, List.set_cons_succ, List.getElem_toArray, List.getElem_cons_zero, List.getElem_cons_succ]
      refine wpAnyH_take (i := 33) (v := ?vz69z) rfl (by kernel_rfl) (by kernel_rfl) (by kernel_rfl) (fun _ _ _ h => h) (Or.inl ⟨by rfl, ?hyz69z⟩) (by assumption) ?_
      case hyz69z => (intro w hSw; obtain ⟨s0, s1, s2, s3, s4, s5, s6, s7, s8, s9⟩ := hSw; go_simp; try with_reducible rfl)
      try simp only [Act.put, List.setIfInBounds_toArray, List.set_cons_zero, List.set_cons_succ, List.getElem_toArray, List.getElem_cons_zero, List.getElem_cons_succ]
      refine wpAnyH_take (i := 34) (v := ?vz70z) rfl (by kernel_rfl) (by kernel_rfl) (by kernel_rfl) (fun _ _ _ h => h) (Or.inl ⟨by rfl, ?hyz70z⟩) (by assumption) ?_
      case hyz70z => (intro w hSw; obtain ⟨s0, s1, s2, s3, s4, s5, s6, s7, s8, s9⟩ := hSw; go_simp; try with_reducible rfl)
      try simp only [Act.put, List.setIfInBounds_toArray, List.set_cons_zero, List.set_cons_succ, List.getElem_toArray, List.getElem_cons_zero, List.getElem_cons_succ]
      refine wpAnyH_take (i := 36) (v := ?vz71z) rfl (by kernel_rfl) (by kernel_rfl) (by kernel_rfl) (fun _ _ _ h => h) (Or.inl ⟨by rfl, ?hyz71z⟩) (by assumption) ?_
      case hyz71z => (intro w hSw; obtain ⟨s0, s1, s2, s3, s4, s5, s6, s7, s8, s9⟩ := hSw; go_simp; try with_reducible rfl)
      try simp only [Act.put, List.setIfInBounds_toArray, List.set_cons_zero, List.set_cons_succ, List.getElem_toArray, List.getElem_cons_zero, List.getElem_cons_succ]
      refine wpAnyH_ready (rs := [6]) (by kernel_rfl) (by simp) ?_
      refine AllReadyH.cons rfl (fun K hK => ?_) AllReadyH.nil
      go_simp
      refine (pName_str rl _ HR.out HN.out).mono ?_
      rintro e w2 ⟨rfl, rfl⟩
      refine hK.out _ _ ?_ (fun hHeld => ?_)
      · exact hHeld
      clear hK K
      try simp only [Act.put, List.setIfInBounds_toArray, List.set_cons_zero, List.set_cons_succ, List.getElem_toArray, List.getElem_cons_zero, List.getElem_cons_succ]
      refine wpAnyH_take (i := 7) (v := ?vz72z) rfl (by kernel_rfl) (by kernel_rfl) (by kernel_rfl) (fun _ _ _ h => h) (Or.inl ⟨by rfl, ?hyz72z⟩) (by assumption) ?_
      case hyz72z => (intro w hSw; obtain ⟨s0, s1, s2, s3, s4, s5, s6, s7, s8, s9⟩ := hSw; go_simp; try with_reducible rfl)
      try simp only [Act.put, List.setIfInBounds_toArray, List.set_cons_zero, List.set_cons_succ, List.getElem_toArray, List.getElem_cons_zero, List.getElem_cons_succ]
      refine wpAnyH_take (i := 8) (v := ?vz73z) rfl (by kernel_rfl) (by kernel_rfl) (by kernel_rfl) (fun _ _ _ h => h) (Or.inl ⟨by rfl, ?hyz73z⟩) (by assumption) ?_
      case hyz73z => (intro w hSw; obtain ⟨s0, s1, s2, s3, s4, s5, s6, s7, s8, s9⟩ := hSw; go_simp; try with_reducible rfl)
      try simp only [Act.put, List.setIfInBounds_toArray, List.set_cons_zero, List.set_cons_succ, List.getElem_toArray, List.getElem_cons_zero, List.getElem_cons_succ]
      refine wpAnyH_take (i := 9) (v := undef) rfl (by kernel_rfl) (by kernel_rfl) (by kernel_rfl) (fun _ _ _ h => h) (Or.inr ⟨by rfl, rfl⟩) (by assumption) ?_
      try simp only [Act.put, List.setIfInBounds_toArray, List.set_cons_zero, List.set_cons_succ, List.getElem_toArray, List.getElem_cons_zero, List.getElem_cons_succ]
      refine wpAnyH_take (i := 10) (v := undef) rfl (by kernel_rfl) (by kernel_rfl) (by kernel_rfl) (fun _ _ _ h => h) (Or.inr ⟨by rfl, rfl⟩) (by assumption) ?_
      try simp only [Act.put, List.setIfInBounds_toArray, List.set_cons_zero, List.set_cons_succ, List.getElem_toArray, List.getElem_cons_zero, List.getElem_cons_succ]
      refine wpAnyH_take (i := 11) (v := undef) rfl (by kernel_rfl) (by kernel_rfl) (by kernel_rfl) (fun _ _ _ h => h) (Or.inr ⟨by rfl, rfl⟩) (by assumption) ?_
      try simp only [Act.put, List.setIfInBounds_toArray, List.set_cons_zero, List.set_cons_succ, List.getElem_toArray, List.getElem_cons_zero, List.getElem_cons_succ]
      refine wpAnyH_take (i := 12) (v := ?vz74z) rfl (by kernel_rfl) (by kernel_rfl) (by kernel_rfl) (fun _ _ _ h => h) (Or.inl ⟨by rfl, ?hyz74z⟩) (by assumption) ?_
      case hyz74z => (intro w hSw; obtain ⟨s0, s1, s2, s3, s4, s5, s6, s7, s8, s9⟩ := hSw; go_simp; try with_reducible rfl)
      try simp only [Act.put, List.setIfInBounds_toArray, List.set_cons_zero, List.set_cons_succ, List.getElem_toArray, List.getElem_cons_zero, List.getElem_cons_succ]
      refine wpAnyH_ready (rs := [13]) (by kernel_rfl) (by simp) ?_
      refine AllReadyH.cons rfl (fun K hK => ?_) AllReadyH.nil
      go_simp
      refine (unless_any _ _ _).mono ?_
      rintro e w2 ⟨rfl, rfl⟩
      refine hK.out _ _ ?_ (fun hHeld => ?_)
      · exact hHeld
      clear hK K
      try simp only [Act.put, List.setIfInBounds_toArray, List.set_cons_zero, List.set_cons_succ, List.getElem_toArray, List.getElem_cons_zero, List.getElem_cons_succ]
      refine wpAnyH_ready (rs := [16]) (by kernel_rfl) (by simp) ?_
      refine AllReadyH.cons rfl (fun K hK => ?_) AllReadyH.nil
      go_simp
      refine (within_is sh (-64800) 64800 _ HA1.out).mono ?_
      rintro e w2 ⟨rfl, rfl⟩
      refine hK.out _ _ ?_ (fun hHeld => ?_)
      · exact hHeld
      clear hK K
      try simp only [Act.put, List.setIfInBounds_toArray, List.set_cons_zero, List.set_cons_succ, List.getElem_toArray, List.getElem_cons_zero, List.getElem_cons_succ]
      refine wpAnyH_ready (rs := [17]) (by kernel_rfl) (by simp) ?_
      refine AllReadyH.cons rfl (fun K hK => ?_) AllReadyH.nil
      go_simp
      refine (unless_any _ _ _).mono ?_
      rintro e w2 ⟨rfl, rfl⟩
      refine hK.out _ _ ?_ (fun hHeld => ?_)
      · exact hHeld
      clear hK K
      try simp only [Act.put, List.setIfInBounds_toArray, List.set_cons_zero, List.set_cons_succ, List.getElem_toArray, List.getElem_cons_zero, List.getElem_cons_succ]
      refine wpAnyH_ready (rs := [20]) (by kernel_rfl) (by simp) ?_
      refine AllReadyH.cons rfl (fun K hK => ?_) AllReadyH.nil
      go_simp
      refine (within_is sv 0 10800 _ HA2.out).mono ?_
      rintro e w2 ⟨rfl, rfl⟩
      refine hK.out _ _ ?_ (fun hHeld => ?_)
      · exact hHeld
      clear hK K
      try simp only [Act.put, List.setIfInBounds_toArray, List.set_cons_zero, List.set_cons_succ, List.getElem_toArray, List.getElem_cons_zero, List.getElem_cons_succ]
      refine wpAnyH_ready (rs := [21]) (by kernel_rfl) (by simp) ?_
      refine AllReadyH.cons rfl (fun K hK => ?_) AllReadyH.nil
      go_simp
      refine (unless_any _ _ _).mono ?_
      rintro e w2 ⟨rfl, rfl⟩
      refine hK.out _ _ ?_ (fun hHeld => ?_)
      · exact hHeld
      clear hK K
      try simp only [Act.put, List.setIfInBounds_toArray, List.set_cons_zero, List.set_cons_succ, List.getElem_toArray, List.getElem_cons_zero, List.getElem_cons_succ]
      refine wpAnyH_take (i := 25) (v := ?vz75z) rfl (by kernel_rfl) (by kernel_rfl) (by kernel_rfl) (fun _ _ _ h => h) (Or.inl ⟨by rfl, ?hyz75z⟩) (by assumption) ?_
      case hyz75z => (intro w hSw; obtain ⟨s0, s1, s2, s3, s4, s5, s6, s7, s8, s9⟩ := hSw; go_simp; try with_reducible rfl)
      try simp only [Act.put, List.setIfInBounds_toArray, List.set_cons_zero, List.set_cons_succ, List.getElem_toArray, List.getElem_cons_zero, List.getElem_cons_succ]
      refine wpAnyH_take (i := 26) (v := ?vz76z) rfl (by kernel_rfl) (by kernel_rfl) (by kernel_rfl) (fun _ _ _ h => h) (Or.inl ⟨by rfl, ?hyz76z⟩) (by assumption) ?_
      case hyz76z => (intro w hSw; obtain ⟨s0, s1, s2, s3, s4, s5, s6, s7, s8, s9⟩ := hSw; go_simp; try with_reducible rfl)
      try simp only [Act.put, List.setIfInBounds_toArray, List.set_cons_zero, List.set_cons_succ, List.getElem_toArray, List.getElem_cons_zero, List.getElem_cons_succ]
      refine wpAnyH_take (i := 27) (v := ?vz77z) rfl (by kernel_rfl) (by kernel_rfl) (by kernel_rfl) (fun _ _ _ h => h) (Or.inl ⟨by rfl, ?hyz77z⟩) (by assumption) ?_
      case hyz77z => (intro w hSw; obtain ⟨s0, s1, s2, s3, s4, s5, s6, s7, s8, s9⟩ := hSw; go_simp; try with_reducible rfl)
      try simp only [Act.put, List.setIfInBounds_toArray, List.set_cons_zero, List.set_cons_succ, List.getElem_toArray, List.getElem_cons_zero, List.getElem_cons_succ]
      refine wpAnyH_take (i := 28) (v := ?vz78z) rfl (by kernel_rfl) (by kernel_rfl) (by kernel_rfl) (fun _ _ _ h => h) (Or.inl ⟨by rfl, ?hyz78z⟩) (by assumption) ?_
      case hyz78z => (intro w hSw; obtain ⟨s0, s1, s2, s3, s4, s5, s6, s7, s8, s9⟩ := hSw; go_simp; try with_reducible rfl)
      try simp only [Act.put, List.setIfInBounds_toArray, List.set_cons_zero, List.set_cons_succ, List.getElem_toArray, List.getElem_cons_zero, List.getElem_cons_succ]
      refine wpAnyH_take (i := 29) (v := ?vz79z) rfl (by kernel_rfl) (by kernel_rfl) (by kernel_rfl) (fun _ _ _ h => h) (Or.inl ⟨by rfl, ?hyz79z⟩) (by assumption) ?_
      case hyz79z => (intro w hSw; obtain ⟨s0, s1, s2, s3, s4, s5, s6, s7, s8, s9⟩ := hSw; go_simp; try with_reducible rfl)
      try simp only [Act.put, List.setIfInBounds_toArray, List.set_cons_zero, List.set_cons_succ, List.getElem_toArray, List.getElem_cons_zero, List.getElem_cons_succ]
      refine wpAnyH_ready (rs := [30]) (by kernel_rfl) (by simp) ?_
      refine AllReadyH.cons rfl (fun K hK => ?_) AllReadyH.nil
      go_simp
      refine (unless_any _ _ _).mono ?_
      rintro e w2 ⟨rfl, rfl⟩
      refine hK.out _ _ ?_ (fun hHeld => ?_)
      · exact hHeld
      clear hK K
      try simp only [Act.put, List.setIfInBounds_toArray, List.set_cons_zero, List.set_cons_succ, List.getElem_toArray, List.getElem_cons_zero, List.getElem_cons_succ]
      refine wpAnyH_ready (rs := [35]) (by kernel_rfl) (by simp) ?_
      refine AllReadyH.cons rfl (fun K hK => ?_) AllReadyH.nil
      go_simp
      refine (unless_any _ _ _).mono ?_
      rintro e w2 ⟨rfl, rfl⟩
      refine hK.out _ _ ?_ (fun hHeld => ?_)
      · exact hHeld
      clear hK K
      try simp only [Act.put, List.setIfInBounds_toArray, List.set_cons_zero, List.set_cons_succ, List.getElem_toArray, List.getElem_cons_zero, List.getElem_cons_succ]
      refine wpAnyH_ready (rs := [37]) (by kernel_rfl) (by simp) ?_
      refine AllReadyH.cons rfl (fun K hK => ?_) AllReadyH.nil
      go_simp
      refine (pCheckEnd_any ⟨sh, rl, sv, fm, op, uy, um, ud, ua, uc⟩ _).mono ?_
      rintro e w3 ⟨rfl, hb3⟩
      rw [HE.out]
      have S3 : EraH B ⟨sh, rl, sv, fm, op, uy, um, ud, ua, uc⟩ w3 := eraH_below hHeld hb3 SD
      have BB : Hid (Below V.heap.size V w3) := by first | exact below_drewn hb3 | exact below_drew1 hb3
      have S4 : B < w3.heap.size := Nat.lt_of_lt_of_le SD hb3.size
      have CN := hid (ca_new w3 ([uE false 1, uE A1 3, uE A2 3, uE (sv == 0) 1, uE (op == last) 4, E].map (Value.int .i64)) 28)
      clear hb3
      refine hK.out _ _ ?_ (fun hHeld => ?_)
      · exact S3
      clear hK K
      try simp only [Act.put, List.setIfInBounds_toArray, List.set_cons_zero, List.set_cons_succ, List.getElem_toArray, List.getElem_cons_zero, List.getElem_cons_succ]
      refine wpAnyH_ready (rs := [38]) (by kernel_rfl) (by simp) ?_
      refine AllReadyH.cons rfl (fun K hK => ?_) AllReadyH.nil
      go_simp
      refine hK.out _ _ ?_ (fun hHeld => ?_)
      · exact eraH_below S3 ((Below.refl _ _).alloc (Nat.le_refl _) _) S4
      clear hK K
      try simp only [Act.put, List.setIfInBounds_toArray, List.set_cons_zero, List.set_cons_succ, List.getElem_toArray, List.getElem_cons_zero, List.getElem_cons_succ]
      refine wpAnyH_ready (rs := [39]) (by kernel_rfl) (by simp) ?_
      refine AllReadyH.cons rfl (fun K hK => ?_) AllReadyH.nil
      go_simp
      refine (or_any [uE false 1, uE A1 3, uE A2 3, uE (sv == 0) 1, uE (op == last) 4, E] w3.heap.size 6 _ CN.out (by simp)).mono ?_
      rintro e w2 ⟨rfl, rfl⟩
      refine hK.out _ _ ?_ (fun hHeld => ?_)
      · exact hHeld
      clear hK K
      try simp only [Act.put, List.setIfInBounds_toArray, List.set_cons_zero, List.set_cons_succ, List.getElem_toArray, List.getElem_cons_zero, List.getElem_cons_succ]
      refine wpAnyH_take (i := 40) (v := ?vz80z) rfl (by kernel_rfl) (by kernel_rfl) (by kernel_rfl) (fun _ _ _ h => h) (Or.inl ⟨by rfl, ?hyz80z⟩) (by assumption) ?_
      case hyz80z => (intro w hSw; obtain ⟨s0, s1, s2, s3, s4, s5, s6, s7, s8, s9⟩ := hSw; go_simp; try with_reducible rfl)
      try simp only [Act.put, List.setIfInBounds_toArray, List.set_cons_zero, List.set_cons_succ, List.getElem_toArray, List.getElem_cons_zero, List.getElem_cons_succ]
      refine wpAnyH_done (by kernel_rfl) ?_ _
      have BF : Below w.heap.size w (w3.alloc (.cells ([uE false 1, uE A1 3, uE A2 3, uE (sv == 0) 1, uE (op == last) 4, E].map (Value.int .i64)).toArray 28)) := BV.out.trans ((BB.out.alloc BB.out.size _).mono BV.out.size)
      go_wp2
      go_ret
      exact ⟨ret_int (by simp [hr, HN.out]), BF⟩
end Go.Proofs.YtkhlkohlccndgaaGreat
namespace Go.Proofs.YtkhlkohlccndgaaGreat
open Go.RowKit
set_option linter.unusedVariables false
set_option linter.unusedSimpArgs false
attribute [local go_sem ↓] Go.wp_at_zero Go.wp_at_succ

theorem rd_take {α : Type} {z : Nat} {cells : α → List Value} {w : World} {a : Option Addr} {n cap k : Nat} {xs : List α} (h : Rd z cells w (.slice a n cap) xs) (hk : k ≤ xs.length) (c : Nat) : Rd z cells w (.slice a k c) (xs.take k) := by
  obtain ⟨a', cap', h1, h2⟩ := h
  simp at h1
  obtain ⟨rfl, _, _⟩ := h1
  have hl : (xs.take k).length = k := by simp; omega
  refine ⟨a, c, by rw [hl], fun hn => ?_⟩
  have hx : xs ≠ [] := by rintro rfl; simp at hn
  obtain ⟨b, o, e, hb, hc⟩ := h2 hx
  refine ⟨b, o, e, hb, fun i x hi q u hu => hc i x ?_ q u hu⟩
  have := (List.getElem?_eq_some_iff.1 hi).1
  rw [List.getElem?_take_of_lt (by omega)] at hi
  exact hi
theorem erasE_split : ∀ (l : List Sx.Er) (x : Sx.Er), Sx.erasE (l ++ [x]) = Sx.firstE id [Sx.firstE (fun e => Sx.eraE e false) l, Sx.eraE x true]
  | [], x => by simp [Sx.erasE, Sx.firstE]
  | y :: r, x => by
    have ih := erasE_split r x
    have e : Sx.erasE (y :: r ++ [x]) = if Sx.eraE y false ≠ 0 then Sx.eraE y false else Sx.erasE (r ++ [x]) := by
      cases r <;> rfl
    rw [e, ih]
    simp only [Sx.firstE, id]
    by_cases q : Sx.eraE y false = 0 <;> simp [q]
set_option maxHeartbeats 1000000 in
theorem checkZone1_any (x : Sx.Er) (m : Int) (w : World) (hr : x.rules.length ≤ maxLen) (hf : x.format.length ≤ maxLen) (hm : w.cell? ⟨0, 0, none⟩ = some (.int .i64 m)) (h0 : 0 < w.heap.size) :
    Calls Tryz.prog 155 #[eraV x] w fun e w' => e = .returned (.int .i64 (Sx.eraE x false)) ∧ Below w.heap.size w w' := by
  have BV := hid ((Below.refl w.heap.size w).alloc (Nat.le_refl _) (.cells (eraCells x).toArray 67))
  have XV := hid (ca_new w (eraCells x) 67)
  have C := hid (pCheckEra_any x false m (w.alloc (.cells (eraCells x).toArray 67)) hr hf ((BV.out.cell (p := ⟨0, 0, none⟩) h0).trans hm) (Nat.lt_of_lt_of_le h0 BV.out.size))
  obtain ⟨x0, _⟩ := ca_at XV.out 0 rfl
  obtain ⟨x1, _⟩ := ca_at XV.out 1 rfl
  obtain ⟨x2, _⟩ := ca_at XV.out 2 rfl
  obtain ⟨x3, _⟩ := ca_at XV.out 3 rfl
  obtain ⟨x4, _⟩ := ca_at XV.out 4 rfl
  obtain ⟨x5, _⟩ := ca_at XV.out 5 rfl
  obtain ⟨x6, _⟩ := ca_at XV.out 6 rfl
  obtain ⟨x7, _⟩ := ca_at XV.out 7 rfl
  obtain ⟨x8, _⟩ := ca_at XV.out 8 rfl
  obtain ⟨x9, _⟩ := ca_at XV.out 9 rfl
  clear hr hf hm h0 x0 x1 x2 x3 x4 x5 x6 x7 x8 x9
  go_enter Tryz.func155, Tryz.ntmps155
  go_wp2_with fail
  refine C.out.mono ?_
  rintro e w1 ⟨rfl, hb⟩
  go_wp2
  go_ret
  exact ⟨rfl, BV.out.trans (hb.mono BV.out.size)⟩
set_option maxRecDepth 100000 in
set_option maxHeartbeats 2000000 in
theorem firstEra_any (xs : List Sx.Er) (rv : Value) (m : Int) (w : World) (h : RdEras w rv xs) (hs : ∀ x ∈ xs, x.rules.length ≤ maxLen ∧ x.format.length ≤ maxLen) (hl : xs.length ≤ 1000) (hm : w.cell? ⟨0, 0, none⟩ = some (.int .i64 m)) (h0 : 0 < w.heap.size) :
    Calls Tryz.prog 154 #[rv, .func (.func 155) #[] #[]] w fun e w' => e = .returned (.int .i64 (Sx.firstE (fun e => Sx.eraE e false) xs)) ∧ Below w.heap.size w w' := by
  obtain ⟨R, hR⟩ : ∃ R, Sx.firstE (fun e => Sx.eraE e false) xs = R := ⟨_, rfl⟩
  rw [hR]
  have HR : Hid (R = Sx.firstE (fun e => Sx.eraE e false) (xs.drop 0)) := hR.symm
  obtain ⟨ra, rcap, rfl⟩ := rd_shape h
  have H := hid h
  have HS := hid hs
  have HM := hid hm
  have H0 := hid h0
  clear hR h hs hm h0
  have eg : ∀ args w, (callFunc 155 args).run Tryz.prog w = .ok (.enter 155 args) w := enters_of Tryz.func155 (by kernel_rfl) rfl
  go_enter Tryz.func154, Tryz.ntmps154
  go_wp2_with fail
  go_loopw [10] (fun a wr => ∃ k : Nat, k ≤ xs.length ∧ a = .int .i64 k ∧ Hid (Below w.heap.size w wr) ∧ Hid (R = Sx.firstE (fun e => Sx.eraE e false) (xs.drop k))) (fun a _ => xs.length - (intOf a).toNat)
  case atStart => exact ⟨0, by omega, rfl, Below.refl _ _, HR⟩
  case round =>
    clear HR
    obtain ⟨k, hk, rfl, B0, HR⟩ := hrel
    by_cases hlt : k < xs.length
    case neg =>
      have HR2 : Hid (R = 0) := by show _ = _; rw [HR.out]; exact Sx.firstE_end _ hlt
      go_wp2
      go_ret
      exact ⟨ret_int (by rw [HR2.out]), B0.out⟩
    obtain ⟨x, hx⟩ : ∃ x, xs[k]? = some x := ⟨_, List.getElem?_eq_getElem hlt⟩
    obtain ⟨rb, ro, rfl, hrb, hc⟩ := rd_elem (rd_below H.out B0.out) hx
    obtain ⟨c0, c1, c2, c3, c4, c5, c6, c7, c8, c9⟩ := rd_era hc
    have HX := hid hx
    have SX := hid (HS.out x (List.mem_of_getElem? hx))
    have HM2 : Hid (wr.cell? ⟨0, 0, none⟩ = some (.int .i64 m)) := (B0.out.cell (p := ⟨0, 0, none⟩) H0.out).trans HM.out
    have H02 : Hid (0 < wr.heap.size) := Nat.lt_of_lt_of_le H0.out B0.out.size
    clear hx hc
    have BW := hid ((Below.refl wr.heap.size wr).alloc (Nat.le_refl _) (.cells #[.int .i64 x.shift, strV x.rules, .int .i64 x.save, strV x.format, .bool x.opn, .int .i64 x.uy, .int .i64 x.um, .int .i64 x.ud, .int .i64 x.uat, .int .i64 x.uclock] 67))
    have BV := hid (B0.out.alloc B0.out.size (.cells #[.int .i64 x.shift, strV x.rules, .int .i64 x.save, strV x.format, .bool x.opn, .int .i64 x.uy, .int .i64 x.um, .int .i64 x.ud, .int .i64 x.uat, .int .i64 x.uclock] 67))
    have HM3 : Hid ((wr.alloc (.cells #[.int .i64 x.shift, strV x.rules, .int .i64 x.save, strV x.format, .bool x.opn, .int .i64 x.uy, .int .i64 x.um, .int .i64 x.ud, .int .i64 x.uat, .int .i64 x.uclock] 67)).cell? ⟨0, 0, none⟩ = some (.int .i64 m)) := (BW.out.cell (p := ⟨0, 0, none⟩) H02.out).trans HM2.out
    have H03 : Hid (0 < (wr.alloc (.cells #[.int .i64 x.shift, strV x.rules, .int .i64 x.save, strV x.format, .bool x.opn, .int .i64 x.uy, .int .i64 x.um, .int .i64 x.ud, .int .i64 x.uat, .int .i64 x.uclock] 67)).heap.size) := Nat.lt_of_lt_of_le H02.out BW.out.size
    go_wp2_with fail
    refine (checkZone1_any x m _ SX.out.1 SX.out.2 HM3.out H03.out).mono ?_
    rintro e w1 ⟨rfl, hb⟩
    have B1 : Hid (Below w.heap.size w w1) := BV.out.trans (hb.mono BV.out.size)
    clear hb B0 BV BW HM2 HM3 H02 H03 c0 c1 c2 c3 c4 c5 c6 c7 c8 c9 hrb
    obtain ⟨E, hE⟩ : ∃ E, (fun e => Sx.eraE e false) x = E := ⟨_, rfl⟩
    try simp only [] at hE
    rw [hE]
    by_cases h0 : E = 0
    case neg =>
      have HR2 : Hid (R = E) := by show _ = _; rw [← hE]; exact Sx.firstE_at (fun e => Sx.eraE e false) HX.out HR.out (by rw [hE]; exact h0)
      have h0' : (E != 0) = true := by simp [h0]
      clear hE
      go_wp2
      go_ret
      exact ⟨ret_int (by rw [HR2.out]), B1.out⟩
    have HR2 : Hid (R = Sx.firstE (fun e => Sx.eraE e false) (xs.drop (k + 1))) := Sx.firstE_next (fun e => Sx.eraE e false) HX.out HR.out (by rw [hE]; exact h0)
    clear hE HR
    subst h0
    go_wp2
    go_roundw
    case rel => exact ⟨k + 1, by omega, by go_num, B1, HR2⟩
    case measure => simp [intOf]; omega
theorem zoneE_or (z : Sx.Zn) (l : List Sx.Er) (x : Sx.Er) (h : z.eras = l ++ [x]) (hn : Sx.nameB z.name = true) : Sx.zoneE z = Sx.firstE id [Sx.firstE (fun e => Sx.eraE e false) l, Sx.eraE x true] := by
  unfold Sx.zoneE
  rw [hn, h, erasE_split]
  simp
/- slices that do not outgrow their room -/
def CapE (ev : Value) (n : Nat) : Prop := ∃ a c, ev = .slice a n c ∧ n ≤ c
def CapZs (w : World) (v : Value) (zs : List Sx.Zn) : Prop := ∀ (i : Nat) (x : Sx.Zn) (b o cap : Nat), zs[i]? = some x → v = .slice (some ⟨b, o, none⟩) zs.length cap → ∀ ev, w.cell? ⟨b, o + i * 2 + 1, none⟩ = some ev → CapE ev x.eras.length
theorem capZs_below {w w' : World} {v : Value} {zs : List Sx.Zn} (h : CapZs w v zs) (hr : RdZones w v zs) (hb : Below w.heap.size w w') : CapZs w' v zs := by
  intro i x b o cap hx hv ev he
  subst hv
  obtain ⟨b', o', ea, ecap, e, hlt, _⟩ := rd_zone_at hr hx
  simp only [Option.some.injEq, Addr.mk.injEq] at e
  obtain ⟨rfl, rfl, _⟩ := e
  exact h i x b o cap hx rfl ev ((hb.cell (p := ⟨b, o + i * 2 + 1, none⟩) hlt).symm.trans he)
theorem capZs_nil {w : World} {v : Value} : CapZs w v [] := by intro i x b o cap hx; simp at hx
structure ZnH (B eb off : Nat) (nm : Tx.Bs) (sl : Value) (x : Sx.Er) (w : World) : Prop where
  c0 : w.cell? ⟨B, 0, none⟩ = some (strV nm)
  c1 : w.cell? ⟨B, 1, none⟩ = some sl
  e0 : w.cell? ⟨eb, off, none⟩ = some (.int .i64 x.shift)
  e1 : w.cell? ⟨eb, off + 1, none⟩ = some (strV x.rules)
  e2 : w.cell? ⟨eb, off + 2, none⟩ = some (.int .i64 x.save)
  e3 : w.cell? ⟨eb, off + 3, none⟩ = some (strV x.format)
  e4 : w.cell? ⟨eb, off + 4, none⟩ = some (.bool x.opn)
  e5 : w.cell? ⟨eb, off + 5, none⟩ = some (.int .i64 x.uy)
  e6 : w.cell? ⟨eb, off + 6, none⟩ = some (.int .i64 x.um)
  e7 : w.cell? ⟨eb, off + 7, none⟩ = some (.int .i64 x.ud)
  e8 : w.cell? ⟨eb, off + 8, none⟩ = some (.int .i64 x.uat)
  e9 : w.cell? ⟨eb, off + 9, none⟩ = some (.int .i64 x.uclock)
theorem znH_below {B eb off : Nat} {nm : Tx.Bs} {sl : Value} {x : Sx.Er} {w w' : World} (h : ZnH B eb off nm sl x w) (hb : Below w.heap.size w w') (hB : B < w.heap.size) (he : eb < w.heap.size) : ZnH B eb off nm sl x w' := by
  have e := fun k => hb.cell (p := ⟨B, k, none⟩) hB
  have f := fun k => hb.cell (p := ⟨eb, k, none⟩) he
  exact ⟨(e 0).trans h.c0, (e 1).trans h.c1, (f _).trans h.e0, (f _).trans h.e1, (f _).trans h.e2, (f _).trans h.e3, (f _).trans h.e4, (f _).trans h.e5, (f _).trans h.e6, (f _).trans h.e7, (f _).trans h.e8, (f _).trans h.e9⟩
set_option maxRecDepth 100000 in
set_option maxHeartbeats 3000000 in
theorem pCheckZone_any (z : Sx.Zn) (ev : Value) (m : Int) (w : World) (h : RdEras w ev z.eras) (hcp : CapE ev z.eras.length) (hs : z.name.length ≤ maxLen ∧ ∀ x ∈ z.eras, x.rules.length ≤ maxLen ∧ x.format.length ≤ maxLen) (hl : z.eras.length ≤ 1000) (hm : w.cell? ⟨0, 0, none⟩ = some (.int .i64 m)) (h0 : 0 < w.heap.size) :
    Calls Tryz.prog 93 #[.agg #[strV z.name, ev]] w fun e w' => e = .returned (.int .i64 (Sx.zoneE z)) ∧ Below w.heap.size w w' := by
  obtain ⟨a, cap, rfl, hcp⟩ := hcp
  have BV := hid ((Below.refl w.heap.size w).alloc (Nat.le_refl _) (.cells [strV z.name, .slice a z.eras.length cap].toArray 44))
  have XV := hid (ca_new w [strV z.name, .slice a z.eras.length cap] 44)
  have HM : Hid ((w.alloc (.cells [strV z.name, .slice a z.eras.length cap].toArray 44)).cell? ⟨0, 0, none⟩ = some (.int .i64 m)) := (BV.out.cell (p := ⟨0, 0, none⟩) h0).trans hm
  have H0 : Hid (0 < (w.alloc (.cells [strV z.name, .slice a z.eras.length cap].toArray 44)).heap.size) := Nat.lt_of_lt_of_le h0 BV.out.size
  have HR := hid (rd_below h BV.out)
  obtain ⟨x0, _⟩ := ca_at XV.out 0 rfl
  obtain ⟨x1, _⟩ := ca_at XV.out 1 rfl
  have sx := XV.out.1
  have HS := hid hs
  have NM := hid hs.1
  have HL := hid hl
  clear hm h0 h hs hl
  obtain ⟨N, hN⟩ : ∃ N, Sx.nameB z.name = N := ⟨_, rfl⟩
  have HN := hid hN
  cases N
  case false =>
    have HE : Hid (Sx.zoneE z = 1) := by show _ = _; unfold Sx.zoneE; rw [hN]; rfl
    clear hN
    go_enter Tryz.func93, Tryz.ntmps93
    go_wp2_with (go_at_call 151; refine (pName_str z.name _ HS.out.1 HN.out).mono ?_; rintro e w1 ⟨rfl, rfl⟩)
    go_ret
    exact ⟨ret_int HE.out.symm, BV.out⟩
  rcases List.eq_nil_or_concat z.eras with he | ⟨l, x, he⟩
  · have HE : Hid (Sx.zoneE z = 1) := by show _ = _; unfold Sx.zoneE; rw [hN, he]; rfl
    have hz : z.eras.length = 0 := by rw [he]; rfl
    rw [hz] at x1 ⊢
    rw [hz] at BV
    clear hN XV HR HM H0
    go_enter Tryz.func93, Tryz.ntmps93
    go_wp2_with (go_at_call 151; refine (pName_str z.name _ HS.out.1 HN.out).mono ?_; rintro e w1 ⟨rfl, rfl⟩)
    go_ret
    exact ⟨ret_int HE.out.symm, BV.out⟩
  rw [List.concat_eq_append] at he
  have HE : Hid (Sx.zoneE z = Sx.firstE id [Sx.firstE (fun e => Sx.eraE e false) l, Sx.eraE x true]) := zoneE_or z l x he hN
  have hz : z.eras.length = l.length + 1 := by rw [he]; simp
  have htk : z.eras.take l.length = l := by rw [he]; simp
  have hgt : z.eras[l.length]? = some x := by rw [he]; simp
  have H1 := hid (HS.out.2 x (by rw [he]; simp))
  have H2 : Hid (∀ y ∈ l, y.rules.length ≤ maxLen ∧ y.format.length ≤ maxLen) := fun y hy => HS.out.2 y (by rw [he]; simp [hy])
  have hll : l.length + 1 ≤ 1000 := by have := HL.out; omega
  have hcc : l.length ≤ cap := by omega
  have hidx : (l.length : Int) < (l.length : Int) + 1 := by omega
  rw [hz] at x0 x1 HM HR BV H0 XV sx ⊢
  obtain ⟨eb, eo, rfl, heb, hc⟩ := rd_elem HR.out hgt
  obtain ⟨f0, f1, f2, f3, f4, f5, f6, f7, f8, f9⟩ := rd_era hc
  have HRT : Hid (∀ c, RdEras (w.alloc (.cells [strV z.name, .slice (some ⟨eb, eo, none⟩) (l.length + 1) cap].toArray 44)) (.slice (some ⟨eb, eo, none⟩) l.length c) l) := by
    intro c
    have := rd_take (k := l.length) HR.out (by omega) c
    rw [htk] at this
    exact this
  clear hN he hz htk hgt hc HL HS
  obtain ⟨V, hV⟩ : ∃ V, w.alloc (.cells [strV z.name, .slice (some ⟨eb, eo, none⟩) (l.length + 1) cap].toArray 44) = V := ⟨_, rfl⟩
  obtain ⟨B, hB⟩ : ∃ B, w.heap.size = B := ⟨_, rfl⟩
  have SS : Hid (ZnH B eb (eo + l.length * 10) z.name (.slice (some ⟨eb, eo, none⟩) (l.length + 1) cap) x V.drew) := by
    rw [← hB, ← hV]; exact ⟨x0, x1, f0, f1, f2, f3, f4, f5, f6, f7, f8, f9⟩
  have BVV : Hid (Below w.heap.size w V) := by rw [← hV]; exact BV.out
  have HMV : Hid (V.cell? ⟨0, 0, none⟩ = some (.int .i64 m)) := by rw [← hV]; exact HM.out
  have H0V : Hid (0 < V.heap.size) := by rw [← hV]; exact H0.out
  have HRV : Hid (∀ c, RdEras V (.slice (some ⟨eb, eo, none⟩) l.length c) l) := by rw [← hV]; exact HRT.out
  have SB : Hid (B < V.heap.size ∧ eb < V.heap.size) := by rw [← hB, ← hV]; exact ⟨sx, heb⟩
  rw [hV] at x0 x1 sx
  rw [hB] at x0 x1 sx
  clear f0 f1 f2 f3 f4 f5 f6 f7 f8 f9 heb BV HM H0 HR HRT XV
  go_enter Tryz.func93, Tryz.ntmps93
  go_upto_region 4 with (go_at_call 151; refine (pName_str z.name _ NM.out HN.out).mono ?_; rintro e w1 ⟨rfl, rfl⟩)
  have SD : ZnH B eb (eo + l.length * 10) z.name (.slice (some ⟨eb, eo, none⟩) (l.length + 1) cap) x w1.drew := SS.out
  have HRD : Hid (∀ c, RdEras w1.drew (.slice (some ⟨eb, eo, none⟩) l.length c) l) := fun c => rd_below (HRV.out c) ⟨rfl, rfl, rfl, Nat.le_refl _, fun _ _ => rfl⟩
  refine wp_region_held_drew (S := fun w' => ZnH B eb (eo + l.length * 10) z.name (.slice (some ⟨eb, eo, none⟩) (l.length + 1) cap) x w') (by kernel_rfl) SD (fun hHeld => ?_)
  refine wpAnyH_take (i := 0) (v := ?vz1z) rfl (by kernel_rfl) (by kernel_rfl) (by kernel_rfl) (fun _ _ _ h => h) (Or.inl ⟨by rfl, ?hyz1z⟩) (by assumption) ?_
  case hyz1z => (intro w hSw; obtain ⟨s0, s1, s2, s3, s4, s5, s6, s7, s8, s9, s10, s11⟩ := hSw; go_simp; try with_reducible rfl)
  try simp only [Act.put, List.setIfInBounds_toArray, List.set_cons_zero, List.set_cons_succ, List.getElem_toArray, List.getElem_cons_zero, List.getElem_cons_succ]
  refine wpAnyH_take (i := 1) (v := ?vz2z) rfl (by kernel_rfl) (by kernel_rfl) (by kernel_rfl) (fun _ _ _ h => h) (Or.inl ⟨by rfl, ?hyz2z⟩) (by assumption) ?_
  case hyz2z => (intro w hSw; obtain ⟨s0, s1, s2, s3, s4, s5, s6, s7, s8, s9, s10, s11⟩ := hSw; go_simp; try with_reducible rfl)
  try simp only [Act.put, List.setIfInBounds_toArray, List.set_cons_zero, List.set_cons_succ, List.getElem_toArray, List.getElem_cons_zero, List.getElem_cons_succ]
  refine wpAnyH_take (i := 2) (v := ?vz3z) rfl (by kernel_rfl) (by kernel_rfl) (by kernel_rfl) (fun _ _ _ h => h) (Or.inl ⟨by rfl, ?hyz3z⟩) (by assumption) ?_
  case hyz3z => (intro w hSw; obtain ⟨s0, s1, s2, s3, s4, s5, s6, s7, s8, s9, s10, s11⟩ := hSw; go_simp; try with_reducible rfl)
  try simp only [Act.put, List.setIfInBounds_toArray, List.set_cons_zero, List.set_cons_succ, List.getElem_toArray, List.getElem_cons_zero, List.getElem_cons_succ]
  refine wpAnyH_take (i := 3) (v := ?vz4z) rfl (by kernel_rfl) (by kernel_rfl) (by kernel_rfl) (fun _ _ _ h => h) (Or.inl ⟨by rfl, ?hyz4z⟩) (by assumption) ?_
  case hyz4z => (intro w hSw; obtain ⟨s0, s1, s2, s3, s4, s5, s6, s7, s8, s9, s10, s11⟩ := hSw; go_simp; try with_reducible rfl)
  try simp only [Act.put, List.setIfInBounds_toArray, List.set_cons_zero, List.set_cons_succ, List.getElem_toArray, List.getElem_cons_zero, List.getElem_cons_succ]
  refine wpAnyH_take (i := 5) (v := ?vz5z) rfl (by kernel_rfl) (by kernel_rfl) (by kernel_rfl) (fun _ _ _ h => h) (Or.inl ⟨by rfl, ?hyz5z⟩) (by assumption) ?_
  case hyz5z => (intro w hSw; obtain ⟨s0, s1, s2, s3, s4, s5, s6, s7, s8, s9, s10, s11⟩ := hSw; go_simp; try with_reducible rfl)
  try simp only [Act.put, List.setIfInBounds_toArray, List.set_cons_zero, List.set_cons_succ, List.getElem_toArray, List.getElem_cons_zero, List.getElem_cons_succ]
  refine wpAnyH_take (i := 6) (v := ?vz6z) rfl (by kernel_rfl) (by kernel_rfl) (by kernel_rfl) (fun _ _ _ h => h) (Or.inl ⟨by rfl, ?hyz6z⟩) (by assumption) ?_
  case hyz6z => (intro w hSw; obtain ⟨s0, s1, s2, s3, s4, s5, s6, s7, s8, s9, s10, s11⟩ := hSw; go_simp; try with_reducible rfl)
  try simp only [Act.put, List.setIfInBounds_toArray, List.set_cons_zero, List.set_cons_succ, List.getElem_toArray, List.getElem_cons_zero, List.getElem_cons_succ]
  refine wpAnyH_take (i := 7) (v := ?vz7z) rfl (by kernel_rfl) (by kernel_rfl) (by kernel_rfl) (fun _ _ _ h => h) (Or.inl ⟨by rfl, ?hyz7z⟩) (by assumption) ?_
  case hyz7z => (intro w hSw; obtain ⟨s0, s1, s2, s3, s4, s5, s6, s7, s8, s9, s10, s11⟩ := hSw; go_simp; try with_reducible rfl)
  try simp only [Act.put, List.setIfInBounds_toArray, List.set_cons_zero, List.set_cons_succ, List.getElem_toArray, List.getElem_cons_zero, List.getElem_cons_succ]
  refine wpAnyH_take (i := 8) (v := ?vz8z) rfl (by kernel_rfl) (by kernel_rfl) (by kernel_rfl) (fun _ _ _ h => h) (Or.inl ⟨by rfl, ?hyz8z⟩) (by assumption) ?_
  case hyz8z => (intro w hSw; obtain ⟨s0, s1, s2, s3, s4, s5, s6, s7, s8, s9, s10, s11⟩ := hSw; go_simp; try with_reducible rfl)
  try simp only [Act.put, List.setIfInBounds_toArray, List.set_cons_zero, List.set_cons_succ, List.getElem_toArray, List.getElem_cons_zero, List.getElem_cons_succ]
  refine wpAnyH_take (i := 9) (v := ?vz9z) rfl (by kernel_rfl) (by kernel_rfl) (by kernel_rfl) (fun _ _ _ h => h) (Or.inl ⟨by rfl, ?hyz9z⟩) (by assumption) ?_
  case hyz9z => (intro w hSw; obtain ⟨s0, s1, s2, s3, s4, s5, s6, s7, s8, s9, s10, s11⟩ := hSw; go_simp; try with_reducible rfl)
  try simp only [Act.put, List.setIfInBounds_toArray, List.set_cons_zero, List.set_cons_succ, List.getElem_toArray, List.getElem_cons_zero, List.getElem_cons_succ]
  refine wpAnyH_ready (rs := [4]) (by kernel_rfl) (by simp) ?_
  refine AllReadyH.cons rfl (fun K hK => ?_) AllReadyH.nil
  go_simp
  refine (firstEra_any l _ m _ (HRD.out _) H2.out (by omega) HMV.out H0V.out).mono ?_
  rintro e w3 ⟨rfl, hb3⟩
  have S3 : ZnH B eb (eo + l.length * 10) z.name (.slice (some ⟨eb, eo, none⟩) (l.length + 1) cap) x w3 := znH_below hHeld hb3 SB.out.1 SB.out.2
  have B3 : Hid (Below w1.heap.size w1 w3) := below_drew1 hb3
  have M3 : w3.cell? ⟨0, 0, none⟩ = some (.int .i64 m) := (B3.out.cell (p := ⟨0, 0, none⟩) H0V.out).trans HMV.out
  have Z3 : 0 < w3.heap.size := Nat.lt_of_lt_of_le H0V.out B3.out.size
  have L3 : B < w3.heap.size ∧ eb < w3.heap.size := ⟨Nat.lt_of_lt_of_le SB.out.1 B3.out.size, Nat.lt_of_lt_of_le SB.out.2 B3.out.size⟩
  clear hb3
  refine hK.out _ _ ?_ (fun hHeld => ?_)
  · exact S3
  clear hK K
  try simp only [Act.put, List.setIfInBounds_toArray, List.set_cons_zero, List.set_cons_succ, List.getElem_toArray, List.getElem_cons_zero, List.getElem_cons_succ]
  refine wpAnyH_ready (rs := [10]) (by kernel_rfl) (by simp) ?_
  refine AllReadyH.cons rfl (fun K hK => ?_) AllReadyH.nil
  go_simp
  refine (pCheckEra_any x true m _ H1.out.1 H1.out.2 M3 Z3).mono ?_
  rintro e w4 ⟨rfl, hb4⟩
  have S4 : ZnH B eb (eo + l.length * 10) z.name (.slice (some ⟨eb, eo, none⟩) (l.length + 1) cap) x w4 := znH_below S3 hb4 L3.1 L3.2
  have B4 : Hid (Below w1.heap.size w1 w4) := B3.out.trans (hb4.mono B3.out.size)
  have L4 : B < w4.heap.size ∧ eb < w4.heap.size := ⟨Nat.lt_of_lt_of_le L3.1 hb4.size, Nat.lt_of_lt_of_le L3.2 hb4.size⟩
  have CN := hid (ca_new w4 ([Sx.firstE (fun e => Sx.eraE e false) l, Sx.eraE x true].map (Value.int .i64)) 28)
  clear hb4
  refine hK.out _ _ ?_ (fun hHeld => ?_)
  · exact S4
  clear hK K
  try simp only [Act.put, List.setIfInBounds_toArray, List.set_cons_zero, List.set_cons_succ, List.getElem_toArray, List.getElem_cons_zero, List.getElem_cons_succ]
  refine wpAnyH_ready (rs := [11]) (by kernel_rfl) (by simp) ?_
  refine AllReadyH.cons rfl (fun K hK => ?_) AllReadyH.nil
  go_simp
  refine hK.out _ _ ?_ (fun hHeld => ?_)
  · exact znH_below S4 ((Below.refl _ _).alloc (Nat.le_refl _) _) L4.1 L4.2
  clear hK K
  try simp only [Act.put, List.setIfInBounds_toArray, List.set_cons_zero, List.set_cons_succ, List.getElem_toArray, List.getElem_cons_zero, List.getElem_cons_succ]
  refine wpAnyH_ready (rs := [12]) (by kernel_rfl) (by simp) ?_
  refine AllReadyH.cons rfl (fun K hK => ?_) AllReadyH.nil
  go_simp
  refine (or_any [Sx.firstE (fun e => Sx.eraE e false) l, Sx.eraE x true] w4.heap.size 2 _ CN.out (by simp)).mono ?_
  rintro e w2 ⟨rfl, rfl⟩
  refine hK.out _ _ ?_ (fun hHeld => ?_)
  · exact hHeld
  clear hK K
  try simp only [Act.put, List.setIfInBounds_toArray, List.set_cons_zero, List.set_cons_succ, List.getElem_toArray, List.getElem_cons_zero, List.getElem_cons_succ]
  refine wpAnyH_take (i := 13) (v := ?vz10z) rfl (by kernel_rfl) (by kernel_rfl) (by kernel_rfl) (fun _ _ _ h => h) (Or.inl ⟨by rfl, ?hyz10z⟩) (by assumption) ?_
  case hyz10z => (intro w hSw; obtain ⟨s0, s1, s2, s3, s4, s5, s6, s7, s8, s9, s10, s11⟩ := hSw; go_simp; try with_reducible rfl)
  try simp only [Act.put, List.setIfInBounds_toArray, List.set_cons_zero, List.set_cons_succ, List.getElem_toArray, List.getElem_cons_zero, List.getElem_cons_succ]
  refine wpAnyH_done (by kernel_rfl) ?_ _
  have BF : Below w.heap.size w (w4.alloc (.cells ([Sx.firstE (fun e => Sx.eraE e false) l, Sx.eraE x true].map (Value.int .i64)).toArray 28)) := BVV.out.trans ((B4.out.alloc B4.out.size _).mono BVV.out.size)
  go_wp2
  go_ret
  exact ⟨ret_int (by rw [HE.out]), BF⟩
set_option maxRecDepth 100000 in
set_option maxHeartbeats 2000000 in
theorem firstZone_any (xs : List Sx.Zn) (rv : Value) (m : Int) (w : World) (h : RdZones w rv xs) (hs : ∀ x ∈ xs, x.name.length ≤ maxLen ∧ (∀ y ∈ x.eras, y.rules.length ≤ maxLen ∧ y.format.length ≤ maxLen) ∧ x.eras.length ≤ 1000) (hcp : CapZs w rv xs) (hl : xs.length ≤ 1000) (hm : w.cell? ⟨0, 0, none⟩ = some (.int .i64 m)) (h0 : 0 < w.heap.size) :
    Calls Tryz.prog 92 #[rv, .func (.func 93) #[] #[]] w fun e w' => e = .returned (.int .i64 (Sx.firstE Sx.zoneE xs)) ∧ Below w.heap.size w w' := by
  obtain ⟨R, hR⟩ : ∃ R, Sx.firstE Sx.zoneE xs = R := ⟨_, rfl⟩
  rw [hR]
  have HR : Hid (R = Sx.firstE Sx.zoneE (xs.drop 0)) := hR.symm
  obtain ⟨ra, rcap, rfl⟩ := rdZones_shape h
  have H := hid h
  have HS := hid hs
  have HCP := hid hcp
  clear hcp
  have HM := hid hm
  have H0 := hid h0
  clear hR h hs hm h0
  have eg : ∀ args w, (callFunc 93 args).run Tryz.prog w = .ok (.enter 93 args) w := enters_of Tryz.func93 (by kernel_rfl) rfl
  go_enter Tryz.func92, Tryz.ntmps92
  go_wp2_with fail
  go_loopw [10] (fun a wr => ∃ k : Nat, k ≤ xs.length ∧ a = .int .i64 k ∧ Hid (Below w.heap.size w wr) ∧ Hid (R = Sx.firstE Sx.zoneE (xs.drop k))) (fun a _ => xs.length - (intOf a).toNat)
  case atStart => exact ⟨0, by omega, rfl, Below.refl _ _, HR⟩
  case round =>
    clear HR
    obtain ⟨k, hk, rfl, B0, HR⟩ := hrel
    by_cases hlt : k < xs.length
    case neg =>
      have HR2 : Hid (R = 0) := by show _ = _; rw [HR.out]; exact Sx.firstE_end _ hlt
      go_wp2
      go_ret
      exact ⟨ret_int (by rw [HR2.out]), B0.out⟩
    obtain ⟨x, hx⟩ : ∃ x, xs[k]? = some x := ⟨_, List.getElem?_eq_getElem hlt⟩
    obtain ⟨rb, ro, ea, ecap, rfl, hrb, c0, c1, hre⟩ := rd_zone_at (rdZones_below H.out B0.out) hx
    have hcap : CapE (.slice ea x.eras.length ecap) x.eras.length := capZs_below HCP.out H.out B0.out k x rb ro rcap hx rfl _ c1
    have HX := hid hx
    have SX := hid (HS.out x (List.mem_of_getElem? hx))
    have HM2 : Hid (wr.cell? ⟨0, 0, none⟩ = some (.int .i64 m)) := (B0.out.cell (p := ⟨0, 0, none⟩) H0.out).trans HM.out
    have H02 : Hid (0 < wr.heap.size) := Nat.lt_of_lt_of_le H0.out B0.out.size
    have HRE := hid hre
    have HCAP := hid hcap
    clear hx hre hcap
    have BW := hid ((Below.refl wr.heap.size wr).alloc (Nat.le_refl _) (.cells #[strV x.name, .slice ea x.eras.length ecap] 44))
    have BV := hid (B0.out.alloc B0.out.size (.cells #[strV x.name, .slice ea x.eras.length ecap] 44))
    have HM3 : Hid ((wr.alloc (.cells #[strV x.name, .slice ea x.eras.length ecap] 44)).cell? ⟨0, 0, none⟩ = some (.int .i64 m)) := (BW.out.cell (p := ⟨0, 0, none⟩) H02.out).trans HM2.out
    have H03 : Hid (0 < (wr.alloc (.cells #[strV x.name, .slice ea x.eras.length ecap] 44)).heap.size) := Nat.lt_of_lt_of_le H02.out BW.out.size
    go_wp2_with fail
    refine (pCheckZone_any x _ m _ (rd_below HRE.out BW.out) HCAP.out ⟨SX.out.1, SX.out.2.1⟩ SX.out.2.2 HM3.out H03.out).mono ?_
    rintro e w1 ⟨rfl, hb⟩
    have B1 : Hid (Below w.heap.size w w1) := BV.out.trans (hb.mono BV.out.size)
    clear hb B0 BV BW HM2 HM3 H02 H03 c0 c1 hrb HRE HCAP
    obtain ⟨E, hE⟩ : ∃ E, Sx.zoneE x = E := ⟨_, rfl⟩
    try simp only [] at hE
    rw [hE]
    by_cases h0 : E = 0
    case neg =>
      have HR2 : Hid (R = E) := by show _ = _; rw [← hE]; exact Sx.firstE_at Sx.zoneE HX.out HR.out (by rw [hE]; exact h0)
      have h0' : (E != 0) = true := by simp [h0]
      clear hE
      go_wp2
      go_ret
      exact ⟨ret_int (by rw [HR2.out]), B1.out⟩
    have HR2 : Hid (R = Sx.firstE Sx.zoneE (xs.drop (k + 1))) := Sx.firstE_next Sx.zoneE HX.out HR.out (by rw [hE]; exact h0)
    clear hE HR
    subst h0
    go_wp2
    go_roundw
    case rel => exact ⟨k + 1, by omega, by go_num, B1, HR2⟩
    case measure => simp [intOf]; omega
set_option maxRecDepth 100000 in
set_option maxHeartbeats 2000000 in
theorem pCheckLink_any (x : Sx.Lk) (w : World) (h1 : x.to.length ≤ maxLen) (h2 : x.name.length ≤ maxLen) :
    Calls Tryz.prog 95 #[linkV x] w fun e w' => e = .returned (.int .i64 (Sx.linkE x)) ∧ Below w.heap.size w w' := by
  have HE : Hid (Sx.linkE x = uE (Sx.nameB x.to && Sx.nameB x.name) 1) := by show _ = _; unfold Sx.linkE uE; cases Sx.nameB x.to && Sx.nameB x.name <;> rfl
  have BV := hid ((Below.refl w.heap.size w).alloc (Nat.le_refl _) (.cells (linkCells x).toArray 35))
  obtain ⟨A, hA⟩ : ∃ A, Sx.nameB x.to = A := ⟨_, rfl⟩
  obtain ⟨B, hB⟩ : ∃ B, Sx.nameB x.name = B := ⟨_, rfl⟩
  rw [hA, hB] at HE
  have N1 := hid (fun w' => pName_str x.to w' h1 hA)
  have N2 := hid (fun w' => pName_str x.name w' h2 hB)
  clear hA hB h1 h2
  cases A
  case false =>
    go_enter Tryz.func95, Tryz.ntmps95
    go_wp2_with (first | (go_at_call 151; refine (N1.out _).mono ?_; rintro e w1 ⟨rfl, rfl⟩) | (go_at_call 150; refine (unless_any _ _ _).mono ?_; rintro e w1 ⟨rfl, rfl⟩))
    go_ret
    exact ⟨ret_int (by rw [HE.out]; rfl), BV.out⟩
  case true =>
    go_enter Tryz.func95, Tryz.ntmps95
    go_wp2_with (first | (go_at_call 151; (first | (with_reducible refine (N1.out _).mono ?_) | (with_reducible refine (N2.out _).mono ?_)); rintro e w1 ⟨rfl, rfl⟩) | (go_at_call 150; refine (unless_any _ _ _).mono ?_; rintro e w1 ⟨rfl, rfl⟩))
    go_ret
    exact ⟨ret_int (by rw [HE.out]; rfl), BV.out⟩
set_option maxRecDepth 100000 in
set_option maxHeartbeats 2000000 in
theorem firstLink_any (xs : List Sx.Lk) (rv : Value) (m : Int) (w : World) (h : RdLinks w rv xs) (hs : ∀ x ∈ xs, x.to.length ≤ maxLen ∧ x.name.length ≤ maxLen) (hl : xs.length ≤ 1000) (hm : w.cell? ⟨0, 0, none⟩ = some (.int .i64 m)) (h0 : 0 < w.heap.size) :
    Calls Tryz.prog 94 #[rv, .func (.func 95) #[] #[]] w fun e w' => e = .returned (.int .i64 (Sx.firstE Sx.linkE xs)) ∧ Below w.heap.size w w' := by
  obtain ⟨R, hR⟩ : ∃ R, Sx.firstE Sx.linkE xs = R := ⟨_, rfl⟩
  rw [hR]
  have HR : Hid (R = Sx.firstE Sx.linkE (xs.drop 0)) := hR.symm
  obtain ⟨ra, rcap, rfl⟩ := rd_shape h
  have H := hid h
  have HS := hid hs
  have HM := hid hm
  have H0 := hid h0
  clear hR h hs hm h0
  have eg : ∀ args w, (callFunc 95 args).run Tryz.prog w = .ok (.enter 95 args) w := enters_of Tryz.func95 (by kernel_rfl) rfl
  go_enter Tryz.func94, Tryz.ntmps94
  go_wp2_with fail
  go_loopw [10] (fun a wr => ∃ k : Nat, k ≤ xs.length ∧ a = .int .i64 k ∧ Hid (Below w.heap.size w wr) ∧ Hid (R = Sx.firstE Sx.linkE (xs.drop k))) (fun a _ => xs.length - (intOf a).toNat)
  case atStart => exact ⟨0, by omega, rfl, Below.refl _ _, HR⟩
  case round =>
    clear HR
    obtain ⟨k, hk, rfl, B0, HR⟩ := hrel
    by_cases hlt : k < xs.length
    case neg =>
      have HR2 : Hid (R = 0) := by show _ = _; rw [HR.out]; exact Sx.firstE_end _ hlt
      go_wp2
      go_ret
      exact ⟨ret_int (by rw [HR2.out]), B0.out⟩
    obtain ⟨x, hx⟩ : ∃ x, xs[k]? = some x := ⟨_, List.getElem?_eq_getElem hlt⟩
    obtain ⟨rb, ro, rfl, hrb, hc⟩ := rd_elem (rd_below H.out B0.out) hx
    obtain ⟨c0, c1⟩ := rd_link hc
    have HX := hid hx
    have SX := hid (HS.out x (List.mem_of_getElem? hx))
    have HM2 : Hid (wr.cell? ⟨0, 0, none⟩ = some (.int .i64 m)) := (B0.out.cell (p := ⟨0, 0, none⟩) H0.out).trans HM.out
    have H02 : Hid (0 < wr.heap.size) := Nat.lt_of_lt_of_le H0.out B0.out.size
    clear hx hc
    have BW := hid ((Below.refl wr.heap.size wr).alloc (Nat.le_refl _) (.cells #[strV x.to, strV x.name] 35))
    have BV := hid (B0.out.alloc B0.out.size (.cells #[strV x.to, strV x.name] 35))
    have HM3 : Hid ((wr.alloc (.cells #[strV x.to, strV x.name] 35)).cell? ⟨0, 0, none⟩ = some (.int .i64 m)) := (BW.out.cell (p := ⟨0, 0, none⟩) H02.out).trans HM2.out
    have H03 : Hid (0 < (wr.alloc (.cells #[strV x.to, strV x.name] 35)).heap.size) := Nat.lt_of_lt_of_le H02.out BW.out.size
    go_wp2_with fail
    refine (pCheckLink_any x _ SX.out.1 SX.out.2).mono ?_
    rintro e w1 ⟨rfl, hb⟩
    have B1 : Hid (Below w.heap.size w w1) := BV.out.trans (hb.mono BV.out.size)
    clear hb B0 BV BW HM2 HM3 H02 H03 c0 c1 hrb
    obtain ⟨E, hE⟩ : ∃ E, Sx.linkE x = E := ⟨_, rfl⟩
    try simp only [] at hE
    rw [hE]
    by_cases h0 : E = 0
    case neg =>
      have HR2 : Hid (R = E) := by show _ = _; rw [← hE]; exact Sx.firstE_at Sx.linkE HX.out HR.out (by rw [hE]; exact h0)
      have h0' : (E != 0) = true := by simp [h0]
      clear hE
      go_wp2
      go_ret
      exact ⟨ret_int (by rw [HR2.out]), B1.out⟩
    have HR2 : Hid (R = Sx.firstE Sx.linkE (xs.drop (k + 1))) := Sx.firstE_next Sx.linkE HX.out HR.out (by rw [hE]; exact h0)
    clear hE HR
    subst h0
    go_wp2
    go_roundw
    case rel => exact ⟨k + 1, by omega, by go_num, B1, HR2⟩
    case measure => simp [intOf]; omega
end Go.Proofs.YtkhlkohlccndgaaGreat
namespace Go.Proofs.YtkhlkohlccndgaaGreat
open Go.RowKit
set_option linter.unusedVariables false
set_option linter.unusedSimpArgs false
attribute [local go_sem ↓] Go.wp_at_zero Go.wp_at_succ

set_option maxRecDepth 100000 in
set_option maxHeartbeats 2000000 in
theorem sFits_any (s : Sx.Sr) (ra la : Option Addr) (rcap lcap : Nat) (zv : Value) (w : World) (h : RdZones w zv s.zones) :
    Calls Tryz.prog 88 #[.agg #[.slice ra s.rules.length rcap, zv, .slice la s.links.length lcap]] w fun e w' => e = .returned (.bool (!Sx.manyB s)) ∧ Below w.heap.size w w' := by
  obtain ⟨za, zcap, rfl⟩ := rdZones_shape h
  have BV := hid ((Below.refl w.heap.size w).alloc (Nat.le_refl _) (.cells #[.slice ra s.rules.length rcap, .slice za s.zones.length zcap, .slice la s.links.length lcap] 26))
  have H := hid h
  clear h
  by_cases h1 : 40 < s.rules.length
  · have HB : Hid (false = !Sx.manyB s) := by show _ = _; simp [Sx.manyB, h1]
    go_enter Tryz.func88, Tryz.ntmps88
    go_wp2
    go_ret
    exact ⟨ret_bool HB.out, BV.out⟩
  by_cases h2 : 20 < s.zones.length
  · have HB : Hid (false = !Sx.manyB s) := by show _ = _; simp [Sx.manyB, h2]
    go_enter Tryz.func88, Tryz.ntmps88
    go_wp2
    go_ret
    exact ⟨ret_bool HB.out, BV.out⟩
  by_cases h3 : 20 < s.links.length
  · have HB : Hid (false = !Sx.manyB s) := by show _ = _; simp [Sx.manyB, h3]
    go_enter Tryz.func88, Tryz.ntmps88
    go_wp2
    go_ret
    exact ⟨ret_bool HB.out, BV.out⟩
  have HN := hid (Sx.many_no h1 h2 h3)
  have HY := hid (fun (i : Nat) (z : Sx.Zn) => @Sx.many_zone s i z)
  have HV := hid (rdZones_below H.out BV.out)
  obtain ⟨n, hn⟩ : ∃ n, s.zones.length = n := ⟨_, rfl⟩
  rw [hn] at h2 BV HV ⊢
  have HL := hid hn
  clear hn H
  go_enter Tryz.func88, Tryz.ntmps88
  go_wp2_with fail
  obtain ⟨V, hV⟩ : ∃ V, w.alloc (.cells #[.slice ra s.rules.length rcap, .slice za n zcap, .slice la s.links.length lcap] 26) = V := ⟨_, rfl⟩
  rw [hV] at BV HV ⊢
  clear hV
  go_loopw [24] (fun a wr => ∃ k : Nat, k ≤ n ∧ a = .int .i64 k ∧ Hid (Below V.heap.size V wr) ∧ Hid (∀ (j : Nat) (z : Sx.Zn), j < k → s.zones[j]? = some z → ¬ 8 < z.eras.length)) (fun a _ => n - (intOf a).toNat)
  case atStart => exact ⟨0, by omega, rfl, Below.refl _ _, fun j z q => absurd q (Nat.not_lt_zero _)⟩
  case round =>
    obtain ⟨k, hk, rfl, B0, HK⟩ := hrel
    by_cases hlt : k < n
    case neg =>
      have HR : Hid (Sx.manyB s = false) := HN.out fun j z a b => HK.out j z (by have := HL.out; omega) b
      go_wp2
      go_ret
      exact ⟨ret_bool (by rw [HR.out]; rfl), BV.out.trans (B0.out.mono BV.out.size)⟩
    obtain ⟨x, hx⟩ : ∃ x, s.zones[k]? = some x := ⟨_, List.getElem?_eq_getElem (by have := HL.out; omega)⟩
    obtain ⟨rb, ro, ea, ecap, rfl, hrb, c0, c1, hre⟩ := rd_zone_at (rdZones_below HV.out B0.out) hx
    have HX := hid hx
    have B1 := hid (B0.out.alloc B0.out.size (.cells #[strV x.name, .slice ea x.eras.length ecap] 44))
    obtain ⟨L, hL⟩ : ∃ L, x.eras.length = L := ⟨_, rfl⟩
    have HLL := hid hL
    rw [hL] at c1 B1
    clear hx hre hL B0
    by_cases h8 : 8 < L
    · have HR : Hid (Sx.manyB s = true) := HY.out k x HX.out (by rw [HLL.out]; exact h8)
      go_wp2
      go_ret
      exact ⟨ret_bool (by rw [HR.out]; rfl), BV.out.trans (B1.out.mono BV.out.size)⟩
    · have HK2 : Hid (∀ (j : Nat) (z : Sx.Zn), j < k + 1 → s.zones[j]? = some z → ¬ 8 < z.eras.length) := by
        intro j z hj hz
        by_cases q : j < k
        · exact HK.out j z q hz
        · have : j = k := by omega
          subst this
          rw [HX.out] at hz
          cases hz
          rw [HLL.out]; exact h8
      clear HK
      go_wp2
      go_roundw
      case rel => exact ⟨k + 1, by omega, by go_num, B1, HK2⟩
      case measure => simp [intOf]; omega
theorem srcE_or (s : Sx.Sr) (h : Sx.manyB s = false) : Sx.srcE s = Sx.firstE id [Sx.firstE Sx.ruleE s.rules, Sx.firstE Sx.zoneE s.zones, Sx.firstE Sx.linkE s.links] := by
  rw [Sx.src_few h]
  simp only [Sx.orE, Sx.firstE, id]
  split
  · rfl
  · split
    · rfl
    · split <;> simp_all
theorem many_few {s : Sx.Sr} (h : Sx.manyB s = false) : s.rules.length ≤ 40 ∧ s.zones.length ≤ 20 ∧ s.links.length ≤ 20 ∧ ∀ z ∈ s.zones, z.eras.length ≤ 8 := by
  simp [Sx.manyB] at h
  obtain ⟨⟨⟨h1, h2⟩, h3⟩, h4⟩ := h
  exact ⟨by omega, by omega, by omega, fun z hz => by have := h4 z hz; omega⟩
structure SrH (B : Nat) (r z l : Value) (w : World) : Prop where
  c0 : w.cell? ⟨B, 0, none⟩ = some r
  c1 : w.cell? ⟨B, 1, none⟩ = some z
  c2 : w.cell? ⟨B, 2, none⟩ = some l
theorem srH_below {B : Nat} {r z l : Value} {w w' : World} (h : SrH B r z l w) (hb : Below w.heap.size w w') (hB : B < w.heap.size) : SrH B r z l w' :=
  ⟨(hb.cell (p := ⟨B, 0, none⟩) hB).trans h.c0, (hb.cell (p := ⟨B, 1, none⟩) hB).trans h.c1, (hb.cell (p := ⟨B, 2, none⟩) hB).trans h.c2⟩
structure SrcAt (r z l : Value) (rs : List Sx.Rl) (zs : List Sx.Zn) (ls : List Sx.Lk) (m : Int) (w : World) : Prop where
  rules : RdRules w r rs
  zones : RdZones w z zs
  links : RdLinks w l ls
  cap : CapZs w z zs
  max : w.cell? ⟨0, 0, none⟩ = some (.int .i64 m)
  pos : 0 < w.heap.size
theorem src_at {r z l : Value} {rs : List Sx.Rl} {zs : List Sx.Zn} {ls : List Sx.Lk} {m : Int} {w w' : World} (hb : Below w.heap.size w w') (h1 : RdRules w r rs) (h2 : RdZones w z zs) (h3 : RdLinks w l ls) (h4 : CapZs w z zs) (h5 : w.cell? ⟨0, 0, none⟩ = some (.int .i64 m)) (h6 : 0 < w.heap.size) : SrcAt r z l rs zs ls m w' :=
  ⟨rd_below h1 hb, rdZones_below h2 hb, rd_below h3 hb, capZs_below h4 h2 hb, (hb.cell (p := ⟨0, 0, none⟩) h6).trans h5, Nat.lt_of_lt_of_le h6 hb.size⟩
theorem src_at2 {r z l : Value} {rs : List Sx.Rl} {zs : List Sx.Zn} {ls : List Sx.Lk} {m : Int} {w w' : World} (h : SrcAt r z l rs zs ls m w) (hb : Below w.heap.size w w') : SrcAt r z l rs zs ls m w' :=
  src_at hb h.rules h.zones h.links h.cap h.max h.pos
set_option maxRecDepth 100000 in
set_option maxHeartbeats 3000000 in
theorem sCheck_any (s : Sx.Sr) (r z l : Value) (m : Int) (w : World) (h : RdSrc w r z l s) (hcp : CapZs w z s.zones) (hs : SizedS s) (hm : w.cell? ⟨0, 0, none⟩ = some (.int .i64 m)) (h0 : 0 < w.heap.size) :
    Calls Tryz.prog 42 #[.agg #[r, z, l]] w fun e w' => e = .returned (.int .i64 (Sx.srcE s)) ∧ Below w.heap.size w w' := by
  obtain ⟨rs, zs, ls⟩ := s
  obtain ⟨h1, h2, h3⟩ := h
  dsimp only at h1 h2 h3 hcp
  obtain ⟨ra, rcap, rfl⟩ := rd_shape h1
  obtain ⟨za, zcap, rfl⟩ := rdZones_shape h2
  obtain ⟨la, lcap, rfl⟩ := rd_shape h3
  have BV := hid ((Below.refl w.heap.size w).alloc (Nat.le_refl _) (.cells [.slice ra rs.length rcap, .slice za zs.length zcap, .slice la ls.length lcap].toArray 26))
  have XV := hid (ca_new w [.slice ra rs.length rcap, .slice za zs.length zcap, .slice la ls.length lcap] 26)
  have FT := hid (sFits_any ⟨rs, zs, ls⟩ ra la rcap lcap (.slice za zs.length zcap) _ (rdZones_below h2 BV.out))
  obtain ⟨M, hM⟩ : ∃ M, Sx.manyB ⟨rs, zs, ls⟩ = M := ⟨_, rfl⟩
  rw [hM] at FT
  have HM := hid hM
  have H1 := hid h1
  have H2 := hid h2
  have H3 := hid h3
  have HS := hid hs
  have HC := hid hcp
  have HMM := hid hm
  have H0 := hid h0
  clear h1 h2 h3 hs hcp hm h0 hM
  cases M
  case true =>
    have HR : Hid (Sx.srcE ⟨rs, zs, ls⟩ = 2) := Sx.src_many HM.out
    go_enter Tryz.func42, Tryz.ntmps42
    go_wp2_with fail
    refine FT.out.mono ?_
    rintro e w1 ⟨rfl, hb⟩
    have B1 : Hid (Below w.heap.size w w1) := BV.out.trans (hb.mono BV.out.size)
    go_wp2
    go_ret
    exact ⟨ret_int HR.out.symm, B1.out⟩
  have HR := hid (srcE_or ⟨rs, zs, ls⟩ HM.out)
  have HF := hid (many_few HM.out)
  dsimp only at HF
  obtain ⟨B, hB⟩ : ∃ B, w.heap.size = B := ⟨_, rfl⟩
  have HB := hid hB
  rw [hB] at XV
  clear hB
  go_enter Tryz.func42, Tryz.ntmps42
  go_wp2_with fail
  refine FT.out.mono ?_
  rintro e w1 ⟨rfl, hb⟩
  have B1 : Hid (Below w.heap.size w w1) := BV.out.trans (hb.mono BV.out.size)
  have X1 := hid (ca_below XV.out hb)
  clear hb XV BV FT
  go_upto_region 3 with fail
  rw [HB.out]
  have sB : B < w1.heap.size := X1.out.1
  have SD : SrH B (.slice ra rs.length rcap) (.slice za zs.length zcap) (.slice la ls.length lcap) w1.drew := ⟨(ca_at X1.out 0 rfl).1, (ca_at X1.out 1 rfl).1, (ca_at X1.out 2 rfl).1⟩
  have BD : Below w.heap.size w w1.drew := ⟨B1.out.os, B1.out.tape, B1.out.output, B1.out.size, B1.out.block⟩
  have P1 := src_at BD H1.out H2.out H3.out HC.out HMM.out H0.out
  refine wp_region_held_drew (S := fun w' => SrH B (.slice ra rs.length rcap) (.slice za zs.length zcap) (.slice la ls.length lcap) w') (by kernel_rfl) SD (fun hHeld => ?_)
  refine wpAnyH_take (i := 0) (v := ?vz1z) rfl (by kernel_rfl) (by kernel_rfl) (by kernel_rfl) (fun _ _ _ h => h) (Or.inl ⟨by rfl, ?hyz1z⟩) (by assumption) ?_
  case hyz1z => (intro w hSw; obtain ⟨s0, s1, s2⟩ := hSw; go_simp; try with_reducible rfl)
  try simp only [Act.put, List.setIfInBounds_toArray, List.set_cons_zero, List.set_cons_succ, List.getElem_toArray, List.getElem_cons_zero, List.getElem_cons_succ]
  refine wpAnyH_take (i := 1) (v := ?vz2z) rfl (by kernel_rfl) (by kernel_rfl) (by kernel_rfl) (fun _ _ _ h => h) (Or.inl ⟨by rfl, ?hyz2z⟩) (by assumption) ?_
  case hyz2z => (intro w hSw; obtain ⟨s0, s1, s2⟩ := hSw; go_simp; try with_reducible rfl)
  try simp only [Act.put, List.setIfInBounds_toArray, List.set_cons_zero, List.set_cons_succ, List.getElem_toArray, List.getElem_cons_zero, List.getElem_cons_succ]
  refine wpAnyH_take (i := 3) (v := ?vz3z) rfl (by kernel_rfl) (by kernel_rfl) (by kernel_rfl) (fun _ _ _ h => h) (Or.inl ⟨by rfl, ?hyz3z⟩) (by assumption) ?_
  case hyz3z => (intro w hSw; obtain ⟨s0, s1, s2⟩ := hSw; go_simp; try with_reducible rfl)
  try simp only [Act.put, List.setIfInBounds_toArray, List.set_cons_zero, List.set_cons_succ, List.getElem_toArray, List.getElem_cons_zero, List.getElem_cons_succ]
  refine wpAnyH_take (i := 4) (v := ?vz4z) rfl (by kernel_rfl) (by kernel_rfl) (by kernel_rfl) (fun _ _ _ h => h) (Or.inl ⟨by rfl, ?hyz4z⟩) (by assumption) ?_
  case hyz4z => (intro w hSw; obtain ⟨s0, s1, s2⟩ := hSw; go_simp; try with_reducible rfl)
  try simp only [Act.put, List.setIfInBounds_toArray, List.set_cons_zero, List.set_cons_succ, List.getElem_toArray, List.getElem_cons_zero, List.getElem_cons_succ]
  refine wpAnyH_take (i := 6) (v := ?vz5z) rfl (by kernel_rfl) (by kernel_rfl) (by kernel_rfl) (fun _ _ _ h => h) (Or.inl ⟨by rfl, ?hyz5z⟩) (by assumption) ?_
  case hyz5z => (intro w hSw; obtain ⟨s0, s1, s2⟩ := hSw; go_simp; try with_reducible rfl)
  try simp only [Act.put, List.setIfInBounds_toArray, List.set_cons_zero, List.set_cons_succ, List.getElem_toArray, List.getElem_cons_zero, List.getElem_cons_succ]
  refine wpAnyH_take (i := 7) (v := ?vz6z) rfl (by kernel_rfl) (by kernel_rfl) (by kernel_rfl) (fun _ _ _ h => h) (Or.inl ⟨by rfl, ?hyz6z⟩) (by assumption) ?_
  case hyz6z => (intro w hSw; obtain ⟨s0, s1, s2⟩ := hSw; go_simp; try with_reducible rfl)
  try simp only [Act.put, List.setIfInBounds_toArray, List.set_cons_zero, List.set_cons_succ, List.getElem_toArray, List.getElem_cons_zero, List.getElem_cons_succ]
  refine wpAnyH_ready (rs := [2]) (by kernel_rfl) (by simp) ?_
  refine AllReadyH.cons rfl (fun K hK => ?_) AllReadyH.nil
  go_simp
  refine (firstRule_any rs _ _ P1.rules HS.out.rules HF.out.1).mono ?_
  rintro e v1 ⟨rfl, hb⟩
  have S1 : SrH B (.slice ra rs.length rcap) (.slice za zs.length zcap) (.slice la ls.length lcap) v1 := srH_below SD hb sB
  have L1 : B < v1.heap.size := Nat.lt_of_lt_of_le sB hb.size
  have BB1 : Hid (Below w.heap.size w v1) := Below.trans BD (hb.mono (Below.size BD))
  have P2 := src_at2 P1 hb
  clear hb
  refine hK.out _ _ ?_ (fun hHeld => ?_)
  · exact S1
  clear hK K
  try simp only [Act.put, List.setIfInBounds_toArray, List.set_cons_zero, List.set_cons_succ, List.getElem_toArray, List.getElem_cons_zero, List.getElem_cons_succ]
  refine wpAnyH_ready (rs := [5]) (by kernel_rfl) (by simp) ?_
  refine AllReadyH.cons rfl (fun K hK => ?_) AllReadyH.nil
  go_simp
  refine (firstZone_any zs _ m _ P2.zones (fun x hx => ⟨(HS.out.zones x hx).1, (HS.out.zones x hx).2, by have := HF.out.2.2.2 x hx; omega⟩) P2.cap (by have := HF.out.2.1; omega) P2.max P2.pos).mono ?_
  rintro e v2 ⟨rfl, hb⟩
  have S2 : SrH B (.slice ra rs.length rcap) (.slice za zs.length zcap) (.slice la ls.length lcap) v2 := srH_below S1 hb L1
  have L2 : B < v2.heap.size := Nat.lt_of_lt_of_le L1 hb.size
  have BB2 : Hid (Below w.heap.size w v2) := Below.trans BB1.out (hb.mono (Below.size BB1.out))
  have P3 := src_at2 P2 hb
  clear hb
  refine hK.out _ _ ?_ (fun hHeld => ?_)
  · exact S2
  clear hK K
  try simp only [Act.put, List.setIfInBounds_toArray, List.set_cons_zero, List.set_cons_succ, List.getElem_toArray, List.getElem_cons_zero, List.getElem_cons_succ]
  refine wpAnyH_ready (rs := [8]) (by kernel_rfl) (by simp) ?_
  refine AllReadyH.cons rfl (fun K hK => ?_) AllReadyH.nil
  go_simp
  refine (firstLink_any ls _ m _ P3.links HS.out.links (by have := HF.out.2.2.1; omega) P3.max P3.pos).mono ?_
  rintro e v3 ⟨rfl, hb⟩
  have S3 : SrH B (.slice ra rs.length rcap) (.slice za zs.length zcap) (.slice la ls.length lcap) v3 := srH_below S2 hb L2
  have L3 : B < v3.heap.size := Nat.lt_of_lt_of_le L2 hb.size
  have BB3 : Hid (Below w.heap.size w v3) := Below.trans BB2.out (hb.mono (Below.size BB2.out))
  have P4 := src_at2 P3 hb
  clear hb
  have CN := hid (ca_new v3 ([Sx.firstE Sx.ruleE rs, Sx.firstE Sx.zoneE zs, Sx.firstE Sx.linkE ls].map (Value.int .i64)) 28)
  refine hK.out _ _ ?_ (fun hHeld => ?_)
  · exact S3
  clear hK K
  try simp only [Act.put, List.setIfInBounds_toArray, List.set_cons_zero, List.set_cons_succ, List.getElem_toArray, List.getElem_cons_zero, List.getElem_cons_succ]
  refine wpAnyH_ready (rs := [9]) (by kernel_rfl) (by simp) ?_
  refine AllReadyH.cons rfl (fun K hK => ?_) AllReadyH.nil
  go_simp
  refine hK.out _ _ ?_ (fun hHeld => ?_)
  · exact srH_below S3 ((Below.refl _ _).alloc (Nat.le_refl _) _) L3
  clear hK K
  try simp only [Act.put, List.setIfInBounds_toArray, List.set_cons_zero, List.set_cons_succ, List.getElem_toArray, List.getElem_cons_zero, List.getElem_cons_succ]
  refine wpAnyH_ready (rs := [10]) (by kernel_rfl) (by simp) ?_
  refine AllReadyH.cons rfl (fun K hK => ?_) AllReadyH.nil
  go_simp
  refine (or_any [Sx.firstE Sx.ruleE rs, Sx.firstE Sx.zoneE zs, Sx.firstE Sx.linkE ls] v3.heap.size 3 _ CN.out (by simp)).mono ?_
  rintro e w2 ⟨rfl, rfl⟩
  refine hK.out _ _ ?_ (fun hHeld => ?_)
  · exact hHeld
  clear hK K
  try simp only [Act.put, List.setIfInBounds_toArray, List.set_cons_zero, List.set_cons_succ, List.getElem_toArray, List.getElem_cons_zero, List.getElem_cons_succ]
  refine wpAnyH_take (i := 11) (v := ?vz7z) rfl (by kernel_rfl) (by kernel_rfl) (by kernel_rfl) (fun _ _ _ h => h) (Or.inl ⟨by rfl, ?hyz7z⟩) (by assumption) ?_
  case hyz7z => (intro w hSw; obtain ⟨s0, s1, s2⟩ := hSw; go_simp; try with_reducible rfl)
  try simp only [Act.put, List.setIfInBounds_toArray, List.set_cons_zero, List.set_cons_succ, List.getElem_toArray, List.getElem_cons_zero, List.getElem_cons_succ]
  refine wpAnyH_done (by kernel_rfl) ?_ _
  have BF : Below w.heap.size w (v3.alloc (.cells ([Sx.firstE Sx.ruleE rs, Sx.firstE Sx.zoneE zs, Sx.firstE Sx.linkE ls].map (Value.int .i64)).toArray 28)) := BB3.out.alloc BB3.out.size _
  go_wp2
  go_ret
  exact ⟨ret_int (by rw [HR.out]), BF⟩
end Go.Proofs.YtkhlkohlccndgaaGreat
namespace Go.Proofs.YtkhlkohlccndgaaGreat
open Go.RowKit Go.Shelf
set_option linter.unusedVariables false
set_option linter.unusedSimpArgs false
attribute [local go_sem] Oper.semAt_some

theorem turns_prefix {rs : List Sx.Rl} {name : Tx.Bs} {i k : Nat} {r : Sx.Rl} (h : rs[i]? = some r) (hn : (r.name == name) = true) (hk : k ≤ Sx.many r) : (Sx.turnsOf (rs.take i) name ++ Sx.turnsTo r k) <+: Sx.turnsOf rs name := by
  have e := Sx.turnsOf_take (name := name) h
  rw [hn, if_pos rfl] at e
  have p1 : Sx.turnsTo r k <+: Sx.turnsR r := by
    rw [← Sx.turnsTo_all]
    unfold Sx.turnsTo
    refine ⟨((List.range (Sx.many r)).drop k).map (fun (j : Nat) => Sx.turnIn r (r.frm + (j : Int))), ?_⟩
    rw [← List.map_append]
    congr 1
    have : (List.range (Sx.many r)).take k = List.range k := by rw [List.take_range, Nat.min_eq_left hk]
    rw [← this]; exact List.take_append_drop _ _
  have p2 : Sx.turnsOf (rs.take (i + 1)) name <+: Sx.turnsOf rs name := by
    have : rs = rs.take (i + 1) ++ rs.drop (i + 1) := (List.take_append_drop _ _).symm
    refine ⟨Sx.turnsOf (rs.drop (i + 1)) name, ?_⟩
    conv => rhs; rw [this]
    unfold Sx.turnsOf
    rw [List.filter_append, List.flatMap_append]
  refine List.IsPrefix.trans ?_ p2
  rw [e]
  obtain ⟨t, ht⟩ := p1
  exact ⟨t, by rw [List.append_assoc, ht]⟩
theorem turns_lt {rs : List Sx.Rl} {name : Tx.Bs} {i k : Nat} {r : Sx.Rl} (h : rs[i]? = some r) (hn : (r.name == name) = true) (hk : k < Sx.many r) : (Sx.turnsOf (rs.take i) name ++ Sx.turnsTo r k).length < (Sx.turnsOf rs name).length := by
  have := (turns_prefix h hn (k := k + 1) (by omega)).length_le
  rw [Sx.turnsTo_succ] at this
  simp at this ⊢
  omega
def Kp (n₀ : Nat) (T : TypeId) (Bs : Nat) (W W' : World) : Prop := Below n₀ W W' ∧ KeepT T Bs W W'
set_option maxRecDepth 100000 in
set_option maxHeartbeats 4000000 in
theorem turns1_in (n l Bl Bn Bs : Nat) (hn : 1 ≤ n) (rs : List Sx.Rl) (name : Tx.Bs) (ra : Option Addr) (rcap : Nat) (W0 W : World) (h : RdRules W0 (.slice ra rs.length rcap) rs) (hok : ∀ r ∈ rs, Sx.RuleOk r) (hrs : rs.length ≤ 40)
    (cl : W0.cell? ⟨Bl, 0, none⟩ = some (.slice ra rs.length rcap)) (cn : W0.cell? ⟨Bn, 0, none⟩ = some (strV name)) (hBl : Bl < W0.heap.size) (hBn : Bn < W0.heap.size) (hBs : Bs < W.heap.size) (hW : Below W0.heap.size W0 W)
    (J Jx : List Sx.Tn → World → Prop) (hJ : AbidesFrom W.heap.size J)
    (hY : ∀ pre x W1, J pre W1 → pre.length < (Sx.turnsOf rs name).length → YieldAt Fence.wide (n - 1) Tryz.prog l #[turnV x] W1 fun e W' => (e = .returned (.bool true) ∧ J (pre ++ [x]) W' ∧ Kp W0.heap.size 120 Bs W1 W') ∨ (e = .returned (.bool false) ∧ Jx (pre ++ [x]) W'))
    (h0 : J [] W) :
    CallsIn Fence.wide n Tryz.prog 127 #[.func (.yield l) #[] #[], .pointer (some ⟨Bl, 0, none⟩), .pointer (some ⟨Bn, 0, none⟩)] W fun e W' => (∃ v, e = .returned v) ∧ ((∃ ys, ys = Sx.turnsOf rs name ∧ J ys W') ∨ (∃ pre, pre <+: Sx.turnsOf rs name ∧ Jx pre W')) := by
  have HY := hid hY
  have HJ := hid hJ
  have H := hid h
  have HOK := hid hok
  have cl1 := (hW.cell (p := ⟨Bl, 0, none⟩) hBl).trans cl
  have HCN := hid cn
  clear hY hJ h hok cl cn
  refine callsIn_of_wp Tryz.func127 rfl trivial ?_ rfl
  simp only [Tryz.ntmps127, List.size_toArray, List.length_cons, List.length_nil, Nat.reduceAdd, Nat.reduceSub, Array.replicate_succ, Array.replicate_zero, List.push_toArray, List.append_toArray, List.nil_append, List.cons_append]
  gi_wp2
  gi_loopw [9] (fun a wr => ∃ i : Nat, i ≤ rs.length ∧ a = .int .i64 i ∧ Hid (J (Sx.turnsOf (rs.take i) name) wr) ∧ Hid (Below W0.heap.size W0 wr) ∧ Hid (W.heap.size ≤ wr.heap.size)) (fun a _ => rs.length - (intOf a).toNat)
  case atStart => exact ⟨0, Nat.zero_le _, rfl, h0, hW, Nat.le_refl _⟩
  case round =>
    obtain ⟨i, hi, rfl, JS, B0, SZ⟩ := hrel
    by_cases hlt : i < rs.length
    case neg =>
      have e : rs.take i = rs := List.take_of_length_le (by omega)
      rw [e] at JS
      gi_wp2
      go_end0
      exact ⟨⟨_, rfl⟩, .inl ⟨_, rfl, JS.out⟩⟩
    obtain ⟨r, hx⟩ : ∃ r, rs[i]? = some r := ⟨_, List.getElem?_eq_getElem hlt⟩
    obtain ⟨rb, ro, rfl, hrb, hc⟩ := rd_elem (rd_below H.out B0.out) hx
    obtain ⟨c0, c1, c2, c3, c4, c5, c6, c7, c8, c9, c10⟩ := rd_rule hc
    have HX := hid hx
    have ok := HOK.out r (List.mem_of_getElem? hx)
    have cn1 : wr.cell? ⟨Bn, 0, none⟩ = some (strV name) := (B0.out.cell (p := ⟨Bn, 0, none⟩) hBn).trans HCN.out
    have sBn : Bn < wr.heap.size := Nat.lt_of_lt_of_le hBn B0.out.size
    clear hc hx
    cases hnm : (r.name == name)
    · have hnm' : (r.name != name) = true := by simp [bne, hnm]
      have JN : Hid (J (Sx.turnsOf (rs.take (i + 1)) name) (wr.alloc (.cells (ruleCells r).toArray 40))) := by
        show J _ _
        rw [Sx.turnsOf_take HX.out, hnm, if_neg (by decide), List.append_nil]
        exact HJ.out _ _ _ none JS.out (World.grownBy_alloc wr _ none) (fun r e => by cases e)
      have BN := hid (B0.out.alloc B0.out.size (.cells (ruleCells r).toArray 40))
      have SN : Hid (W.heap.size ≤ (wr.alloc (.cells (ruleCells r).toArray 40)).heap.size) := by show _ ≤ _; have := SZ.out; simp; omega
      gi_wp2
      go_roundw
      case rel => exact ⟨i + 1, by omega, by go_num, JN, BN, SN⟩
      case measure => simp [intOf]; omega
    · have hnm' : (r.name != name) = false := by simp [bne, hnm]
      have HNM := hid hnm
      have J1 : Hid (J (Sx.turnsOf (rs.take i) name ++ Sx.turnsTo r 0) (wr.alloc (.cells (ruleCells r).toArray 40))) := by
        show J _ _
        simp only [Sx.turnsTo, List.range_zero, List.map_nil, List.append_nil]
        exact HJ.out _ _ _ none JS.out (World.grownBy_alloc wr _ none) (fun r e => by cases e)
      have B1 := hid (B0.out.alloc B0.out.size (.cells (ruleCells r).toArray 40))
      have S1 : Hid (W.heap.size ≤ (wr.alloc (.cells (ruleCells r).toArray 40)).heap.size) := by show _ ≤ _; have := SZ.out; simp; omega
      have K1 : Hid ((wr.alloc (.cells (ruleCells r).toArray 40)).heap[wr.heap.size]? = some (.cells (ruleCells r).toArray 40)) := World.alloc_heap_new wr _
      have hRs : Hid (Bs ≠ wr.heap.size) := by show _ ≠ _; have := SZ.out; omega
      have HOKR := hid ok
      have X1 := hid (ca_new wr (ruleCells r) 40)
      obtain ⟨f1, f2, f3, _, _, fa, _, _⟩ := ok
      have hmany : Hid ((Sx.many r : Int) = r.to - r.frm + 1) := by show _ = _; simp [Sx.many]; omega
      gi_wp2
      obtain ⟨Rb, hRb⟩ : ∃ Rb, wr.heap.size = Rb := ⟨_, rfl⟩
      obtain ⟨V, hV⟩ : ∃ V, wr.alloc (.cells (ruleCells r).toArray 40) = V := ⟨_, rfl⟩
      rw [show wr.alloc (.cells #[strV r.name, .int .i64 r.frm, .int .i64 r.to, .int .i64 r.month, .int .i64 r.kind, .int .i64 r.wk, .int .i64 r.n, .int .i64 r.at_, .int .i64 r.clock, .int .i64 r.save, strV r.letter] 40) = V from hV, hRb]
      rw [hV] at J1 B1 S1 K1 X1
      rw [hRb] at K1 hRs X1
      clear hV c0 c1 c2 c3 c4 c5 c6 c7 c8 c9 c10 hrb JS B0 cn1 sBn SZ
      gi_loopw [6] (fun y wq => ∃ k : Nat, k ≤ Sx.many r ∧ y = .int .i64 (r.frm + (k : Int)) ∧ Hid (J (Sx.turnsOf (rs.take i) name ++ Sx.turnsTo r k) wq) ∧ Hid (Below W0.heap.size W0 wq) ∧ Hid (wq.heap[Rb]? = some (.cells (ruleCells r).toArray 40)) ∧ Hid (CellsAt wq Rb (ruleCells r)) ∧ Hid (W.heap.size ≤ wq.heap.size)) (fun y _ => (r.to + 1 - intOf y).toNat)
      case atStart => exact ⟨0, Nat.zero_le _, by simp, J1, B1, K1, X1, S1⟩
      case round =>
        clear J1 B1 K1 S1 X1
        obtain ⟨k, hk, rfl, J1, B1, K1, X1, S1⟩ := hrel
        have sR := X1.out.1
        obtain ⟨x0, _⟩ := ca_at X1.out 0 rfl
        obtain ⟨x1, _⟩ := ca_at X1.out 1 rfl
        obtain ⟨x2, _⟩ := ca_at X1.out 2 rfl
        obtain ⟨x3, _⟩ := ca_at X1.out 3 rfl
        obtain ⟨x4, _⟩ := ca_at X1.out 4 rfl
        obtain ⟨x5, _⟩ := ca_at X1.out 5 rfl
        obtain ⟨x6, _⟩ := ca_at X1.out 6 rfl
        obtain ⟨x7, _⟩ := ca_at X1.out 7 rfl
        obtain ⟨x8, _⟩ := ca_at X1.out 8 rfl
        obtain ⟨x9, _⟩ := ca_at X1.out 9 rfl
        obtain ⟨x10, _⟩ := ca_at X1.out 10 rfl
        by_cases hlk : k < Sx.many r
        case neg =>
          have hke : k = Sx.many r := by omega
          have hgt : ¬ r.frm + (k : Int) ≤ r.to := by have := hmany.out; omega
          have JN : Hid (J (Sx.turnsOf (rs.take (i + 1)) name) wr) := by
            have := J1.out
            rw [hke, Sx.turnsTo_all] at this
            show J _ _
            rw [Sx.turnsOf_take HX.out, HNM.out, if_pos rfl]
            exact this
          gi_wp2
          go_roundw
          case rel => exact ⟨i + 1, by omega, by go_num, JN, B1, S1⟩
          case measure => simp [intOf]; omega
        have hle : r.frm + (k : Int) ≤ r.to := by have := hmany.out; omega
        have OY := hid (Sx.on_year HOKR.out (y := r.frm + (k : Int)) (by omega) (by omega))
        have HC := hid (turnIn_any r (r.frm + (k : Int)) wr OY.out.1 fa.1 fa.2)
        obtain ⟨T, hT⟩ : ∃ T, Sx.turnIn r (r.frm + (k : Int)) = T := ⟨_, rfl⟩
        rw [hT] at HC
        have HT := hid hT
        have HLT := hid (turns_lt HX.out HNM.out hlk)
        clear hT
        gi_wp2_with (refine ⟨trivial, ?_⟩; gi_at_call 128; refine (callsIn_wide.2 HC.out).mono ?_; rintro e w1 ⟨rfl, hb⟩; have J2 := HJ.out _ _ _ none J1.out (below_grown hb) (fun r e => by cases e); obtain ⟨fn, tmps, assign, body, hy, hR⟩ := HY.out _ T w1 J2 HLT.out)
        refine hR.mono ?_
        have KB := K1.out
        have B2 : Below W0.heap.size W0 w1 := B1.out.trans (hb.mono B1.out.size)
        have X2 := ca_below X1.out hb
        have K2 : w1.heap[Rb]? = some (.cells (ruleCells r).toArray 40) := by rw [hb.block Rb sR]; exact KB
        have S2 : W.heap.size ≤ w1.heap.size := Nat.le_trans S1.out hb.size
        rintro e W3 (⟨rfl, hJ3, hk3⟩ | ⟨rfl, hJx3⟩)
        · have JN : Hid (J (Sx.turnsOf (rs.take i) name ++ Sx.turnsTo r (k + 1)) W3) := by
            show J _ _
            rw [Sx.turnsTo_succ, HT.out, ← List.append_assoc]
            exact hJ3
          have BN : Hid (Below W0.heap.size W0 W3) := B2.trans hk3.1
          have KN : Hid (W3.heap[Rb]? = some (.cells (ruleCells r).toArray 40)) := hk3.2.cells Rb _ _ K2 (by decide) (Ne.symm hRs.out)
          have XN : Hid (CellsAt W3 Rb (ruleCells r)) := ca_block X2 (Nat.lt_of_lt_of_le X2.1 hk3.2.size) (by rw [KN.out, K2])
          have SN : Hid (W.heap.size ≤ W3.heap.size) := Nat.le_trans S2 hk3.2.size
          clear hk3 hJ3 B2 X2 K2 S2 hb hR hy J2 KB J1 B1 K1 X1 S1
          gi_wp2
          go_roundw
          case rel => exact ⟨k + 1, by omega, by go_num, JN, BN, KN, XN, SN⟩
          case measure => simp [intOf]; omega
        · have PX : Hid ((Sx.turnsOf (rs.take i) name ++ Sx.turnsTo r k ++ [T]) <+: Sx.turnsOf rs name) := by
            have := turns_prefix HX.out HNM.out (k := k + 1) (by omega)
            rw [Sx.turnsTo_succ, HT.out, ← List.append_assoc] at this
            exact this
          gi_wp2
          refine bodyPost_ret (results_none rfl _ _ _) rfl ?_
          exact ⟨⟨_, rfl⟩, .inr ⟨_, PX.out, hJx3⟩⟩
end Go.Proofs.YtkhlkohlccndgaaGreat
namespace Go.Proofs.YtkhlkohlccndgaaGreat
open Go.RowKit Go.Shelf
set_option linter.unusedVariables false
set_option linter.unusedSimpArgs false
attribute [local go_sem] Oper.semAt_some

namespace Sx
def ago : Tn := ⟨-1099511627776, 0, 0, []⟩
def stepsFrom : Tn → List Tn → List (Tn × Tn)
  | _, [] => []
  | p, t :: r => (p, t) :: stepsFrom t r
def stepsOf (l : List Tn) : List (Tn × Tn) := stepsFrom ago l
def lastT (p : Tn) (l : List Tn) : Tn := (l.getLast?).getD p
theorem stepsFrom_append : ∀ (l : List Tn) (p t : Tn), stepsFrom p (l ++ [t]) = stepsFrom p l ++ [(lastT p l, t)]
  | [], p, t => rfl
  | u :: r, p, t => by
    simp only [List.cons_append, stepsFrom, stepsFrom_append r u t, lastT, List.getLast?_cons]
    cases r.getLast? <;> rfl
theorem stepsFrom_len : ∀ (l : List Tn) (p : Tn), (stepsFrom p l).length = l.length
  | [], p => rfl
  | u :: r, p => by simp [stepsFrom, stepsFrom_len r u]
theorem take_snoc {α : Type} {l : List α} {i : Nat} {t : α} (h : l[i]? = some t) : l.take (i + 1) = l.take i ++ [t] := by
  rw [List.take_add_one, h]; rfl
theorem steps_next {l : List Tn} {i : Nat} {t : Tn} (h : l[i]? = some t) : stepsOf (l.take (i + 1)) = stepsOf (l.take i) ++ [(lastT ago (l.take i), t)] := by
  unfold stepsOf; rw [take_snoc h, stepsFrom_append]
theorem last_next {l : List Tn} {i : Nat} {t : Tn} (h : l[i]? = some t) : lastT ago (l.take (i + 1)) = t := by
  rw [take_snoc h]; simp [lastT]
theorem stepsFrom_prefix : ∀ (a b : List Tn) (p : Tn), stepsFrom p a <+: stepsFrom p (a ++ b)
  | [], b, p => by simp [stepsFrom]
  | u :: r, b, p => by
    simp only [List.cons_append, stepsFrom]
    obtain ⟨t, ht⟩ := stepsFrom_prefix r b u
    exact ⟨t, by simp [ht]⟩
theorem steps_prefix (l : List Tn) (i : Nat) : stepsOf (l.take i) <+: stepsOf l := by
  have := stepsFrom_prefix (l.take i) (l.drop i) ago
  rwa [List.take_append_drop] at this
end Sx
def RdTurns := Rd 4 turnC
def RdTimes := Rd 3 timeC
theorem rd_turn {w : World} {b o i : Nat} {t : Sx.Tn} (h : ∀ k u, (turnC t)[k]? = some u → w.cell? ⟨b, o + i * 4 + k, none⟩ = some u) :
    w.cell? ⟨b, o + i * 4, none⟩ = some (.int .i64 t.stands) ∧ w.cell? ⟨b, o + i * 4 + 1, none⟩ = some (.int .i64 t.clock) ∧ w.cell? ⟨b, o + i * 4 + 2, none⟩ = some (.int .i64 t.save) ∧ w.cell? ⟨b, o + i * 4 + 3, none⟩ = some (strV t.letter) :=
  ⟨h 0 _ rfl, h 1 _ rfl, h 2 _ rfl, h 3 _ rfl⟩
theorem ca_heap2 {W : World} {b : Nat} {vs : List Value} {t : TypeId} (h : W.heap[b]? = some (.cells vs.toArray t (0, 0))) : CellsAt W b vs := by
  refine ⟨(Array.getElem?_eq_some_iff.1 h).1, fun k v hv => ?_⟩
  simp [World.cell?, World.frozen?, h, hv]
/- four cells of a block written one by one -/
theorem put4 {W : World} {b : Nat} {t : TypeId} {c0 c1 c2 c3 : Value} (v0 v1 v2 v3 : Value) (h : W.heap[b]? = some (.cells #[c0, c1, c2, c3] t)) :
    ((((W.setCell ⟨b, 0, none⟩ v0).setCell ⟨b, 1, none⟩ v1).setCell ⟨b, 2, none⟩ v2).setCell ⟨b, 3, none⟩ v3).heap[b]? = some (.cells #[v0, v1, v2, v3] t) := by
  obtain ⟨hlt, e⟩ := Array.getElem?_eq_some_iff.1 h
  simp [World.setCell, Array.getElem?_modify, h]
theorem grown4 (W : World) (b : Nat) (v0 v1 v2 v3 : Value) : W.grownBy ((((W.setCell ⟨b, 0, none⟩ v0).setCell ⟨b, 1, none⟩ v1).setCell ⟨b, 2, none⟩ v2).setCell ⟨b, 3, none⟩ v3) (some b) := by
  refine ⟨rfl, rfl, rfl, by simp, fun k hk hn => ?_⟩
  have hne : k ≠ b := fun e => hn (by rw [e])
  rw [Below.heap_setCell _ _ _ _ hne, Below.heap_setCell _ _ _ _ hne, Below.heap_setCell _ _ _ _ hne, Below.heap_setCell _ _ _ _ hne]

set_option maxRecDepth 100000 in
set_option maxHeartbeats 4000000 in
theorem steps1_in (n l Bo Bs : Nat) (hn : 1 ≤ n) (ts : List Sx.Tn) (ra : Option Addr) (rcap : Nat) (W0 W : World) (h : RdTurns W0 (.slice ra ts.length rcap) ts) (hts : ts.length ≤ 10000)
    (cl : W.cell? ⟨Bo, 0, none⟩ = some (.slice ra ts.length rcap)) (hBo : Bo < W.heap.size) (hBs : Bs < W.heap.size) (hW : Below W0.heap.size W0 W)
    (J Jx : List (Sx.Tn × Sx.Tn) → World → Prop) (hJ : AbidesC W.heap.size J)
    (hY : ∀ pre x W1, J pre W1 → pre ++ [x] <+: Sx.stepsOf ts → YieldAt Fence.wide (n - 1) Tryz.prog l #[stepV x.1 x.2] W1 fun e W' => (e = .returned (.bool true) ∧ J (pre ++ [x]) W' ∧ Kp W0.heap.size 72 Bs W1 W') ∨ (e = .returned (.bool false) ∧ Jx (pre ++ [x]) W'))
    (h0 : J [] W) :
    CallsIn Fence.wide n Tryz.prog 131 #[.func (.yield l) #[] #[], .pointer (some ⟨Bo, 0, none⟩)] W fun e W' => (∃ v, e = .returned v) ∧ ((∃ ys, ys = Sx.stepsOf ts ∧ J ys W') ∨ (∃ pre, pre <+: Sx.stepsOf ts ∧ Jx pre W')) := by
  have HY := hid hY
  have HJ := hid hJ
  have H := hid h
  have cl1 := cl
  have sBo : Bo < W.heap.size := hBo
  have J0 : Hid (J (Sx.stepsOf (ts.take 0)) (W.alloc (.cells (turnC Sx.ago).toArray 120))) := hJ _ _ _ none h0 (World.grownBy_alloc W _ none) (fun r e => by cases e)
  have B0 := hid (hW.alloc hW.size (.cells (turnC Sx.ago).toArray 120))
  have F0 : Hid ((W.alloc (.cells (turnC Sx.ago).toArray 120)).heap[W.heap.size]? = some (.cells (turnC (Sx.lastT Sx.ago (ts.take 0))).toArray 120)) := World.alloc_heap_new W _
  have S0 : Hid (W.heap.size < (W.alloc (.cells (turnC Sx.ago).toArray 120)).heap.size) := by show _ < _; simp
  have hsB : Hid (Bs ≠ W.heap.size ∧ W0.heap.size ≤ W.heap.size) := ⟨by omega, hW.size⟩
  have BsL := hid hBs
  clear hY hJ h cl h0
  refine callsIn_of_wp Tryz.func131 rfl trivial ?_ rfl
  simp only [Tryz.ntmps131, List.size_toArray, List.length_cons, List.length_nil, Nat.reduceAdd, Nat.reduceSub, Array.replicate_succ, Array.replicate_zero, List.push_toArray, List.append_toArray, List.nil_append, List.cons_append]
  gi_wp2
  obtain ⟨Fb, hFb⟩ : ∃ Fb, W.heap.size = Fb := ⟨_, rfl⟩
  rw [hFb] at HJ F0 S0 hsB BsL ⊢
  obtain ⟨V, hV⟩ : ∃ V, W.alloc (.cells (turnC Sx.ago).toArray 120) = V := ⟨_, rfl⟩
  rw [show W.alloc (.cells #[.int .i64 (-1099511627776), .int .i64 0, .int .i64 0, .string ⟨#[]⟩] 120) = V from hV]
  rw [hV] at J0 B0 F0 S0
  clear hV hFb hW hBs cl1 sBo
  gi_loopw [9] (fun a wr => ∃ i : Nat, i ≤ ts.length ∧ a = .int .i64 i ∧ Hid (J (Sx.stepsOf (ts.take i)) wr) ∧ Hid (Below W0.heap.size W0 wr) ∧ Hid (wr.heap[Fb]? = some (.cells (turnC (Sx.lastT Sx.ago (ts.take i))).toArray 120)) ∧ Hid (Fb < wr.heap.size)) (fun a _ => ts.length - (intOf a).toNat)
  case atStart => exact ⟨0, Nat.zero_le _, rfl, J0, B0, F0, S0⟩
  case round =>
    clear J0 B0 F0 S0
    obtain ⟨i, hi, rfl, JS, B0, F0, SZ⟩ := hrel
    by_cases hlt : i < ts.length
    case neg =>
      have e : ts.take i = ts := List.take_of_length_le (by omega)
      rw [e] at JS
      gi_wp2
      go_end0
      exact ⟨⟨_, rfl⟩, .inl ⟨_, rfl, JS.out⟩⟩
    obtain ⟨t, hx⟩ : ∃ t, ts[i]? = some t := ⟨_, List.getElem?_eq_getElem hlt⟩
    obtain ⟨rb, ro, rfl, hrb, hc⟩ := rd_elem (rd_below H.out B0.out) hx
    obtain ⟨c0, c1, c2, c3⟩ := rd_turn hc
    have HX := hid hx
    have HL := hid (Sx.steps_next hx)
    have HN := hid (Sx.last_next hx)
    obtain ⟨p, hp⟩ : ∃ p, Sx.lastT Sx.ago (ts.take i) = p := ⟨_, rfl⟩
    rw [hp] at F0 HL
    have CF := ca_heap2 F0.out
    obtain ⟨f0, z0⟩ := ca_at CF 0 rfl
    obtain ⟨f1, z1⟩ := ca_at CF 1 rfl
    obtain ⟨f2, z2⟩ := ca_at CF 2 rfl
    obtain ⟨f3, z3⟩ := ca_at CF 3 rfl
    have sF := SZ.out
    have J2 : Hid (J (Sx.stepsOf (ts.take i)) (wr.alloc (.cells (turnC t).toArray 120))) := HJ.out _ _ _ none JS.out (World.grownBy_alloc wr _ none) (fun r e => by cases e)
    have B2 := hid (B0.out.alloc B0.out.size (.cells (turnC t).toArray 120))
    have PX : Hid ((Sx.stepsOf (ts.take i) ++ [(p, t)]) <+: Sx.stepsOf ts) := by
      show _ <+: _
      rw [← HL.out]
      exact Sx.steps_prefix ts (i + 1)
    clear hc hx hp CF
    obtain ⟨fn, tmps, assign, body, hy, hR⟩ := HY.out _ (p, t) (wr.alloc (.cells #[.int .i64 t.stands, .int .i64 t.clock, .int .i64 t.save, strV t.letter] 120)) J2.out PX.out
    dsimp only at hy
    have HR := hid hR
    have K2 : Hid ((wr.alloc (.cells (turnC t).toArray 120)).heap[wr.heap.size]? = some (.cells (turnC t).toArray 120)) := World.alloc_heap_new wr _
    have F2 : Hid ((wr.alloc (.cells (turnC t).toArray 120)).heap[Fb]? = some (.cells (turnC p).toArray 120)) := by show _ = _; rw [Below.heap_alloc _ _ _ sF]; exact F0.out
    have hT : Hid (Bs ≠ wr.heap.size ∧ W0.heap.size ≤ wr.heap.size ∧ Fb < wr.heap.size) := ⟨by have := hsB.out; have := BsL.out; omega, B0.out.size, SZ.out⟩
    clear hR
    gi_wp2
    refine HR.out.mono ?_
    clear HR hy f0 f1 f2 f3 z0 z1 z2 z3 c0 c1 c2 c3 hrb F0 JS B0 SZ sF J2
    obtain ⟨Tb, hTb⟩ : ∃ Tb, wr.heap.size = Tb := ⟨_, rfl⟩
    obtain ⟨X, hX⟩ : ∃ X, wr.alloc (.cells (turnC t).toArray 120) = X := ⟨_, rfl⟩
    rw [show wr.alloc (.cells #[.int .i64 t.stands, .int .i64 t.clock, .int .i64 t.save, strV t.letter] 120) = X from hX]
    rw [hX] at K2 F2 B2
    rw [hTb] at K2 hT ⊢
    clear hX hTb
    rintro e W3 (⟨rfl, hJ3, hk3⟩ | ⟨rfl, hJx3⟩)
    · have F3 : W3.heap[Fb]? = some (.cells (turnC p).toArray 120) := hk3.2.cells Fb _ _ F2.out (by decide) (Ne.symm hsB.out.1)
      have T3 : W3.heap[Tb]? = some (.cells (turnC t).toArray 120) := hk3.2.cells Tb _ _ K2.out (by decide) (Ne.symm hT.out.1)
      have B3 : Below W0.heap.size W0 W3 := B2.out.trans hk3.1
      have s3 : Fb < W3.heap.size := (Array.getElem?_eq_some_iff.1 F3).1
      have st3 : Tb < W3.heap.size := (Array.getElem?_eq_some_iff.1 T3).1
      obtain ⟨f0, z0⟩ := ca_at (ca_heap2 F3) 0 rfl
      obtain ⟨f1, z1⟩ := ca_at (ca_heap2 F3) 1 rfl
      obtain ⟨f2, z2⟩ := ca_at (ca_heap2 F3) 2 rfl
      obtain ⟨f3, z3⟩ := ca_at (ca_heap2 F3) 3 rfl
      obtain ⟨c0, _⟩ := ca_at (ca_heap2 T3) 0 rfl
      obtain ⟨c1, _⟩ := ca_at (ca_heap2 T3) 1 rfl
      obtain ⟨c2, _⟩ := ca_at (ca_heap2 T3) 2 rfl
      obtain ⟨c3, _⟩ := ca_at (ca_heap2 T3) 3 rfl
      have G := grown4 W3 Fb (.int .i64 t.stands) (.int .i64 t.clock) (.int .i64 t.save) (strV t.letter)
      have JN : Hid (J (Sx.stepsOf (ts.take (i + 1))) ((((W3.setCell ⟨Fb, 0, none⟩ (.int .i64 t.stands)).setCell ⟨Fb, 1, none⟩ (.int .i64 t.clock)).setCell ⟨Fb, 2, none⟩ (.int .i64 t.save)).setCell ⟨Fb, 3, none⟩ (strV t.letter))) := by
        show J _ _
        rw [HL.out]
        exact HJ.out _ _ _ _ hJ3 G (fun r e => by cases e; exact ⟨Nat.le_refl _, .inl rfl⟩)
      have BN := hid (B3.grown G B3.size (fun k e => by cases e; exact hsB.out.2))
      have FN : Hid (((((W3.setCell ⟨Fb, 0, none⟩ (.int .i64 t.stands)).setCell ⟨Fb, 1, none⟩ (.int .i64 t.clock)).setCell ⟨Fb, 2, none⟩ (.int .i64 t.save)).setCell ⟨Fb, 3, none⟩ (strV t.letter)).heap[Fb]? = some (.cells (turnC (Sx.lastT Sx.ago (ts.take (i + 1)))).toArray 120)) := by
        show _ = _
        rw [HN.out]
        exact put4 _ _ _ _ F3
      have SN : Hid (Fb < ((((W3.setCell ⟨Fb, 0, none⟩ (.int .i64 t.stands)).setCell ⟨Fb, 1, none⟩ (.int .i64 t.clock)).setCell ⟨Fb, 2, none⟩ (.int .i64 t.save)).setCell ⟨Fb, 3, none⟩ (strV t.letter)).heap.size) := Nat.lt_of_lt_of_le s3 G.size
      clear hk3 hJ3 B3 G F3 T3 F2 K2 B2
      gi_wp2
      go_roundw
      case rel => exact ⟨i + 1, by omega, by go_num, JN, BN, FN, SN⟩
      case measure => simp [intOf]; omega
    · gi_wp2
      refine bodyPost_ret (results_none rfl _ _ _) rfl ?_
      exact ⟨⟨_, rfl⟩, .inr ⟨_, PX.out, hJx3⟩⟩
theorem steps_stops (n Bo Bs : Nat) (hn : 1 ≤ n) (ts : List Sx.Tn) (ra : Option Addr) (rcap : Nat) (W0 w : World) (h : RdTurns W0 (.slice ra ts.length rcap) ts) (hts : ts.length ≤ 10000)
    (cl : w.cell? ⟨Bo, 0, none⟩ = some (.slice ra ts.length rcap)) (hBo : Bo < w.heap.size) (hBs : Bs < w.heap.size) (hW : Below W0.heap.size W0 w) :
    SeqC Fence.wide n Tryz.prog 131 #[.pointer (some ⟨Bo, 0, none⟩)] (fun x : Sx.Tn × Sx.Tn => #[stepV x.1 x.2]) (Kp W0.heap.size 72 Bs) (fun ys => ys = Sx.stepsOf ts) (fun pre => pre <+: Sx.stepsOf ts) w :=
  fun l J Jx W hW1 hJ hJx hY h0 => steps1_in n l Bo Bs hn ts ra rcap W0 W h hts ((hW1.cell (p := ⟨Bo, 0, none⟩) hBo).trans cl) (Nat.lt_of_lt_of_le hBo hW1.size) (Nat.lt_of_lt_of_le hBs hW1.size) (hW.trans (hW1.mono hW.size)) J Jx hJ hY h0
end Go.Proofs.YtkhlkohlccndgaaGreat
namespace Go.Proofs.YtkhlkohlccndgaaGreat
open Go.RowKit Go.Shelf
set_option linter.unusedVariables false
set_option linter.unusedSimpArgs false
attribute [local go_sem] Oper.semAt_some

/- zones with the slices of their eras -/
structure ZV where
  z : Sx.Zn
  a : Option Addr
  c : Nat
abbrev zvS (p : ZV) : Value := .slice p.a p.z.eras.length p.c
def zvCells (p : ZV) : List Value := [strV p.z.name, .slice p.a p.z.eras.length p.c]
abbrev zvV (p : ZV) : Value := .agg #[strV p.z.name, .slice p.a p.z.eras.length p.c]
structure RdZv (w : World) (v : Value) (zs : List Sx.Zn) (ps : List ZV) : Prop where
  fst : ps.map ZV.z = zs
  rd : Rd 2 zvCells w v ps
  eras : ∀ p ∈ ps, RdEras w (.slice p.a p.z.eras.length p.c) p.z.eras
  cap : ∀ p ∈ ps, p.z.eras.length ≤ p.c
def zvOf (p : Sx.Zn × Value) : ZV := match p.2 with
  | .slice a _ c => ⟨p.1, a, c⟩
  | _ => ⟨p.1, none, 0⟩
theorem zvOf_z (p : Sx.Zn × Value) : (zvOf p).z = p.1 := by unfold zvOf; split <;> rfl
theorem rdZv_of {w : World} {v : Value} {zs : List Sx.Zn} (h : RdZones w v zs) (hc : CapZs w v zs) : ∃ ps, RdZv w v zs ps := by
  obtain ⟨vs, h1, h2, h3⟩ := h
  obtain ⟨a, cap, e1, e2⟩ := h2
  have hl : ((zs.zip vs).map fun p => (p.1.name, p.2)).length = zs.length := by simp [h1]
  have hpl : ((zs.zip vs).map zvOf).length = zs.length := by simp [h1]
  have at_ : ∀ (i : Nat) (p : ZV), ((zs.zip vs).map zvOf)[i]? = some p → ∃ ev, vs[i]? = some ev ∧ zs[i]? = some p.z ∧ ev = .slice p.a p.z.eras.length p.c := by
    intro i p hp
    rw [List.getElem?_map] at hp
    cases q : (zs.zip vs)[i]? with
    | none => rw [q] at hp; cases hp
    | some zv =>
      rw [q] at hp
      obtain ⟨z, ev⟩ := zv
      obtain ⟨a1, a2⟩ := List.getElem?_zip_eq_some.1 q
      obtain ⟨ea, ec, rfl⟩ := rd_shape (h3 i ev z a2 a1)
      simp [zvOf] at hp
      subst hp
      exact ⟨_, a2, a1, rfl⟩
  have ne_of : ∀ {i : Nat} {p : ZV}, ((zs.zip vs).map zvOf)[i]? = some p → (zs.zip vs).map (fun p => (p.1.name, p.2)) ≠ [] := by
    intro i p hp q
    have h0 := congrArg List.length q
    have h1' := (List.getElem?_eq_some_iff.1 hp).1
    rw [hl, List.length_nil] at h0
    rw [hpl, h0] at h1'
    exact absurd h1' (Nat.not_lt_zero _)
  have cell : ∀ (i : Nat) (p : ZV), ((zs.zip vs).map zvOf)[i]? = some p → ((zs.zip vs).map fun p => (p.1.name, p.2))[i]? = some (p.z.name, .slice p.a p.z.eras.length p.c) := by
    intro i p hp
    obtain ⟨ev, a1, a2, rfl⟩ := at_ i p hp
    rw [List.getElem?_map, (List.getElem?_zip_eq_some (z := (p.z, .slice p.a p.z.eras.length p.c))).2 ⟨a2, a1⟩]; rfl
  refine ⟨(zs.zip vs).map zvOf, ?_, ⟨a, cap, by rw [e1, hl, hpl], fun hn => ?_⟩, fun p hp => ?_, fun p hp => ?_⟩
  · rw [List.map_map]
    have : (ZV.z ∘ zvOf) = Prod.fst := by funext p; exact zvOf_z p
    rw [this]
    exact List.map_fst_zip (by omega)
  · obtain ⟨b, o, q1, q2, q3⟩ := e2 (by intro q; apply hn; have h0 := congrArg List.length q; rw [hl] at h0; exact List.length_eq_zero_iff.1 (by rw [hpl]; simpa using h0))
    exact ⟨b, o, q1, q2, fun i x hx k u hu => q3 i _ (cell i x hx) k u hu⟩
  · obtain ⟨i, hi⟩ := List.mem_iff_getElem?.1 hp
    obtain ⟨ev, a1, a2, rfl⟩ := at_ i p hi
    exact h3 i _ _ a1 a2
  · obtain ⟨i, hi⟩ := List.mem_iff_getElem?.1 hp
    obtain ⟨ev, a1, a2, rfl⟩ := at_ i p hi
    obtain ⟨b, o, q1, q2, q3⟩ := e2 (ne_of hi)
    obtain ⟨a', c', q4, q5⟩ := hc i p.z b o cap a2 (by rw [e1, q1, hl]) (.slice p.a p.z.eras.length p.c) (q3 i _ (cell i p hi) 1 _ rfl)
    simp at q4
    omega
theorem rdZv_below {w w' : World} {v : Value} {zs : List Sx.Zn} {ps : List ZV} (h : RdZv w v zs ps) (hb : Below w.heap.size w w') : RdZv w' v zs ps :=
  ⟨h.fst, rd_below h.rd hb, fun p hp => rd_below (h.eras p hp) hb, h.cap⟩
theorem rdZv_len {w : World} {v : Value} {zs : List Sx.Zn} {ps : List ZV} (h : RdZv w v zs ps) : ps.length = zs.length := by rw [← h.fst]; simp
theorem abC_own {β : Type} {J : β → World → Prop} (h : AllocJ J) {s : β} {W : World} (hs : J s W) (o : Obj) : J s (W.alloc o) := h s W o hs
set_option maxRecDepth 100000 in
set_option maxHeartbeats 4000000 in
theorem valsL_in (Kp : World → World → Prop) (n l Bo : Nat) (hn : 1 ≤ n) (xs : List Sx.Lk) (ra : Option Addr) (rcap : Nat) (W : World) (h : ∀ A, Kp W A → RdLinks A (.slice ra xs.length rcap) xs) (hxs : xs.length ≤ 10000)
    (cl : W.cell? ⟨Bo, 0, none⟩ = some (.slice ra xs.length rcap)) (hBo : Bo < W.heap.size) (hW : Kp W W) (hKt : ∀ A B C, Kp A B → Kp B C → Kp A C) (hKa : ∀ A o, Kp W A → Kp A (A.alloc o))
    (J Jx : List Sx.Lk → World → Prop) (hJ : AllocJ J)
    (hY : ∀ pre x W1, J pre W1 → pre ++ [x] <+: xs → YieldAt Fence.wide (n - 1) Tryz.prog l #[linkV x] W1 fun e W' => (e = .returned (.bool true) ∧ J (pre ++ [x]) W' ∧ Kp W1 W') ∨ (e = .returned (.bool false) ∧ Jx (pre ++ [x]) W'))
    (h0 : J [] W) :
    CallsIn Fence.wide n Tryz.prog 160 #[.func (.yield l) #[] #[], .pointer (some ⟨Bo, 0, none⟩)] W fun e W' => (∃ v, e = .returned v) ∧ ((∃ ys, ys = xs ∧ J ys W') ∨ (∃ pre, pre <+: xs ∧ Jx pre W')) := by
  have HY := hid hY
  have HJ := hid hJ
  have H := hid h
  have J0 : Hid (J (xs.take 0) W) := h0
  have B0 := hid hW
  have HT := hid hKt
  have HA := hid hKa
  clear hY hJ h h0 hW hKt hKa
  refine callsIn_of_wp Tryz.func160 rfl trivial ?_ rfl
  simp only [Tryz.ntmps160, List.size_toArray, List.length_cons, List.length_nil, Nat.reduceAdd, Nat.reduceSub, Array.replicate_succ, Array.replicate_zero, List.push_toArray, List.append_toArray, List.nil_append, List.cons_append]
  gi_wp2
  clear cl hBo
  gi_loopw [7] (fun a wr => ∃ i : Nat, i ≤ xs.length ∧ a = .int .i64 i ∧ Hid (J (xs.take i) wr) ∧ Hid (Kp W wr)) (fun a _ => xs.length - (intOf a).toNat)
  case atStart => exact ⟨0, Nat.zero_le _, rfl, J0, B0⟩
  case round =>
    clear J0 B0
    obtain ⟨i, hi, rfl, JS, B0⟩ := hrel
    by_cases hlt : i < xs.length
    case neg =>
      have e : xs.take i = xs := List.take_of_length_le (by omega)
      rw [e] at JS
      gi_wp2
      go_end0
      exact ⟨⟨_, rfl⟩, .inl ⟨_, rfl, JS.out⟩⟩
    obtain ⟨x, hx⟩ : ∃ x, xs[i]? = some x := ⟨_, List.getElem?_eq_getElem hlt⟩
    obtain ⟨rb, ro, rfl, hrb, hc⟩ := rd_elem (H.out wr B0.out) hx
    obtain ⟨c0, c1⟩ := rd_link hc
    have HL : Hid (xs.take (i + 1) = xs.take i ++ [x]) := Sx.take_snoc hx
    have PX : Hid (xs.take i ++ [x] <+: xs) := by show _ <+: _; rw [← HL.out]; exact List.take_prefix _ _
    have J2 : Hid (J (xs.take i) (wr.alloc (.cells #[strV x.to, strV x.name] 35))) := abC_own HJ.out JS.out _
    have B2 : Hid (Kp W (wr.alloc (.cells #[strV x.to, strV x.name] 35))) := HT.out _ _ _ B0.out (HA.out _ _ B0.out)
    clear hc hx
    obtain ⟨fn, tmps, assign, body, hy, hR⟩ := HY.out _ x (wr.alloc (.cells #[strV x.to, strV x.name] 35)) J2.out PX.out
    try dsimp only at hy
    have HR := hid hR
    clear hR
    gi_wp2
    refine HR.out.mono ?_
    clear HR hy JS B0 J2 hrb
    rintro e W3 (⟨rfl, hJ3, hk3⟩ | ⟨rfl, hJx3⟩)
    · have B3 : Hid (Kp W W3) := HT.out _ _ _ B2.out hk3
      have JN : Hid (J (xs.take (i + 1)) W3) := by show J _ _; rw [HL.out]; exact hJ3
      clear hJ3 hk3 B2
      gi_wp2
      go_roundw
      case rel => exact ⟨i + 1, by omega, by go_num, JN, B3⟩
      case measure => simp [intOf]; omega
    · gi_wp2
      refine bodyPost_ret (results_none rfl _ _ _) rfl ?_
      exact ⟨⟨_, rfl⟩, .inr ⟨_, PX.out, hJx3⟩⟩
theorem valsL_gen (Kp : World → World → Prop) (n Bo : Nat) (hn : 1 ≤ n) (xs : List Sx.Lk) (ra : Option Addr) (rcap : Nat) (w : World) (h : ∀ W A, Below w.heap.size w W → Kp W A → RdLinks A (.slice ra xs.length rcap) xs) (hxs : xs.length ≤ 10000)
    (cl : w.cell? ⟨Bo, 0, none⟩ = some (.slice ra xs.length rcap)) (hBo : Bo < w.heap.size) (hr : ∀ W, Below w.heap.size w W → Kp W W) (hKt : ∀ A B C, Kp A B → Kp B C → Kp A C) (hKa : ∀ W A o, Below w.heap.size w W → Kp W A → Kp A (A.alloc o)) :
    SeqD Fence.wide n Tryz.prog 160 #[.pointer (some ⟨Bo, 0, none⟩)] (fun x : Sx.Lk => #[linkV x]) Kp (fun ys => ys = xs) (fun pre => pre <+: xs) w :=
  fun l J Jx W hW1 hJ hJx hY h0 => valsL_in Kp n l Bo hn xs ra rcap W (fun A => h W A hW1) hxs ((hW1.cell (p := ⟨Bo, 0, none⟩) hBo).trans cl) (Nat.lt_of_lt_of_le hBo hW1.size) (hr W hW1) hKt (fun A o => hKa W A o hW1) J Jx hJ hY h0
theorem valsL_seq (n Bo : Nat) (hn : 1 ≤ n) (xs : List Sx.Lk) (ra : Option Addr) (rcap : Nat) (W0 w : World) (h : RdLinks W0 (.slice ra xs.length rcap) xs) (hxs : xs.length ≤ 10000)
    (cl : w.cell? ⟨Bo, 0, none⟩ = some (.slice ra xs.length rcap)) (hBo : Bo < w.heap.size) (hW : Below W0.heap.size W0 w) :
    SeqD Fence.wide n Tryz.prog 160 #[.pointer (some ⟨Bo, 0, none⟩)] (fun x : Sx.Lk => #[linkV x]) (Below W0.heap.size) (fun ys => ys = xs) (fun pre => pre <+: xs) w :=
  valsL_gen _ n Bo hn xs ra rcap w (fun W A h1 h2 => rd_below h (hW.trans ((h1.mono hW.size).trans h2))) hxs cl hBo (fun W _ => Below.refl _ _) (fun _ _ _ a b => a.trans b) (fun W A o h1 h2 => (Below.refl _ _).alloc (Nat.le_trans hW.size (Nat.le_trans h1.size h2.size)) _)
set_option maxRecDepth 100000 in
set_option maxHeartbeats 1000000 in
theorem valsL_any (ra : Option Addr) (n rcap : Nat) (w : World) :
    Calls Tryz.prog 104 #[.slice ra n rcap] w fun e w' => e = .returned (.func (.func 160) #[] #[.pointer (some ⟨w.heap.size, 0, none⟩)]) ∧ w' = w.alloc (.cells #[.slice ra n rcap] 24) := by
  go_enter Tryz.func104, Tryz.ntmps104
  go_wp2
  go_ret
  exact ⟨rfl, rfl⟩
set_option maxRecDepth 100000 in
set_option maxHeartbeats 4000000 in
theorem valsZ_in (Kp : World → World → Prop) (n l Bo : Nat) (hn : 1 ≤ n) (xs : List ZV) (ra : Option Addr) (rcap : Nat) (W : World) (h : ∀ A, Kp W A → Rd 2 zvCells A (.slice ra xs.length rcap) xs) (hxs : xs.length ≤ 10000)
    (cl : W.cell? ⟨Bo, 0, none⟩ = some (.slice ra xs.length rcap)) (hBo : Bo < W.heap.size) (hW : Kp W W) (hKt : ∀ A B C, Kp A B → Kp B C → Kp A C) (hKa : ∀ A o, Kp W A → Kp A (A.alloc o))
    (J Jx : List ZV → World → Prop) (hJ : AllocJ J)
    (hY : ∀ pre x W1, J pre W1 → pre ++ [x] <+: xs → YieldAt Fence.wide (n - 1) Tryz.prog l #[zvV x] W1 fun e W' => (e = .returned (.bool true) ∧ J (pre ++ [x]) W' ∧ Kp W1 W') ∨ (e = .returned (.bool false) ∧ Jx (pre ++ [x]) W'))
    (h0 : J [] W) :
    CallsIn Fence.wide n Tryz.prog 161 #[.func (.yield l) #[] #[], .pointer (some ⟨Bo, 0, none⟩)] W fun e W' => (∃ v, e = .returned v) ∧ ((∃ ys, ys = xs ∧ J ys W') ∨ (∃ pre, pre <+: xs ∧ Jx pre W')) := by
  have HY := hid hY
  have HJ := hid hJ
  have H := hid h
  have J0 : Hid (J (xs.take 0) W) := h0
  have B0 := hid hW
  have HT := hid hKt
  have HA := hid hKa
  clear hY hJ h h0 hW hKt hKa
  refine callsIn_of_wp Tryz.func161 rfl trivial ?_ rfl
  simp only [Tryz.ntmps161, List.size_toArray, List.length_cons, List.length_nil, Nat.reduceAdd, Nat.reduceSub, Array.replicate_succ, Array.replicate_zero, List.push_toArray, List.append_toArray, List.nil_append, List.cons_append]
  gi_wp2
  clear cl hBo
  gi_loopw [7] (fun a wr => ∃ i : Nat, i ≤ xs.length ∧ a = .int .i64 i ∧ Hid (J (xs.take i) wr) ∧ Hid (Kp W wr)) (fun a _ => xs.length - (intOf a).toNat)
  case atStart => exact ⟨0, Nat.zero_le _, rfl, J0, B0⟩
  case round =>
    clear J0 B0
    obtain ⟨i, hi, rfl, JS, B0⟩ := hrel
    by_cases hlt : i < xs.length
    case neg =>
      have e : xs.take i = xs := List.take_of_length_le (by omega)
      rw [e] at JS
      gi_wp2
      go_end0
      exact ⟨⟨_, rfl⟩, .inl ⟨_, rfl, JS.out⟩⟩
    obtain ⟨x, hx⟩ : ∃ x, xs[i]? = some x := ⟨_, List.getElem?_eq_getElem hlt⟩
    obtain ⟨rb, ro, rfl, hrb, hc⟩ := rd_elem (H.out wr B0.out) hx
    have c0 : wr.cell? ⟨rb, ro + i * 2, none⟩ = some (strV x.z.name) := hc 0 _ rfl
    have c1 : wr.cell? ⟨rb, ro + i * 2 + 1, none⟩ = some (.slice x.a x.z.eras.length x.c) := hc 1 _ rfl
    have HL : Hid (xs.take (i + 1) = xs.take i ++ [x]) := Sx.take_snoc hx
    have PX : Hid (xs.take i ++ [x] <+: xs) := by show _ <+: _; rw [← HL.out]; exact List.take_prefix _ _
    have J2 : Hid (J (xs.take i) (wr.alloc (.cells #[strV x.z.name, .slice x.a x.z.eras.length x.c] 44))) := abC_own HJ.out JS.out _
    have B2 : Hid (Kp W (wr.alloc (.cells #[strV x.z.name, .slice x.a x.z.eras.length x.c] 44))) := HT.out _ _ _ B0.out (HA.out _ _ B0.out)
    clear hc hx
    obtain ⟨fn, tmps, assign, body, hy, hR⟩ := HY.out _ x (wr.alloc (.cells #[strV x.z.name, .slice x.a x.z.eras.length x.c] 44)) J2.out PX.out
    try dsimp only at hy
    have HR := hid hR
    clear hR
    gi_wp2
    refine HR.out.mono ?_
    clear HR hy JS B0 J2 hrb
    rintro e W3 (⟨rfl, hJ3, hk3⟩ | ⟨rfl, hJx3⟩)
    · have B3 : Hid (Kp W W3) := HT.out _ _ _ B2.out hk3
      have JN : Hid (J (xs.take (i + 1)) W3) := by show J _ _; rw [HL.out]; exact hJ3
      clear hJ3 hk3 B2
      gi_wp2
      go_roundw
      case rel => exact ⟨i + 1, by omega, by go_num, JN, B3⟩
      case measure => simp [intOf]; omega
    · gi_wp2
      refine bodyPost_ret (results_none rfl _ _ _) rfl ?_
      exact ⟨⟨_, rfl⟩, .inr ⟨_, PX.out, hJx3⟩⟩
theorem valsZ_gen (Kp : World → World → Prop) (n Bo : Nat) (hn : 1 ≤ n) (xs : List ZV) (ra : Option Addr) (rcap : Nat) (w : World) (h : ∀ W A, Below w.heap.size w W → Kp W A → Rd 2 zvCells A (.slice ra xs.length rcap) xs) (hxs : xs.length ≤ 10000)
    (cl : w.cell? ⟨Bo, 0, none⟩ = some (.slice ra xs.length rcap)) (hBo : Bo < w.heap.size) (hr : ∀ W, Below w.heap.size w W → Kp W W) (hKt : ∀ A B C, Kp A B → Kp B C → Kp A C) (hKa : ∀ W A o, Below w.heap.size w W → Kp W A → Kp A (A.alloc o)) :
    SeqD Fence.wide n Tryz.prog 161 #[.pointer (some ⟨Bo, 0, none⟩)] (fun x : ZV => #[zvV x]) Kp (fun ys => ys = xs) (fun pre => pre <+: xs) w :=
  fun l J Jx W hW1 hJ hJx hY h0 => valsZ_in Kp n l Bo hn xs ra rcap W (fun A => h W A hW1) hxs ((hW1.cell (p := ⟨Bo, 0, none⟩) hBo).trans cl) (Nat.lt_of_lt_of_le hBo hW1.size) (hr W hW1) hKt (fun A o => hKa W A o hW1) J Jx hJ hY h0
theorem valsZ_seq (n Bo : Nat) (hn : 1 ≤ n) (xs : List ZV) (ra : Option Addr) (rcap : Nat) (W0 w : World) (h : Rd 2 zvCells W0 (.slice ra xs.length rcap) xs) (hxs : xs.length ≤ 10000)
    (cl : w.cell? ⟨Bo, 0, none⟩ = some (.slice ra xs.length rcap)) (hBo : Bo < w.heap.size) (hW : Below W0.heap.size W0 w) :
    SeqD Fence.wide n Tryz.prog 161 #[.pointer (some ⟨Bo, 0, none⟩)] (fun x : ZV => #[zvV x]) (Below W0.heap.size) (fun ys => ys = xs) (fun pre => pre <+: xs) w :=
  valsZ_gen _ n Bo hn xs ra rcap w (fun W A h1 h2 => rd_below h (hW.trans ((h1.mono hW.size).trans h2))) hxs cl hBo (fun W _ => Below.refl _ _) (fun _ _ _ a b => a.trans b) (fun W A o h1 h2 => (Below.refl _ _).alloc (Nat.le_trans hW.size (Nat.le_trans h1.size h2.size)) _)
set_option maxRecDepth 100000 in
set_option maxHeartbeats 1000000 in
theorem valsZ_any (ra : Option Addr) (n rcap : Nat) (w : World) :
    Calls Tryz.prog 107 #[.slice ra n rcap] w fun e w' => e = .returned (.func (.func 161) #[] #[.pointer (some ⟨w.heap.size, 0, none⟩)]) ∧ w' = w.alloc (.cells #[.slice ra n rcap] 23) := by
  go_enter Tryz.func107, Tryz.ntmps107
  go_wp2
  go_ret
  exact ⟨rfl, rfl⟩
set_option maxRecDepth 100000 in
set_option maxHeartbeats 4000000 in
theorem valsT_in (Kp : World → World → Prop) (n l Bo : Nat) (hn : 1 ≤ n) (xs : List Sx.Tm) (ra : Option Addr) (rcap : Nat) (W : World) (h : ∀ A, Kp W A → RdTimes A (.slice ra xs.length rcap) xs) (hxs : xs.length ≤ 10000)
    (cl : W.cell? ⟨Bo, 0, none⟩ = some (.slice ra xs.length rcap)) (hBo : Bo < W.heap.size) (hW : Kp W W) (hKt : ∀ A B C, Kp A B → Kp B C → Kp A C) (hKa : ∀ A o, Kp W A → Kp A (A.alloc o))
    (J Jx : List Sx.Tm → World → Prop) (hJ : AllocJ J)
    (hY : ∀ pre x W1, J pre W1 → pre ++ [x] <+: xs → YieldAt Fence.wide (n - 1) Tryz.prog l #[timeV x] W1 fun e W' => (e = .returned (.bool true) ∧ J (pre ++ [x]) W' ∧ Kp W1 W') ∨ (e = .returned (.bool false) ∧ Jx (pre ++ [x]) W'))
    (h0 : J [] W) :
    CallsIn Fence.wide n Tryz.prog 163 #[.func (.yield l) #[] #[], .pointer (some ⟨Bo, 0, none⟩)] W fun e W' => (∃ v, e = .returned v) ∧ ((∃ ys, ys = xs ∧ J ys W') ∨ (∃ pre, pre <+: xs ∧ Jx pre W')) := by
  have HY := hid hY
  have HJ := hid hJ
  have H := hid h
  have J0 : Hid (J (xs.take 0) W) := h0
  have B0 := hid hW
  have HT := hid hKt
  have HA := hid hKa
  clear hY hJ h h0 hW hKt hKa
  refine callsIn_of_wp Tryz.func163 rfl trivial ?_ rfl
  simp only [Tryz.ntmps163, List.size_toArray, List.length_cons, List.length_nil, Nat.reduceAdd, Nat.reduceSub, Array.replicate_succ, Array.replicate_zero, List.push_toArray, List.append_toArray, List.nil_append, List.cons_append]
  gi_wp2
  clear cl hBo
  gi_loopw [7] (fun a wr => ∃ i : Nat, i ≤ xs.length ∧ a = .int .i64 i ∧ Hid (J (xs.take i) wr) ∧ Hid (Kp W wr)) (fun a _ => xs.length - (intOf a).toNat)
  case atStart => exact ⟨0, Nat.zero_le _, rfl, J0, B0⟩
  case round =>
    clear J0 B0
    obtain ⟨i, hi, rfl, JS, B0⟩ := hrel
    by_cases hlt : i < xs.length
    case neg =>
      have e : xs.take i = xs := List.take_of_length_le (by omega)
      rw [e] at JS
      gi_wp2
      go_end0
      exact ⟨⟨_, rfl⟩, .inl ⟨_, rfl, JS.out⟩⟩
    obtain ⟨x, hx⟩ : ∃ x, xs[i]? = some x := ⟨_, List.getElem?_eq_getElem hlt⟩
    obtain ⟨rb, ro, rfl, hrb, hc⟩ := rd_elem (H.out wr B0.out) hx
    have c0 : wr.cell? ⟨rb, ro + i * 3, none⟩ = some (.int .i64 x.at_) := hc 0 _ rfl
    have c1 : wr.cell? ⟨rb, ro + i * 3 + 1, none⟩ = some (.int .i64 x.save) := hc 1 _ rfl
    have c2 : wr.cell? ⟨rb, ro + i * 3 + 2, none⟩ = some (strV x.letter) := hc 2 _ rfl
    have HL : Hid (xs.take (i + 1) = xs.take i ++ [x]) := Sx.take_snoc hx
    have PX : Hid (xs.take i ++ [x] <+: xs) := by show _ <+: _; rw [← HL.out]; exact List.take_prefix _ _
    have J2 : Hid (J (xs.take i) (wr.alloc (.cells #[.int .i64 x.at_, .int .i64 x.save, strV x.letter] 72))) := abC_own HJ.out JS.out _
    have B2 : Hid (Kp W (wr.alloc (.cells #[.int .i64 x.at_, .int .i64 x.save, strV x.letter] 72))) := HT.out _ _ _ B0.out (HA.out _ _ B0.out)
    clear hc hx
    obtain ⟨fn, tmps, assign, body, hy, hR⟩ := HY.out _ x (wr.alloc (.cells #[.int .i64 x.at_, .int .i64 x.save, strV x.letter] 72)) J2.out PX.out
    try dsimp only at hy
    have HR := hid hR
    clear hR
    gi_wp2
    refine HR.out.mono ?_
    clear HR hy JS B0 J2 hrb
    rintro e W3 (⟨rfl, hJ3, hk3⟩ | ⟨rfl, hJx3⟩)
    · have B3 : Hid (Kp W W3) := HT.out _ _ _ B2.out hk3
      have JN : Hid (J (xs.take (i + 1)) W3) := by show J _ _; rw [HL.out]; exact hJ3
      clear hJ3 hk3 B2
      gi_wp2
      go_roundw
      case rel => exact ⟨i + 1, by omega, by go_num, JN, B3⟩
      case measure => simp [intOf]; omega
    · gi_wp2
      refine bodyPost_ret (results_none rfl _ _ _) rfl ?_
      exact ⟨⟨_, rfl⟩, .inr ⟨_, PX.out, hJx3⟩⟩
theorem valsT_gen (Kp : World → World → Prop) (n Bo : Nat) (hn : 1 ≤ n) (xs : List Sx.Tm) (ra : Option Addr) (rcap : Nat) (w : World) (h : ∀ W A, Below w.heap.size w W → Kp W A → RdTimes A (.slice ra xs.length rcap) xs) (hxs : xs.length ≤ 10000)
    (cl : w.cell? ⟨Bo, 0, none⟩ = some (.slice ra xs.length rcap)) (hBo : Bo < w.heap.size) (hr : ∀ W, Below w.heap.size w W → Kp W W) (hKt : ∀ A B C, Kp A B → Kp B C → Kp A C) (hKa : ∀ W A o, Below w.heap.size w W → Kp W A → Kp A (A.alloc o)) :
    SeqD Fence.wide n Tryz.prog 163 #[.pointer (some ⟨Bo, 0, none⟩)] (fun x : Sx.Tm => #[timeV x]) Kp (fun ys => ys = xs) (fun pre => pre <+: xs) w :=
  fun l J Jx W hW1 hJ hJx hY h0 => valsT_in Kp n l Bo hn xs ra rcap W (fun A => h W A hW1) hxs ((hW1.cell (p := ⟨Bo, 0, none⟩) hBo).trans cl) (Nat.lt_of_lt_of_le hBo hW1.size) (hr W hW1) hKt (fun A o => hKa W A o hW1) J Jx hJ hY h0
theorem valsT_seq (n Bo : Nat) (hn : 1 ≤ n) (xs : List Sx.Tm) (ra : Option Addr) (rcap : Nat) (W0 w : World) (h : RdTimes W0 (.slice ra xs.length rcap) xs) (hxs : xs.length ≤ 10000)
    (cl : w.cell? ⟨Bo, 0, none⟩ = some (.slice ra xs.length rcap)) (hBo : Bo < w.heap.size) (hW : Below W0.heap.size W0 w) :
    SeqD Fence.wide n Tryz.prog 163 #[.pointer (some ⟨Bo, 0, none⟩)] (fun x : Sx.Tm => #[timeV x]) (Below W0.heap.size) (fun ys => ys = xs) (fun pre => pre <+: xs) w :=
  valsT_gen _ n Bo hn xs ra rcap w (fun W A h1 h2 => rd_below h (hW.trans ((h1.mono hW.size).trans h2))) hxs cl hBo (fun W _ => Below.refl _ _) (fun _ _ _ a b => a.trans b) (fun W A o h1 h2 => (Below.refl _ _).alloc (Nat.le_trans hW.size (Nat.le_trans h1.size h2.size)) _)
set_option maxRecDepth 100000 in
set_option maxHeartbeats 1000000 in
theorem valsT_any (ra : Option Addr) (n rcap : Nat) (w : World) :
    Calls Tryz.prog 113 #[.slice ra n rcap] w fun e w' => e = .returned (.func (.func 163) #[] #[.pointer (some ⟨w.heap.size, 0, none⟩)]) ∧ w' = w.alloc (.cells #[.slice ra n rcap] 68) := by
  go_enter Tryz.func113, Tryz.ntmps113
  go_wp2
  go_ret
  exact ⟨rfl, rfl⟩

/- eras of zones, zone by zone -/
def erasOf (ps : List ZV) : List Sx.Er := ps.flatMap fun p => p.z.eras
theorem erasOf_take {ps : List ZV} {i : Nat} {p : ZV} (h : ps[i]? = some p) : erasOf (ps.take (i + 1)) = erasOf (ps.take i) ++ p.z.eras := by
  rw [Sx.take_snoc h]; simp [erasOf]
theorem erasOf_part {ps : List ZV} {i k : Nat} {p : ZV} (h : ps[i]? = some p) (hk : k ≤ p.z.eras.length) : erasOf (ps.take i) ++ p.z.eras.take k <+: erasOf ps := by
  have e : ps = ps.take i ++ p :: ps.drop (i + 1) := by
    have := List.take_append_drop (i + 1) ps
    rw [Sx.take_snoc h] at this
    simpa using this.symm
  have e2 : erasOf ps = erasOf (ps.take i) ++ (p.z.eras ++ erasOf (ps.drop (i + 1))) := by
    conv => lhs; rw [e]
    simp [erasOf]
  rw [e2]
  refine (List.prefix_append_right_inj _).2 ?_
  exact (List.take_prefix _ _).trans (List.prefix_append _ _)
set_option maxRecDepth 100000 in
set_option maxHeartbeats 4000000 in
theorem eras1_in (Kp : World → World → Prop) (n l Bo : Nat) (hn : 1 ≤ n) (xs : List ZV) (zs : List Sx.Zn) (ra : Option Addr) (rcap : Nat) (W : World) (h : ∀ A, Kp W A → RdZv A (.slice ra xs.length rcap) zs xs) (hxs : xs.length ≤ 10000) (hes : ∀ p ∈ xs, p.z.eras.length ≤ 10000)
    (cl : W.cell? ⟨Bo, 0, none⟩ = some (.slice ra xs.length rcap)) (hBo : Bo < W.heap.size) (hW : Kp W W) (hKt : ∀ A B C, Kp A B → Kp B C → Kp A C) (hKa : ∀ A o, Kp W A → Kp A (A.alloc o))
    (J Jx : List Sx.Er → World → Prop) (hJ : AllocJ J)
    (hY : ∀ pre x W1, J pre W1 → pre ++ [x] <+: erasOf xs → YieldAt Fence.wide (n - 1) Tryz.prog l #[eraV x] W1 fun e W' => (e = .returned (.bool true) ∧ J (pre ++ [x]) W' ∧ Kp W1 W') ∨ (e = .returned (.bool false) ∧ Jx (pre ++ [x]) W'))
    (h0 : J [] W) :
    CallsIn Fence.wide n Tryz.prog 110 #[.func (.yield l) #[] #[], .pointer (some ⟨Bo, 0, none⟩)] W fun e W' => (∃ v, e = .returned v) ∧ ((∃ ys, ys = erasOf xs ∧ J ys W') ∨ (∃ pre, pre <+: erasOf xs ∧ Jx pre W')) := by
  have HY := hid hY
  have HJ := hid hJ
  have H := hid h
  have HES := hid hes
  have J0 : Hid (J (erasOf (xs.take 0)) W) := h0
  have B0 := hid hW
  have HTT := hid hKt
  have HAA := hid hKa
  clear hY hJ h h0 hW hes hKt hKa
  refine callsIn_of_wp Tryz.func110 rfl trivial ?_ rfl
  simp only [Tryz.ntmps110, List.size_toArray, List.length_cons, List.length_nil, Nat.reduceAdd, Nat.reduceSub, Array.replicate_succ, Array.replicate_zero, List.push_toArray, List.append_toArray, List.nil_append, List.cons_append]
  gi_wp2
  clear cl hBo
  gi_loopw [9] (fun a wr => ∃ i : Nat, i ≤ xs.length ∧ a = .int .i64 i ∧ Hid (J (erasOf (xs.take i)) wr) ∧ Hid (Kp W wr)) (fun a _ => xs.length - (intOf a).toNat)
  case atStart => exact ⟨0, Nat.zero_le _, rfl, J0, B0⟩
  case round =>
    clear J0 B0
    obtain ⟨i, hi, rfl, JS, B0⟩ := hrel
    by_cases hlt : i < xs.length
    case neg =>
      have e : xs.take i = xs := List.take_of_length_le (by omega)
      rw [e] at JS
      gi_wp2
      go_end0
      exact ⟨⟨_, rfl⟩, .inl ⟨_, rfl, JS.out⟩⟩
    obtain ⟨x, hx⟩ : ∃ x, xs[i]? = some x := ⟨_, List.getElem?_eq_getElem hlt⟩
    obtain ⟨rb, ro, rfl, hrb, hc⟩ := rd_elem (H.out wr B0.out).rd hx
    have c0 : wr.cell? ⟨rb, ro + i * 2, none⟩ = some (strV x.z.name) := hc 0 _ rfl
    have c1 : wr.cell? ⟨rb, ro + i * 2 + 1, none⟩ = some (.slice x.a x.z.eras.length x.c) := hc 1 _ rfl
    have HR0 : Hid (∀ A, Kp W A → RdEras A (.slice x.a x.z.eras.length x.c) x.z.eras) := fun A hA => (H.out A hA).eras x (List.mem_of_getElem? hx)
    have HX := hid hx
    have hel := HES.out x (List.mem_of_getElem? hx)
    have J2 : Hid (J (erasOf (xs.take i) ++ x.z.eras.take 0) (wr.alloc (.cells #[strV x.z.name, .slice x.a x.z.eras.length x.c] 44))) := by
      show J _ _; rw [List.take_zero, List.append_nil]; exact abC_own HJ.out JS.out _
    have B2 : Hid (Kp W (wr.alloc (.cells #[strV x.z.name, .slice x.a x.z.eras.length x.c] 44))) := HTT.out _ _ _ B0.out (HAA.out _ _ B0.out)
    have Z0 := ca_new wr [strV x.z.name, .slice x.a x.z.eras.length x.c] 44
    obtain ⟨z1, _⟩ := ca_at Z0 1 rfl
    have zs0 := Z0.1
    clear hc hx JS B0 Z0
    obtain ⟨L, hL⟩ : ∃ L, x.z.eras.length = L := ⟨_, rfl⟩
    obtain ⟨ea, hEA⟩ : ∃ ea, x.a = ea := ⟨_, rfl⟩
    have HL := hid hL
    rw [hL, hEA] at c1 HR0 J2 B2 z1 zs0
    rw [hL] at hel
    clear hL hEA
    gi_wp2
    obtain ⟨V, hV⟩ : ∃ V, wr.alloc (.cells #[strV x.z.name, .slice ea L x.c] 44) = V := ⟨_, rfl⟩
    rw [hV] at J2 B2 ⊢
    clear hV c0 c1 z1 zs0 hrb
    gi_loopw [16] (fun a wr => ∃ k : Nat, k ≤ L ∧ a = .int .i64 k ∧ Hid (J (erasOf (xs.take i) ++ x.z.eras.take k) wr) ∧ Hid (Kp W wr)) (fun a _ => L - (intOf a).toNat)
    case atStart => exact ⟨0, Nat.zero_le _, rfl, J2, B2⟩
    case round =>
      clear J2 B2
      obtain ⟨k, hk, rfl, JS, B0⟩ := hrel
      by_cases hlk : k < L
      case neg =>
        have JN : Hid (J (erasOf (xs.take (i + 1))) wr) := by
          show J _ _
          rw [erasOf_take HX.out]
          have e : x.z.eras.take k = x.z.eras := List.take_of_length_le (by have := HL.out; omega)
          have := JS.out
          rwa [e] at this
        clear JS
        gi_wp2
        go_roundw
        case rel => exact ⟨i + 1, by omega, by go_num, JN, B0⟩
        case measure => simp [intOf]; omega
      obtain ⟨y, hy⟩ : ∃ y, x.z.eras[k]? = some y := ⟨_, List.getElem?_eq_getElem (by have := HL.out; omega)⟩
      obtain ⟨eb, eo, rfl, heb, hc⟩ := rd_elem (HR0.out wr B0.out) hy
      obtain ⟨c0, c1, c2, c3, c4, c5, c6, c7, c8, c9⟩ := rd_era hc
      have HT : Hid (x.z.eras.take (k + 1) = x.z.eras.take k ++ [y]) := Sx.take_snoc hy
      have PX : Hid ((erasOf (xs.take i) ++ x.z.eras.take k) ++ [y] <+: erasOf xs) := by
        show _ <+: _
        rw [List.append_assoc, ← HT.out]
        exact erasOf_part HX.out (by have := HL.out; omega)
      have J3 : Hid (J (erasOf (xs.take i) ++ x.z.eras.take k) (wr.alloc (.cells #[.int .i64 y.shift, strV y.rules, .int .i64 y.save, strV y.format, .bool y.opn, .int .i64 y.uy, .int .i64 y.um, .int .i64 y.ud, .int .i64 y.uat, .int .i64 y.uclock] 67))) := abC_own HJ.out JS.out _
      have B3 : Hid (Kp W (wr.alloc (.cells #[.int .i64 y.shift, strV y.rules, .int .i64 y.save, strV y.format, .bool y.opn, .int .i64 y.uy, .int .i64 y.um, .int .i64 y.ud, .int .i64 y.uat, .int .i64 y.uclock] 67))) := HTT.out _ _ _ B0.out (HAA.out _ _ B0.out)
      clear hc hy
      obtain ⟨fn, tmps, assign, body, hy, hR⟩ := HY.out _ y (wr.alloc (.cells #[.int .i64 y.shift, strV y.rules, .int .i64 y.save, strV y.format, .bool y.opn, .int .i64 y.uy, .int .i64 y.um, .int .i64 y.ud, .int .i64 y.uat, .int .i64 y.uclock] 67)) J3.out PX.out
      try dsimp only at hy
      have HR := hid hR
      clear hR
      gi_wp2
      refine HR.out.mono ?_
      clear HR hy JS B0 J3 heb c0 c1 c2 c3 c4 c5 c6 c7 c8 c9
      rintro e W3 (⟨rfl, hJ3, hk3⟩ | ⟨rfl, hJx3⟩)
      · have B4 : Hid (Kp W W3) := HTT.out _ _ _ B3.out hk3
        have JN : Hid (J (erasOf (xs.take i) ++ x.z.eras.take (k + 1)) W3) := by show J _ _; rw [HT.out, ← List.append_assoc]; exact hJ3
        clear hJ3 hk3 B3
        gi_wp2
        go_roundw
        case rel => exact ⟨k + 1, by omega, by go_num, JN, B4⟩
        case measure => simp [intOf]; omega
      · gi_wp2
        refine bodyPost_ret (results_none rfl _ _ _) rfl ?_
        exact ⟨⟨_, rfl⟩, .inr ⟨_, PX.out, hJx3⟩⟩
theorem eras_gen (Kp : World → World → Prop) (n Bo : Nat) (hn : 1 ≤ n) (xs : List ZV) (zs : List Sx.Zn) (ra : Option Addr) (rcap : Nat) (w : World) (h : ∀ W A, Below w.heap.size w W → Kp W A → RdZv A (.slice ra xs.length rcap) zs xs) (hxs : xs.length ≤ 10000) (hes : ∀ p ∈ xs, p.z.eras.length ≤ 10000)
    (cl : w.cell? ⟨Bo, 0, none⟩ = some (.slice ra xs.length rcap)) (hBo : Bo < w.heap.size) (hr : ∀ W, Below w.heap.size w W → Kp W W) (hKt : ∀ A B C, Kp A B → Kp B C → Kp A C) (hKa : ∀ W A o, Below w.heap.size w W → Kp W A → Kp A (A.alloc o)) :
    SeqD Fence.wide n Tryz.prog 110 #[.pointer (some ⟨Bo, 0, none⟩)] (fun x : Sx.Er => #[eraV x]) Kp (fun ys => ys = erasOf xs) (fun pre => pre <+: erasOf xs) w :=
  fun l J Jx W hW1 hJ hJx hY h0 => eras1_in Kp n l Bo hn xs zs ra rcap W (fun A => h W A hW1) hxs hes ((hW1.cell (p := ⟨Bo, 0, none⟩) hBo).trans cl) (Nat.lt_of_lt_of_le hBo hW1.size) (hr W hW1) hKt (fun A o => hKa W A o hW1) J Jx hJ hY h0
theorem eras_seq (n Bo : Nat) (hn : 1 ≤ n) (xs : List ZV) (zs : List Sx.Zn) (ra : Option Addr) (rcap : Nat) (W0 w : World) (h : RdZv W0 (.slice ra xs.length rcap) zs xs) (hxs : xs.length ≤ 10000) (hes : ∀ p ∈ xs, p.z.eras.length ≤ 10000)
    (cl : w.cell? ⟨Bo, 0, none⟩ = some (.slice ra xs.length rcap)) (hBo : Bo < w.heap.size) (hW : Below W0.heap.size W0 w) :
    SeqD Fence.wide n Tryz.prog 110 #[.pointer (some ⟨Bo, 0, none⟩)] (fun x : Sx.Er => #[eraV x]) (Below W0.heap.size) (fun ys => ys = erasOf xs) (fun pre => pre <+: erasOf xs) w :=
  eras_gen _ n Bo hn xs zs ra rcap w (fun W A h1 h2 => rdZv_below h (hW.trans ((h1.mono hW.size).trans h2))) hxs hes cl hBo (fun W _ => Below.refl _ _) (fun _ _ _ a b => a.trans b) (fun W A o h1 h2 => (Below.refl _ _).alloc (Nat.le_trans hW.size (Nat.le_trans h1.size h2.size)) _)
set_option maxRecDepth 100000 in
set_option maxHeartbeats 1000000 in
theorem eras_any (ra : Option Addr) (n rcap : Nat) (w : World) :
    Calls Tryz.prog 49 #[.slice ra n rcap] w fun e w' => e = .returned (.func (.func 110) #[] #[.pointer (some ⟨w.heap.size, 0, none⟩)]) ∧ w' = w.alloc (.cells #[.slice ra n rcap] 23) := by
  go_enter Tryz.func49, Tryz.ntmps49
  go_wp2
  go_ret
  exact ⟨rfl, rfl⟩

/- names by which zones are found -/
def namesOf (zs : List Sx.Zn) (ls : List Sx.Lk) : List Tx.Bs := zs.map Sx.Zn.name ++ ls.map Sx.Lk.name
theorem names_z {zs : List Sx.Zn} {ls : List Sx.Lk} {i : Nat} : (zs.take i).map Sx.Zn.name <+: namesOf zs ls := by
  unfold namesOf
  rw [List.map_take]
  exact (List.take_prefix _ _).trans (List.prefix_append _ _)
theorem names_l {zs : List Sx.Zn} {ls : List Sx.Lk} {i : Nat} : zs.map Sx.Zn.name ++ (ls.take i).map Sx.Lk.name <+: namesOf zs ls := by
  unfold namesOf
  rw [List.map_take]
  exact (List.prefix_append_right_inj _).2 (List.take_prefix _ _)
def KpB (n₀ Bo : Nat) (A B : World) : Prop := Below n₀ A B ∧ (Bo < A.heap.size → B.heap[Bo]? = A.heap[Bo]?)
theorem kpb_t {n₀ Bo : Nat} {A B C : World} (h : KpB n₀ Bo A B) (k : KpB n₀ Bo B C) : KpB n₀ Bo A C :=
  ⟨h.1.trans k.1, fun q => (k.2 (Nat.lt_of_lt_of_le q h.1.size)).trans (h.2 q)⟩
theorem kpb_b {n₀ Bo : Nat} {w : World} (hn : n₀ ≤ w.heap.size) (hB : Bo < w.heap.size) (W : World) (l : Nat) (o o' : Obj) (a : w.heap.size ≤ l) (b : W.heap[l]? = some o) (c : o.isCells = false) (d : o.isWalk = false) : KpB n₀ Bo W (W.putObj l o') :=
  ⟨belowK_b hn W l o o' a b c d, fun _ => World.putObj_heap_other (by omega)⟩
theorem kpb_alloc {n₀ Bo : Nat} {W wr W3 : World} {o : Obj} (h : KpB n₀ Bo (wr.alloc o) W3) (hB : Bo < W.heap.size) (k : wr.heap[Bo]? = W.heap[Bo]? ∧ W.heap.size ≤ wr.heap.size) : W3.heap[Bo]? = W.heap[Bo]? ∧ W.heap.size ≤ W3.heap.size := by
  have l : Bo < wr.heap.size := Nat.lt_of_lt_of_le hB k.2
  have s := h.1.size
  simp at s
  exact ⟨(h.2 (by simp; omega)).trans ((Below.heap_alloc _ _ _ l).trans k.1), by omega⟩
set_option maxRecDepth 100000 in
set_option maxHeartbeats 4000000 in
theorem names1_in (n l Bo : Nat) (hn : 1 ≤ n) (xs : List ZV) (zs : List Sx.Zn) (ls : List Sx.Lk) (za la : Option Addr) (zcap lcap : Nat) (W0 W : World) (h : RdZv W0 (.slice za xs.length zcap) zs xs) (hl : RdLinks W0 (.slice la ls.length lcap) ls) (hxs : xs.length ≤ 10000) (hls : ls.length ≤ 10000)
    (c1 : W.cell? ⟨Bo, 1, none⟩ = some (.slice za xs.length zcap)) (c2 : W.cell? ⟨Bo, 2, none⟩ = some (.slice la ls.length lcap)) (hBo : Bo < W.heap.size) (hW : Below W0.heap.size W0 W)
    (J Jx : List Tx.Bs → World → Prop) (hJ : AllocJ J)
    (hY : ∀ pre x W1, J pre W1 → pre ++ [x] <+: namesOf zs ls → YieldAt Fence.wide (n - 1) Tryz.prog l #[strV x] W1 fun e W' => (e = .returned (.bool true) ∧ J (pre ++ [x]) W' ∧ KpB W0.heap.size Bo W1 W') ∨ (e = .returned (.bool false) ∧ Jx (pre ++ [x]) W'))
    (h0 : J [] W) :
    CallsIn Fence.wide n Tryz.prog 157 #[.func (.yield l) #[] #[], .pointer (some ⟨Bo, 0, none⟩)] W fun e W' => (∃ v, e = .returned v) ∧ ((∃ ys, ys = namesOf zs ls ∧ J ys W') ∨ (∃ pre, pre <+: namesOf zs ls ∧ Jx pre W')) := by
  have HY := hid hY
  have HJ := hid hJ
  have H := hid h
  have HLK := hid hl
  have C2 := hid c2
  have HB := hid hBo
  have HZL := hid (rdZv_len h)
  have HF := hid h.fst
  have J0 : Hid (J ((zs.take 0).map Sx.Zn.name) W) := h0
  have B0 := hid hW
  have hBW : Bo < W.heap.size := hBo
  clear hY hJ h h0 hW hl c2 hBo
  refine callsIn_of_wp Tryz.func157 rfl trivial ?_ rfl
  simp only [Tryz.ntmps157, List.size_toArray, List.length_cons, List.length_nil, Nat.reduceAdd, Nat.reduceSub, Array.replicate_succ, Array.replicate_zero, List.push_toArray, List.append_toArray, List.nil_append, List.cons_append]
  gi_wp2
  clear c1 hBW
  gi_loopw [10] (fun a wr => ∃ i : Nat, i ≤ xs.length ∧ a = .int .i64 i ∧ Hid (J ((zs.take i).map Sx.Zn.name) wr) ∧ Hid (Below W0.heap.size W0 wr) ∧ Hid (wr.heap[Bo]? = W.heap[Bo]? ∧ W.heap.size ≤ wr.heap.size)) (fun a _ => xs.length - (intOf a).toNat)
  case atStart => exact ⟨0, Nat.zero_le _, rfl, J0, B0, ⟨rfl, Nat.le_refl _⟩⟩
  case round =>
    clear J0 B0
    obtain ⟨i, hi, rfl, JS, B0, K0⟩ := hrel
    by_cases hlt : i < xs.length
    case pos =>
      obtain ⟨x, hx⟩ : ∃ x, xs[i]? = some x := ⟨_, List.getElem?_eq_getElem hlt⟩
      have hzx : zs[i]? = some x.z := by rw [← HF.out, List.getElem?_map, hx]; rfl
      obtain ⟨rb, ro, rfl, hrb, hc⟩ := rd_elem (rd_below H.out.rd B0.out) hx
      obtain ⟨zn, ea, ec⟩ := x
      dsimp only at hzx
      have c0 : wr.cell? ⟨rb, ro + i * 2, none⟩ = some (strV zn.name) := hc 0 _ rfl
      have c1 : wr.cell? ⟨rb, ro + i * 2 + 1, none⟩ = some (.slice ea zn.eras.length ec) := hc 1 _ rfl
      have HT : Hid ((zs.take (i + 1)).map Sx.Zn.name = (zs.take i).map Sx.Zn.name ++ [zn.name]) := by show _ = _; rw [Sx.take_snoc hzx]; simp
      have PX : Hid ((zs.take i).map Sx.Zn.name ++ [zn.name] <+: namesOf zs ls) := by show _ <+: _; rw [← HT.out]; exact names_z
      have J2 : Hid (J ((zs.take i).map Sx.Zn.name) (wr.alloc (.cells #[strV zn.name, .slice ea zn.eras.length ec] 44))) := abC_own HJ.out JS.out _
      have B2 := hid (B0.out.alloc B0.out.size (.cells #[strV zn.name, .slice ea zn.eras.length ec] 44))
      clear hc hx hzx
      obtain ⟨fn, tmps, assign, body, hy, hR⟩ := HY.out _ zn.name (wr.alloc (.cells #[strV zn.name, .slice ea zn.eras.length ec] 44)) J2.out PX.out
      try dsimp only at hy
      have HR := hid hR
      clear hR
      gi_wp2
      refine HR.out.mono ?_
      clear HR hy JS B0 J2 hrb
      rintro e W3 (⟨rfl, hJ3, hk3⟩ | ⟨rfl, hJx3⟩)
      · have B3 := hid (B2.out.trans hk3.1)
        have K3 : Hid (W3.heap[Bo]? = W.heap[Bo]? ∧ W.heap.size ≤ W3.heap.size) := kpb_alloc hk3 HB.out K0.out
        have JN : Hid (J ((zs.take (i + 1)).map Sx.Zn.name) W3) := by show J _ _; rw [HT.out]; exact hJ3
        clear hJ3 hk3 B2
        gi_wp2
        go_roundw
        case rel => exact ⟨i + 1, by omega, by go_num, JN, B3, K3⟩
        case measure => simp [intOf]; omega
      · gi_wp2
        refine bodyPost_ret (results_none rfl _ _ _) rfl ?_
        exact ⟨⟨_, rfl⟩, .inr ⟨_, PX.out, hJx3⟩⟩
    case neg =>
      have e : zs.take i = zs := List.take_of_length_le (by have := HZL.out; omega)
      rw [e] at JS
      have J5 : Hid (J (zs.map Sx.Zn.name ++ (ls.take 0).map Sx.Lk.name) wr) := by show J _ _; rw [List.take_zero, List.map_nil, List.append_nil]; exact JS.out
      have c2 := (World.cell?_of_block (w := W) (a := ⟨Bo, 2, none⟩) K0.out.1).trans C2.out
      have hBr : Bo < wr.heap.size := Nat.lt_of_lt_of_le HB.out K0.out.2
      clear JS e
      gi_wp2
      clear c2 hBr
      gi_loopw [23] (fun a wr => ∃ i : Nat, i ≤ ls.length ∧ a = .int .i64 i ∧ Hid (J (zs.map Sx.Zn.name ++ (ls.take i).map Sx.Lk.name) wr) ∧ Hid (Below W0.heap.size W0 wr) ∧ Hid (wr.heap[Bo]? = W.heap[Bo]? ∧ W.heap.size ≤ wr.heap.size)) (fun a _ => ls.length - (intOf a).toNat)
      case atStart => exact ⟨0, Nat.zero_le _, rfl, J5, B0, K0⟩
      case round =>
        clear J5 B0 K0
        obtain ⟨j, hj, rfl, JS, B0, K0⟩ := hrel
        by_cases hlj : j < ls.length
        case neg =>
          have e : ls.take j = ls := List.take_of_length_le (by omega)
          rw [e] at JS
          gi_wp2
          go_end0
          exact ⟨⟨_, rfl⟩, .inl ⟨_, rfl, JS.out⟩⟩
        obtain ⟨x, hx⟩ : ∃ x, ls[j]? = some x := ⟨_, List.getElem?_eq_getElem hlj⟩
        obtain ⟨rb, ro, rfl, hrb, hc⟩ := rd_elem (rd_below HLK.out B0.out) hx
        obtain ⟨c0, c1⟩ := rd_link hc
        have HT : Hid ((ls.take (j + 1)).map Sx.Lk.name = (ls.take j).map Sx.Lk.name ++ [x.name]) := by show _ = _; rw [Sx.take_snoc hx]; simp
        have PX : Hid ((zs.map Sx.Zn.name ++ (ls.take j).map Sx.Lk.name) ++ [x.name] <+: namesOf zs ls) := by show _ <+: _; rw [List.append_assoc, ← HT.out]; exact names_l
        have J2 : Hid (J (zs.map Sx.Zn.name ++ (ls.take j).map Sx.Lk.name) (wr.alloc (.cells #[strV x.to, strV x.name] 35))) := abC_own HJ.out JS.out _
        have B2 := hid (B0.out.alloc B0.out.size (.cells #[strV x.to, strV x.name] 35))
        clear hc hx
        obtain ⟨fn, tmps, assign, body, hy, hR⟩ := HY.out _ x.name (wr.alloc (.cells #[strV x.to, strV x.name] 35)) J2.out PX.out
        try dsimp only at hy
        have HR := hid hR
        clear hR
        gi_wp2
        refine HR.out.mono ?_
        clear HR hy JS B0 J2 hrb
        rintro e W3 (⟨rfl, hJ3, hk3⟩ | ⟨rfl, hJx3⟩)
        · have B3 := hid (B2.out.trans hk3.1)
          have K3 : Hid (W3.heap[Bo]? = W.heap[Bo]? ∧ W.heap.size ≤ W3.heap.size) := kpb_alloc hk3 HB.out K0.out
          have JN : Hid (J (zs.map Sx.Zn.name ++ (ls.take (j + 1)).map Sx.Lk.name) W3) := by show J _ _; rw [HT.out, ← List.append_assoc]; exact hJ3
          clear hJ3 hk3 B2
          gi_wp2
          go_roundw
          case rel => exact ⟨j + 1, by omega, by go_num, JN, B3, K3⟩
          case measure => simp [intOf]; omega
        · gi_wp2
          refine bodyPost_ret (results_none rfl _ _ _) rfl ?_
          exact ⟨⟨_, rfl⟩, .inr ⟨_, PX.out, hJx3⟩⟩
theorem names_seq (n Bo : Nat) (hn : 1 ≤ n) (xs : List ZV) (zs : List Sx.Zn) (ls : List Sx.Lk) (za la : Option Addr) (zcap lcap : Nat) (W0 w : World) (h : RdZv W0 (.slice za xs.length zcap) zs xs) (hl : RdLinks W0 (.slice la ls.length lcap) ls) (hxs : xs.length ≤ 10000) (hls : ls.length ≤ 10000)
    (c1 : w.cell? ⟨Bo, 1, none⟩ = some (.slice za xs.length zcap)) (c2 : w.cell? ⟨Bo, 2, none⟩ = some (.slice la ls.length lcap)) (hBo : Bo < w.heap.size) (hW : Below W0.heap.size W0 w) :
    SeqD Fence.wide n Tryz.prog 157 #[.pointer (some ⟨Bo, 0, none⟩)] (fun x : Tx.Bs => #[strV x]) (KpB W0.heap.size Bo) (fun ys => ys = namesOf zs ls) (fun pre => pre <+: namesOf zs ls) w :=
  fun l J Jx W hW1 hJ hJx hY h0 => names1_in n l Bo hn xs zs ls za la zcap lcap W0 W h hl hxs hls ((hW1.cell (p := ⟨Bo, 1, none⟩) hBo).trans c1) ((hW1.cell (p := ⟨Bo, 2, none⟩) hBo).trans c2) (Nat.lt_of_lt_of_le hBo hW1.size) (hW.trans (hW1.mono hW.size)) J Jx hJ hY h0
set_option maxRecDepth 100000 in
set_option maxHeartbeats 1000000 in
theorem names_any (ra za la : Option Addr) (n1 n2 n3 c1 c2 c3 : Nat) (w : World) :
    Calls Tryz.prog 96 #[.agg #[.slice ra n1 c1, .slice za n2 c2, .slice la n3 c3]] w fun e w' => e = .returned (.func (.func 157) #[] #[.pointer (some ⟨w.heap.size, 0, none⟩)]) ∧ w' = w.alloc (.cells #[.slice ra n1 c1, .slice za n2 c2, .slice la n3 c3] 26) := by
  go_enter Tryz.func96, Tryz.ntmps96
  go_wp2
  go_ret
  exact ⟨rfl, rfl⟩
end Go.Proofs.YtkhlkohlccndgaaGreat
namespace Go.Proofs.YtkhlkohlccndgaaGreat
open Go.RowKit
set_option linter.unusedVariables false
set_option linter.unusedSimpArgs false

theorem operIn_of {l n : Nat} {P : Program} {o : Oper} {a : Act} {w : World} {K : Act → World → Prop} {Q : Exit → Act → World → Prop} (hd : ∀ c, o.op ≠ .defer c) (h : o.wp P a w K Q) : o.wpIn (Fence.wide.inRound l) n P a w K Q := by
  unfold Oper.wp at h
  unfold Oper.wpIn
  refine ⟨fun _ _ => trivial, ?_⟩
  rw [Oper.semAt_plain _ _ _ hd]
  generalize (execOp a.eval o).run P w = r at h ⊢
  cases r with
  | ok n' w' =>
    cases n' with
    | value v => exact h
    | skip => exact h
    | defer d => exact h
    | enter f args => exact ⟨fun q => (by cases q), CallsIn.inRound l (callsIn_wide.2 h)⟩
    | row row args =>
      refine ⟨fun q => (by cases q), fun c cs _ => ?_⟩
      obtain ⟨v, w2, r, s⟩ := h c cs
      exact ⟨v, w2, r, stepsIn_wide.2 s⟩
    | _ => exact h.elim
  | halt x w' => cases x <;> first | exact h | exact h.elim
theorem anyIn_of {l n : Nat} {P : Program} {md : Region.Mode} {ops : Array Oper} {Q : Exit → Act → World → Prop} (hd : ∀ (i : Nat) (o : Oper), ops[i]? = some o → ∀ c, o.op ≠ Op.defer c) (hQ : ¬ LetsOut Q) :
    ∀ (fuel : Nat) (listed : Array Bool) (a : Act) (w : World), wpAny P md ops Q fuel listed a w → wpAnyIn (Fence.wide.inRound l) n P md ops Q fuel listed a w
  | 0, _, _, _, h => h
  | fuel + 1, listed, a, w, h => by
    refine ⟨h.1, fun i hi => ?_⟩
    have h2 := h.2 i hi
    unfold wpOp at h2
    unfold wpOpIn
    cases ho : ops[i]? with
    | none =>
      simp only [ho] at h2 ⊢
      exact anyIn_of hd hQ fuel _ _ _ h2
    | some o =>
      simp only [ho] at h2 ⊢
      cases q : Region.wanted o (yielded ops a.tmps) with
      | true =>
        rw [q, if_pos rfl] at h2
        rw [if_pos rfl]
        rcases h2 with h3 | h3
        · exact Oper.wpIn_mono (fun a' w' h' => anyIn_of hd hQ fuel _ a' w' h') (operIn_of (hd i o ho) h3)
        · exact absurd h3.2 hQ
      | false =>
        rw [q, if_neg (by decide)] at h2
        rw [if_neg (by decide)]
        exact ⟨fun _ _ => trivial, anyIn_of hd hQ fuel _ _ _ h2⟩
/- the door: a drawing region in a round, by the held walk -/
theorem regionIn_held {l n : Nat} {P : Program} {id : Nat} {ops : Array Oper} {Q : Exit → Act → World → Prop} {a : Act} {w : World} {S : World → Prop} (hm : P.follows .mixedOrders = true)
    (hd : ops.all (fun (o : Oper) => match o.op with | Op.defer _ => false | _ => true) = true) (hQ : ¬ LetsOut Q) (hS : S w.drew)
    (h : S w.drew → wpAnyH P .any ops Q S ops.size (Array.replicate ops.size false) a w.drew) : (Code.region id ops true).wpIn (Fence.wide.inRound l) n P Q a w := by
  refine wpIn_region_any hm (anyIn_of ?_ hQ _ _ _ _ (wpAny_of_held _ _ _ _ (h hS)))
  intro i o ho c hc
  obtain ⟨hi, rfl⟩ := Array.getElem?_eq_some_iff.1 ho
  have := (Array.all_eq_true.1 hd) i hi
  rw [hc] at this
  cases this
/- append where there is room: the slice keeps its block -/
theorem step_append_fits {P : Program} {ops : Array Oper} {o : Oper} {a : Act} {w : World} {K : Act → World → Prop} {Q : Exit → Act → World → Prop} {E : Prop}
    (hg : o.guard = none) (s x : Operand) (t : TypeId) (hop : o.op = Op.call { callee := Callee.builtin Builtin.append, args := #[s, x], argTypes := #[t, t] })
    (base : Nat) (e : TypeId) (i : TypeInfo) (size : Nat) (h1 : P.underlying t = some (.slice e)) (h2 : P.info? e = some i) (h4 : i.size = size)
    (g k cap : Nat) (xs : List Value) (hs : a.eval s = .slice (some ⟨g, 0, none⟩) k cap) (hown : w.ownsRow base e size (.slice (some ⟨g, 0, none⟩) k cap) k xs)
    (ad : Addr) (m c : Nat) (news : List Value) (hx : a.eval x = .slice (some ad) m c) (hn : news.length = m * size) (hc : ∀ j u, news[j]? = some u → w.cell? (ad.add j) = some u) (h1c : ∀ u ∈ news, u.oneCell' = true) (b1 : k + m ≤ cap)
    (hK : ∀ w', w'.ownsRow base e size (.slice (some ⟨g, 0, none⟩) (k + m) cap) (k + m) (xs ++ news) → w.grownBy w' (some g) → K (a.put o.dst (.slice (some ⟨g, 0, none⟩) (k + m) cap)) w') :
    if Region.wanted o (yielded ops a.tmps) = true then Oper.wp P o a w K Q else E := by
  have hw : Region.wanted o (yielded ops a.tmps) = true := by simp [Region.wanted, hg]
  rw [if_pos hw]
  obtain ⟨w', hrun, r1, r2⟩ := run_append_fits (P := P) w base t o.type e i size h1 h2 h4 g k cap xs hown ad m c news hn hc h1c b1
  unfold Oper.wp
  simp [execOp, hop, resolve, invoke, builtin, hs, hx, hrun, Result.andThen]
  exact hK w' r1 r2
end Go.Proofs.YtkhlkohlccndgaaGreat
