/- The contract of the program's local.shifts: a set of how far clocks were ever ahead. -/
import Derived.Test.YtnmdfbbfgiaijaaPrE
import Derived.Maps.OwnSet
import Derived.Maps.RangeWalk
import Derived.WalkArith
namespace Go.Proofs.Ytnmdfbbfgiaijaa
open Go.RowKit Go.Maps
set_option linter.unusedVariables false
set_option linter.unusedSimpArgs false

theorem lawInt : Keyed Try.prog 3 := int_keyed Try.underlying3
def shiftsTo (f : Tb.Lc) (ch : List Tb.Cg) (k : Nat) : List Int := f.shift :: (ch.take k).map (·.lc.shift)
def shiftSet (l : List Int) : DataW Unit := setOf (.agg []) (l.map (Lit.int .i64))
theorem shiftSet_snoc (l : List Int) (x : Int) : shiftSet (l ++ [x]) = (shiftSet l).put (.int .i64 x) (.agg []) := by
  unfold shiftSet; rw [List.map_append]; exact setOf_snoc _ _ _
theorem shiftSet_one (x : Int) : (DataW.map ([] : List (Lit × DataW Unit))).put (.int .i64 x) (.agg []) = shiftSet [x] := by simp [shiftSet, setOf]
theorem anyInt (x : Int) : ∀ l : List Int, l.any ((fun y : Lit => y.sameKey (.int .i64 x)) ∘ Lit.int .i64) = l.contains x
  | [] => rfl
  | a :: r => by
    rw [List.any_cons, List.contains_cons, anyInt x r]
    congr 1
    show decide (IntKind.i64 = IntKind.i64 ∧ a = x) = (x == a)
    by_cases e : a = x
    · subst e; simp
    · have e' : ¬ x = a := fun h => e h.symm
      simp [e, e']
theorem has_shiftSet (l : List Int) (x : Int) : Maps.has (shiftSet l) (.int .i64 x) = l.contains x := by
  unfold shiftSet
  rw [has_setOf _ _ _ (fun y hy => by obtain ⟨_, _, rfl⟩ := List.mem_map.1 hy; trivial), List.any_map]
  exact anyInt x _
theorem shiftsTo_succ {f : Tb.Lc} {ch : List Tb.Cg} {k : Nat} {c : Tb.Cg} (h : ch[k]? = some c) : shiftsTo f ch (k + 1) = shiftsTo f ch k ++ [c.lc.shift] := by
  obtain ⟨hk, e⟩ := List.getElem?_eq_some_iff.1 h
  unfold shiftsTo
  rw [List.take_add_one]
  simp [h]
/- a key and its element put into a map that the call itself makes, where the map is written out -/
theorem wpList_insert_own {H : Type} {P : Program} (w : World) {ops : Array Oper} {rest : List Oper} {o : Oper} {a : Act} {Q : Exit → Act → World → Prop}
    (hg : o.guard = none) (m x v : Operand) (t : TypeId) (hop : o.op = Op.insert t m x v)
    (k e : TypeId) (K : Keyed P k) (ht : P.underlying t = some (.map k e)) (R : Value → Option (DataW H × List MemPlace)) (b n : Nat) (D : DataW H)
    (hm : a.eval m = .map (some b)) (hown : w.ownsMap P k R b n D) (hn : n < maxLen) (key val : Value) (kl : Lit) (hx : a.eval x = key) (hv : a.eval v = val) (hkey : keyOf P k key = some kl)
    (d : DataW H) (ps : List MemPlace) (hval : R val = some (d, ps))
    (hK : ∀ w', w'.ownsMap P k R b (n + 1) (D.put kl d) → w.grownBy w' (some b) → wpList P ops Q rest (a.put o.dst undef) w') :
    wpList P ops Q (o :: rest) a w := by
  refine wpList_plain hg fun K' hK' => ?_
  obtain ⟨w', hrun, r1, r2⟩ := hown.update K ht hn hkey hval
  unfold Oper.wp
  simp [execOp, hop, hm, hx, hv, hrun, Result.andThen]
  exact hK' _ _ (hK w' r1 r2)

set_option maxRecDepth 100000 in
set_option maxHeartbeats 4000000 in
theorem shifts_any (f : Tb.Lc) (ch : List Tb.Cg) (a : Option Addr) (cap : Nat) (w : World) (h : RdCh w (.slice a ch.length cap) ch) (hl : ch.length ≤ 1000) (hf : -75600 ≤ f.shift ∧ f.shift ≤ 75600) (hc : ∀ c ∈ ch, -75600 ≤ c.lc.shift ∧ c.lc.shift ≤ 75600) :
    Calls Try.prog 39 #[tbV f (.slice a ch.length cap)] w fun e w' => e = .returned (.map (some (w.heap.size + 1))) ∧ w'.ownsMap Try.prog 3 (unitElem (H := Unit)) (w.heap.size + 1) (ch.length + 1) (shiftSet (shiftsTo f ch ch.length)) ∧ Below w.heap.size w w' := by
  have hmm := @run_makeMap Try.prog
  have H := hid h
  have HC := hid hc
  clear h hc
  have hown0 : ((w.alloc (.cells (tbL f (.slice a ch.length cap)).toArray 26)).alloc (.map #[] 0)).ownsMap Try.prog 3 (unitElem (H := Unit)) (w.heap.size + 1) 0 (.map []) := by
    have := World.ownsMap_made (w.alloc (.cells (tbL f (.slice a ch.length cap)).toArray 26)) Try.prog 3 (unitElem (H := Unit))
    simpa using this
  have HO := hid hown0
  have X0 := hid (ca_alloc (ca_new w (tbL f (.slice a ch.length cap)) 26) (.map #[] 0))
  have B0 : Hid (Below w.heap.size w ((w.alloc (.cells (tbL f (.slice a ch.length cap)).toArray 26)).alloc (.map #[] 0))) := ((Below.refl _ _).alloc (Nat.le_refl _) _).alloc (by simp) _
  have hkey0 : keyOf Try.prog 3 (.int .i64 f.shift) = some (.int .i64 f.shift) := keyOf_int_mk Try.underlying3 (WalkArith.wf_i64 (by omega))
  have HK0 := hid hkey0
  clear hown0 hkey0 hf
  go_enter Try.func39, Try.ntmps39
  go_wp2_with (first
    | (refine wpList_insert_own _ rfl _ _ _ 64 rfl 3 69 lawInt Try.underlying64 (unitElem (H := Unit)) (w.heap.size + 1) 0 (.map []) rfl HO.out (by unfold maxLen; omega) _ _ _ rfl rfl HK0.out _ [] unitElem_mk ?_; intro w1 hown1 hgrow1; have X1 := hid (ca_grown X0.out hgrow1 (by omega)); obtain ⟨x3, f3⟩ := ca_at X1.out 3 rfl; have sx := X1.out.1)
    | go_in)
  have B1 : Hid (Below w.heap.size w w1) := B0.out.grown hgrow1 B0.out.size (fun j hj => by cases hj; omega)
  have O1 : Hid (w1.ownsMap Try.prog 3 (unitElem (H := Unit)) (w.heap.size + 1) (0 + 1) (shiftSet (shiftsTo f ch 0))) := by
    show World.ownsMap _ _ _ _ _ _ _
    have e : shiftsTo f ch 0 = [f.shift] := by simp [shiftsTo]
    rw [e, ← shiftSet_one]
    exact hown1
  clear hown1 hgrow1 x3 f3 sx X0 B0 HO HK0 hmm
  go_loopw [15] (fun b wr => ∃ i : Nat, i ≤ ch.length ∧ b = .int .i64 i ∧ Hid (wr.ownsMap Try.prog 3 (unitElem (H := Unit)) (w.heap.size + 1) (i + 1) (shiftSet (shiftsTo f ch i))) ∧ Hid (Below w.heap.size w wr) ∧ Hid (CellsAt wr w.heap.size (tbL f (.slice a ch.length cap)))) (fun b _ => ch.length - (intOf b).toNat)
  case atStart => exact ⟨0, by omega, rfl, O1, B1, X1⟩
  case round =>
    clear O1 B1 X1
    obtain ⟨i, hi, rfl, O0, B0, X0⟩ := hrel
    by_cases hlt : i < ch.length
    case neg =>
      obtain rfl : i = ch.length := by omega
      go_wp2
      go_ret
      exact ⟨rfl, O0.out, B0.out⟩
    obtain ⟨c, hcc⟩ : ∃ c, ch[i]? = some c := ⟨_, List.getElem?_eq_getElem hlt⟩
    obtain ⟨bb, bo, bcap, e, hbb, c0, c1, c2, c3⟩ := rdCh_at (rdCh_below H.out B0.out) hcc
    simp only [Value.slice.injEq] at e
    obtain ⟨rfl, _, rfl⟩ := e
    have hb := HC.out c (List.mem_of_getElem? hcc)
    have hkey : keyOf Try.prog 3 (.int .i64 c.lc.shift) = some (.int .i64 c.lc.shift) := keyOf_int_mk Try.underlying3 (WalkArith.wf_i64 (by omega))
    have HK := hid hkey
    have hS := shiftsTo_succ (f := f) hcc
    have HS := hid hS
    have sx := X0.out.1
    have sb := B0.out.size
    have so := O0.out.lt
    clear hb hkey hcc hS
    go_wp2_with (first
      | (at_mapUpdate; refine wpList_mapUpdate_own _ rfl _ _ _ 64 rfl 3 69 lawInt Try.underlying64 (unitElem (H := Unit)) (w.heap.size + 1) (i + 1) _ rfl (O0.out.alloc _) (by unfold maxLen; omega) _ _ _ rfl rfl HK.out _ [] unitElem_mk ?_; intro w2 hown2 hgrow2)
      | go_in)
    go_roundw
    case rel =>
      refine ⟨i + 1, by omega, by go_num, ?_, ?_, ?_⟩
      · show World.ownsMap _ _ _ _ _ _ _
        rw [HS.out, shiftSet_snoc]
        exact hown2
      · exact (B0.out.alloc B0.out.size _).grown hgrow2 (by simp; omega) (fun j hj => by cases hj; omega)
      · exact ca_grown (ca_alloc X0.out _) hgrow2 (by omega)
    case measure => simp [intOf]; omega
end Go.Proofs.Ytnmdfbbfgiaijaa
