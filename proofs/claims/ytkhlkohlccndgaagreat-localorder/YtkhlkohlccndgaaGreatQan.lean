/- Proved: between a time and a later one while clocks stay as they are, the wall moves as time does (the law LocalOrder), for every table; no condition. -/
import Derived.Test.YtkhlkohlccndgaaGreatQz
import Derived.Test.YtkhlkohlccndgaaGreatQam
import Derived.Test.YtkhlkohlccndgaaGreatQaa
import Derived.Maps.OwnSet
import Derived.Maps.RangeWalk
import Derived.WalkArith
import Derived.Test.YtkhlkohlccndgaaGreatQal
import Derived.Sort.OwnSortedInts
import Derived.Sort.OwnSorted
import Derived.Test.YtkhlkohlccndgaaGreatQag
import Derived.Deep.RegionHeld3
import Derived.Test.YtkhlkohlccndgaaGreatQab
import Derived.ProofKit
import Derived.OpenShut
import Derived.Lib.SmallJoins
import Derived.Deep.Slices
import Derived.Deep.Strs
import Derived.Carry
set_option linter.unusedVariables false
set_option linter.unusedSimpArgs false
set_option maxRecDepth 100000
set_option maxHeartbeats 16000000
namespace Go.Proofs.YtkhlkohlccndgaaGreat
open Go.RowKit

theorem below_set3 {a w : World} (h : Below a.heap.size a w) {q o0 o1 o2 : Nat} (hq : a.heap.size ≤ q) {u0 u1 u2 : Value} {o : Obj} : Below a.heap.size a ((((w.setCell ⟨q, o0, none⟩ u0).setCell ⟨q, o1, none⟩ u1).setCell ⟨q, o2, none⟩ u2).alloc o) := by
 have := below_set (below_set (below_set h hq u0 (o := o0)) hq u1 (o := o1)) hq u2 (o := o2)
 exact this.alloc this.size _
theorem parts_any (n F s : Int) (w : World) (h1 : -1000000000000 ≤ n) (h2 : n ≤ 1000000000000) (hF : n / 86400 = F) (hs : n - 86400 * F = s) :
  Calls Tryz.prog 83 #[.int .i64 n] w fun e w' => e = .returned (.tuple #[.int .i64 F, .int .i64 s]) ∧ w' = w := by
 obtain ⟨q, hq⟩ : ∃ q, n.tdiv 86400 = q := ⟨_, rfl⟩
 obtain ⟨r, hr⟩ : ∃ r, n.tmod 86400 = r := ⟨_, rfl⟩
 have e1 : n = 86400 * q + r := by rw [← hq, ← hr]; exact (Int.mul_tdiv_add_tmod n 86400).symm
 have e2 : -86400 < r ∧ r < 86400 := by
  rw [← hr]
  rcases Int.le_total 0 n with h | h
  ·rw [Int.tmod_eq_emod_of_nonneg h]; omega
  ·have : n.tmod 86400 = -((-n) % 86400) := by
    have : n = -(-n) := by omega
    rw [this, Int.neg_tmod, Int.tmod_eq_emod_of_nonneg (by omega)]; simp
   rw [this]; omega
 obtain ⟨e2a, e2b⟩ := e2
 by_cases h0 : r < 0
 ·have e3 : F = q - 1 := by omega
  have e4 : s = r + 86400 := by omega
  have b1 : -20000000 ≤ q ∧ q ≤ 20000000 := by omega
  obtain ⟨b1, b2⟩ := b1
  clear hF hs e1 h1 h2
  go_enter Tryz.func83, Tryz.ntmps83
  go_wp2
  exact bodyPost_ret (v := .tuple #[.int .i64 (q - 1), .int .i64 (r + 86400)]) (by simp [results, Tryz.results83, go_sem]) rfl ⟨by first | rfl | rw [e3, e4], rfl⟩
 ·have e3 : F = q := by omega
  have e4 : s = r := by omega
  have b1 : -20000000 ≤ q ∧ q ≤ 20000000 := by omega
  obtain ⟨b1, b2⟩ := b1
  clear hF hs e1 h1 h2
  go_enter Tryz.func83, Tryz.ntmps83
  go_wp2
  exact bodyPost_ret (v := .tuple #[.int .i64 q, .int .i64 r]) (by simp [results, Tryz.results83, go_sem]) rfl ⟨by first | rfl | rw [e3, e4], rfl⟩
theorem wallErr_look (t : Tb.Tbl) (n : Int) (h : Tb.lookErr t n ≠ 0) : Tb.wallErr t n = Tb.lookErr t n := by
 unfold Tb.wallErr
 unfold Tb.lookErr at h ⊢
 by_cases h1 : Tb.tableE t = 0
 ·simp only [h1] at h ⊢
  cases h2 : Tb.inYears n
  ·simp
  ·rw [h2] at h; simp at h
 ·simp [h1]
theorem lookErr_good {t : Tb.Tbl} {n : Int} (h : Tb.lookErr t n = 0) : Tb.tableE t = 0 ∧ Tb.inYears n = true ∧ Tb.wallErr t n = Tb.wallE t n ∧ Tb.lookO t n = Tb.look t n := by
 have q1 : Tb.lookO t n = Tb.look t n := by unfold Tb.lookO; rw [if_pos h]
 unfold Tb.lookErr at h
 by_cases h1 : Tb.tableE t = 0
 ·cases h2 : Tb.inYears n
  ·simp [h1, h2] at h
  ·exact ⟨h1, rfl, by unfold Tb.wallErr; simp [h1, h2], q1⟩
 ·simp [h1] at h
theorem wall_any (t : Tb.Tbl) (v : Value) (at_ : Int) (w : World) (h : RdCh w v t.ch) (hs : Tb.Sized t) :
  Calls Tryz.prog 39 #[tbV t.first v, .int .i64 at_] w (WallEnd t at_ w) := by
 have h' := h
 obtain ⟨a, cap, rfl, hc⟩ := h'
 clear hc
 show Calls Tryz.prog 39 #[tbV t.first (.slice a t.ch.length cap), .int .i64 at_] w fun e w' => Below w.heap.size w w' ∧ ∃ a b c s : Int, e = .returned (.tuple #[.agg #[.int .i64 a, .int .i64 b, .int .i64 c], .int .i64 s, .int .i64 (Tb.wallErr t at_)]) ∧
  (Tb.wallErr t at_ = 0 → Cv.vldB a b c = true ∧ Cv.num a b c = Tb.wallD t at_ ∧ s = Tb.wallN t at_ - 86400 * Tb.wallD t at_) ∧ (Tb.wallErr t at_ ≠ 0 → a = 0 ∧ b = 0 ∧ c = 0 ∧ s = 0)
 have HC : Hid (∀ W, Below w.heap.size w W → Calls Tryz.prog 32 #[tbV t.first (.slice a t.ch.length cap), .int .i64 at_] W fun e w' => e = .returned (.tuple #[lcV (Tb.lookO t at_), .int .i64 (Tb.lookErr t at_)]) ∧ Below W.heap.size W w') := fun W hW => pLook_any t _ at_ W (rdCh_below h hW) hs
 have HA : Hid (Tb.lookErr t at_ ≠ 0 → Tb.wallErr t at_ = Tb.lookErr t at_) := wallErr_look t at_
 have HG : Hid (Tb.lookErr t at_ = 0 → ((-75600 ≤ (Tb.lookO t at_).shift ∧ (Tb.lookO t at_).shift ≤ 75600) ∧ (-62135596800 ≤ at_ ∧ at_ ≤ 253402300799)) ∧ Tb.wallErr t at_ = (if -719162 ≤ Tb.wallD t at_ ∧ Tb.wallD t at_ ≤ 2932896 then 0 else 3) ∧ Tb.wallN t at_ = at_ + (Tb.lookO t at_).shift) := fun q => by
  obtain ⟨g1, g2, g3, g4⟩ := lookErr_good q
  have b := Tb.goodL_bd (Tb.look_bd g1 at_)
  rw [g4]
  have g2' : decide ((-62135596800 : Int) ≤ at_ ∧ at_ ≤ 253402300799) = true := g2
  simp only [decide_eq_true_eq] at g2'
  exact ⟨⟨⟨b.1, b.2.1⟩, g2'⟩, g3, rfl⟩
 have HD : Hid (Tb.wallD t at_ = Tb.wallN t at_ / 86400) := rfl
 obtain ⟨E, hE⟩ : ∃ E, Tb.lookErr t at_ = E := ⟨_, rfl⟩
 obtain ⟨K, hK⟩ : ∃ K, Tb.lookO t at_ = K := ⟨_, rfl⟩
 obtain ⟨X, hX⟩ : ∃ X, Tb.wallErr t at_ = X := ⟨_, rfl⟩
 obtain ⟨n, hn⟩ : ∃ n, Tb.wallN t at_ = n := ⟨_, rfl⟩
 obtain ⟨F, hF⟩ : ∃ F, Tb.wallD t at_ = F := ⟨_, rfl⟩
 rw [hE, hK] at HC
 rw [hE, hX] at HA
 rw [hE, hX, hK, hn, hF] at HG
 rw [hn, hF] at HD
 rw [hX, hn, hF]
 obtain ⟨f, ch⟩ := t
 dsimp only at HC ⊢
 clear hE hK hX hn hF h hs
 obtain ⟨W0, hW⟩ : ∃ W0, (w.alloc (.cells (tbL f (.slice a ch.length cap)).toArray 76)).alloc (.cells #[.int .i64 0, .int .i64 0, .int .i64 0] 63) = W0 := ⟨_, rfl⟩
 have B0 : Hid (Below w.heap.size w W0) := by
  rw [← hW]
  exact ((Below.refl _ _).alloc (Nat.le_refl _) _).alloc (by simp) _
 have Z0 : Hid (CellsAt W0 (w.heap.size + 1) [.int .i64 0, .int .i64 0, .int .i64 0]) := by
  rw [← hW]; show CellsAt _ _ _
  have := ca_new (w.alloc (.cells (tbL f (.slice a ch.length cap)).toArray 76)) [.int .i64 0, .int .i64 0, .int .i64 0] 63
  simpa using this
 have HS := hid (HC.out W0 B0.out)
 have HW := hid hW
 clear hW HC
 rw [← HW.out] at HS
 go_enter Tryz.func39, Tryz.ntmps39
 go_wp2_with fail
 refine HS.out.mono ?_
 rintro e w1 ⟨rfl, hb1⟩
 rw [HW.out] at hb1
 have ZU := hid (ca_below Z0.out hb1)
 have BU : Hid (Below w.heap.size w w1) := B0.out.trans (hb1.mono B0.out.size)
 clear HS Z0 B0 HW hb1
 obtain ⟨z0, g0⟩ := ca_at ZU.out 0 rfl
 obtain ⟨z1, g1⟩ := ca_at ZU.out 1 rfl
 obtain ⟨z2, g2⟩ := ca_at ZU.out 2 rfl
 have sz := ZU.out.1
 have sw : w.heap.size < w1.heap.size := by omega
 have zz : ¬ w.heap.size + 1 = w1.heap.size := by omega
 by_cases h0 : E = 0
 case neg =>
  have HX := hid (HA.out h0)
  have h0' : (E != 0) = true := by simp [h0]
  clear HA HG HD
  go_wp2
  refine bodyPost_ret (v := .tuple #[.agg #[.int .i64 0, .int .i64 0, .int .i64 0], .int .i64 0, .int .i64 E]) (by simp [results, Tryz.results39, go_sem, *]) rfl ⟨?_, 0, 0, 0, 0, by rw [HX.out], fun q => absurd (HX.out.symm.trans q) h0, fun _ => ⟨rfl, rfl, rfl, rfl⟩⟩
  exact below_set3 BU.out (by omega)
 obtain ⟨⟨⟨q1, q2⟩, q3, q4⟩, qX, qn⟩ := HG.out h0
 have qF : F = n / 86400 := HD.out
 have HX : Hid (X = if -719162 ≤ F ∧ F ≤ 2932896 then 0 else 3) := qX
 have HP : Hid (∀ W, Calls Tryz.prog 83 #[.int .i64 (at_ + K.shift)] W fun e w' => e = .returned (.tuple #[.int .i64 F, .int .i64 (n - 86400 * F)]) ∧ w' = W) := fun W => by rw [← qn]; exact parts_any n F _ W (by omega) (by omega) qF.symm rfl
 obtain ⟨s, hs⟩ : ∃ s, n - 86400 * F = s := ⟨_, rfl⟩
 rw [hs] at HP
 have HSS := hid hs
 subst h0
 clear HA HG HD qX qn qF hs
 have zc : ∀ W, Below (w1.alloc (.cells (lcL K).toArray 31)).heap.size (w1.alloc (.cells (lcL K).toArray 31)) W → CellsAt W (w.heap.size + 1) [.int .i64 0, .int .i64 0, .int .i64 0] ∧ Below w.heap.size w W := fun W hW =>
  ⟨ca_below (ca_alloc ZU.out _) hW, (BU.out.alloc BU.out.size _).trans (hW.mono (by simp; omega))⟩
 have HZ := hid zc
 clear zc
 by_cases hr : -719162 ≤ F ∧ F ≤ 2932896
 case neg =>
  have HX3 : Hid (X = 3) := by show _ = _; rw [HX.out, if_neg hr]
  have hr' : F < -719162 ∨ 2932896 < F := by omega
  have HR := hid hr'
  clear hr hr' HX
  go_wp2_with (go_at_call 83; refine (HP.out _).mono ?_; rintro e w2 ⟨rfl, rfl⟩)
  refine (of_no F _ HR.out).mono ?_
  rintro e w3 ⟨rfl, hb3⟩
  obtain ⟨ZV, BV⟩ := HZ.out w3 hb3
  have BV' := hid BV
  have ZV' := hid ZV
  clear HZ hb3 BV ZU BU z0 g0 z1 g1 z2 g2 sz sw zz ZV
  obtain ⟨z0, g0⟩ := ca_at ZV'.out 0 rfl
  obtain ⟨z1, g1⟩ := ca_at ZV'.out 1 rfl
  obtain ⟨z2, g2⟩ := ca_at ZV'.out 2 rfl
  have sz := ZV'.out.1
  have zz : ¬ w.heap.size + 1 = w3.heap.size := by omega
  go_wp2
  refine bodyPost_ret (v := .tuple #[.agg #[.int .i64 0, .int .i64 0, .int .i64 0], .int .i64 0, .int .i64 3]) (by simp [results, Tryz.results39, go_sem, *]) rfl ⟨?_, 0, 0, 0, 0, by rw [HX3.out], fun q => absurd (HX3.out.symm.trans q) (by decide), fun _ => ⟨rfl, rfl, rfl, rfl⟩⟩
  exact below_set3 BV'.out (by omega)
 have HX0 : Hid (X = 0) := by show _ = _; rw [HX.out, if_pos hr]
 have HR := hid hr
 clear hr HX
 go_wp2_with (go_at_call 83; refine (HP.out _).mono ?_; rintro e w2 ⟨rfl, rfl⟩)
 refine (of_yes F _ HR.out.1 HR.out.2).mono ?_
 rintro e w3 ⟨y, m, d, rfl, hv, hnum, hb3⟩
 have HV := hid hv
 have HU := hid hnum
 obtain ⟨ZV, BV⟩ := HZ.out w3 hb3
 have BV' := hid BV
 have ZV' := hid ZV
 clear HZ hb3 BV ZU BU z0 g0 z1 g1 z2 g2 sz sw zz ZV hv hnum
 obtain ⟨z0, g0⟩ := ca_at ZV'.out 0 rfl
 obtain ⟨z1, g1⟩ := ca_at ZV'.out 1 rfl
 obtain ⟨z2, g2⟩ := ca_at ZV'.out 2 rfl
 have sz := ZV'.out.1
 have zz : ¬ w.heap.size + 1 = w3.heap.size := by omega
 go_wp2
 refine bodyPost_ret (v := .tuple #[.agg #[.int .i64 y, .int .i64 m, .int .i64 d], .int .i64 s, .int .i64 0]) (by simp [results, Tryz.results39, go_sem, *]) rfl ⟨?_, y, m, d, s, by rw [HX0.out], fun _ => ⟨HV.out, HU.out, HSS.out.symm⟩, fun q => absurd HX0.out q⟩
 exact below_set3 BV'.out (by omega)
end Go.Proofs.YtkhlkohlccndgaaGreat
namespace Go.Proofs.YtkhlkohlccndgaaGreat
open Go.RowKit Go.Maps

theorem lawInt : Keyed Tryz.prog 3 := int_keyed Tryz.underlying3
def shiftsTo (f : Tb.Lc) (ch : List Tb.Cg) (k : Nat) : List Int := f.shift :: (ch.take k).map (·.lc.shift)
def shiftSet (l : List Int) : DataW Unit := setOf (.agg []) (l.map (Lit.int .i64))
theorem shiftSet_snoc (l : List Int) (x : Int) : shiftSet (l ++ [x]) = (shiftSet l).put (.int .i64 x) (.agg []) := by
 unfold shiftSet; rw [List.map_append]; exact setOf_snoc _ _ _
theorem shiftSet_one (x : Int) : (DataW.map ([] : List (Lit × DataW Unit))).put (.int .i64 x) (.agg []) = shiftSet [x] := by simp [shiftSet, setOf]
theorem anyInt (x : Int) : ∀ l : List Int, l.any ((fun y : Lit => y.sameKey (.int .i64 x)) ∘ Lit.int .i64) = l.contains x
 | [] => rfl
 | a :: r => by
   rw [List.any_cons, List.contains_cons, anyInt x r]
   congr 1
   show decide (IntKind.i64 = IntKind.i64 ∧ a = x) = (x == a)
   by_cases e : a = x
   ·subst e; simp
   ·have e' : ¬ x = a := fun h => e h.symm
    simp [e, e']
theorem has_shiftSet (l : List Int) (x : Int) : Maps.has (shiftSet l) (.int .i64 x) = l.contains x := by
 unfold shiftSet
 rw [has_setOf _ _ _ (fun y hy => by obtain ⟨_, _, rfl⟩ := List.mem_map.1 hy; trivial), List.any_map]
 exact anyInt x _
theorem shiftsTo_succ {f : Tb.Lc} {ch : List Tb.Cg} {k : Nat} {c : Tb.Cg} (h : ch[k]? = some c) : shiftsTo f ch (k + 1) = shiftsTo f ch k ++ [c.lc.shift] := by
 obtain ⟨hk, e⟩ := List.getElem?_eq_some_iff.1 h
 unfold shiftsTo
 rw [List.take_add_one]
 simp [h]
/- a key and its element put into a map that the call itself makes, where the map is written out -/
theorem wpList_insert_own {H : Type} {P : Program} (w : World) {ops : Array Oper} {rest : List Oper} {o : Oper} {a : Act} {Q : Exit → Act → World → Prop}
  (hg : o.guard = none) (m x v : Operand) (t : TypeId) (hop : o.op = Op.insert t m x v)
  (k e : TypeId) (K : Keyed P k) (ht : P.underlying t = some (.map k e)) (R : Value → Option (DataW H × List MemPlace)) (b n : Nat) (D : DataW H)
  (hm : a.eval m = .map (some b)) (hown : w.ownsMap P k R b n D) (hn : n < maxLen) (key val : Value) (kl : Lit) (hx : a.eval x = key) (hv : a.eval v = val) (hkey : keyOf P k key = some kl)
  (d : DataW H) (ps : List MemPlace) (hval : R val = some (d, ps))
  (hK : ∀ w', w'.ownsMap P k R b (n + 1) (D.put kl d) → w.grownBy w' (some b) → wpList P ops Q rest (a.put o.dst undef) w') :
  wpList P ops Q (o :: rest) a w := by
 refine wpList_plain hg fun K' hK' => ?_
 obtain ⟨w', hrun, r1, r2⟩ := hown.update K ht hn hkey hval
 unfold Oper.wp
 simp [execOp, hop, hm, hx, hv, hrun, Result.andThen]
 exact hK' _ _ (hK w' r1 r2)

theorem shifts_any (f : Tb.Lc) (ch : List Tb.Cg) (a : Option Addr) (cap : Nat) (w : World) (h : RdCh w (.slice a ch.length cap) ch) (hl : ch.length ≤ 1000) (hf : -75600 ≤ f.shift ∧ f.shift ≤ 75600) (hc : ∀ c ∈ ch, -75600 ≤ c.lc.shift ∧ c.lc.shift ≤ 75600) :
  Calls Tryz.prog 180 #[tbV f (.slice a ch.length cap)] w fun e w' => e = .returned (.map (some (w.heap.size + 1))) ∧ w'.ownsMap Tryz.prog 3 (unitElem (H := Unit)) (w.heap.size + 1) (ch.length + 1) (shiftSet (shiftsTo f ch ch.length)) ∧ Below w.heap.size w w' := by
 have hmm := @run_makeMap Tryz.prog
 have H := hid h
 have HC := hid hc
 clear h hc
 have hown0 : ((w.alloc (.cells (tbL f (.slice a ch.length cap)).toArray 76)).alloc (.map #[] 0)).ownsMap Tryz.prog 3 (unitElem (H := Unit)) (w.heap.size + 1) 0 (.map []) := by
  have := World.ownsMap_made (w.alloc (.cells (tbL f (.slice a ch.length cap)).toArray 76)) Tryz.prog 3 (unitElem (H := Unit))
  simpa using this
 have HO := hid hown0
 have X0 := hid (ca_alloc (ca_new w (tbL f (.slice a ch.length cap)) 76) (.map #[] 0))
 have B0 : Hid (Below w.heap.size w ((w.alloc (.cells (tbL f (.slice a ch.length cap)).toArray 76)).alloc (.map #[] 0))) := ((Below.refl _ _).alloc (Nat.le_refl _) _).alloc (by simp) _
 have hkey0 : keyOf Tryz.prog 3 (.int .i64 f.shift) = some (.int .i64 f.shift) := keyOf_int_mk Tryz.underlying3 (WalkArith.wf_i64 (by omega))
 have HK0 := hid hkey0
 clear hown0 hkey0 hf
 go_enter Tryz.func180, Tryz.ntmps180
 go_wp2_with (first
  | (refine wpList_insert_own _ rfl _ _ _ 231 rfl 3 158 lawInt Tryz.underlying231 (unitElem (H := Unit)) (w.heap.size + 1) 0 (.map []) rfl HO.out (by unfold maxLen; omega) _ _ _ rfl rfl HK0.out _ [] unitElem_mk ?_; intro w1 hown1 hgrow1; have X1 := hid (ca_grown X0.out hgrow1 (by omega)); obtain ⟨x3, f3⟩ := ca_at X1.out 3 rfl; have sx := X1.out.1)
  | go_in)
 have B1 : Hid (Below w.heap.size w w1) := B0.out.grown hgrow1 B0.out.size (fun j hj => by cases hj; omega)
 have O1 : Hid (w1.ownsMap Tryz.prog 3 (unitElem (H := Unit)) (w.heap.size + 1) (0 + 1) (shiftSet (shiftsTo f ch 0))) := by
  show World.ownsMap _ _ _ _ _ _ _
  have e : shiftsTo f ch 0 = [f.shift] := by simp [shiftsTo]
  rw [e, ← shiftSet_one]
  exact hown1
 clear hown1 hgrow1 x3 f3 sx X0 B0 HO HK0 hmm
 go_loopw [15] (fun b wr => ∃ i : Nat, i ≤ ch.length ∧ b = .int .i64 i ∧ Hid (wr.ownsMap Tryz.prog 3 (unitElem (H := Unit)) (w.heap.size + 1) (i + 1) (shiftSet (shiftsTo f ch i))) ∧ Hid (Below w.heap.size w wr) ∧ Hid (CellsAt wr w.heap.size (tbL f (.slice a ch.length cap)))) (fun b _ => ch.length - (intOf b).toNat)
 case atStart => exact ⟨0, by omega, rfl, O1, B1, X1⟩
 case round =>
  clear O1 B1 X1
  obtain ⟨i, hi, rfl, O0, B0, X0⟩ := hrel
  by_cases hlt : i < ch.length
  case neg =>
   obtain rfl : i = ch.length := by omega
   go_wp2
   go_ret
   exact ⟨rfl, O0.out, B0.out⟩
  obtain ⟨c, hcc⟩ : ∃ c, ch[i]? = some c := ⟨_, List.getElem?_eq_getElem hlt⟩
  obtain ⟨bb, bo, bcap, e, hbb, c0, c1, c2, c3⟩ := rdCh_at (rdCh_below H.out B0.out) hcc
  simp only [Value.slice.injEq] at e
  obtain ⟨rfl, _, rfl⟩ := e
  have hb := HC.out c (List.mem_of_getElem? hcc)
  have hkey : keyOf Tryz.prog 3 (.int .i64 c.lc.shift) = some (.int .i64 c.lc.shift) := keyOf_int_mk Tryz.underlying3 (WalkArith.wf_i64 (by omega))
  have HK := hid hkey
  have hS := shiftsTo_succ (f := f) hcc
  have HS := hid hS
  have sx := X0.out.1
  have sb := B0.out.size
  have so := O0.out.lt
  clear hb hkey hcc hS
  go_wp2_with (first
   | (at_mapUpdate; refine wpList_mapUpdate_own _ rfl _ _ _ 231 rfl 3 158 lawInt Tryz.underlying231 (unitElem (H := Unit)) (w.heap.size + 1) (i + 1) _ rfl (O0.out.alloc _) (by unfold maxLen; omega) _ _ _ rfl rfl HK.out _ [] unitElem_mk ?_; intro w2 hown2 hgrow2)
   | go_in)
  go_roundw
  case rel =>
   refine ⟨i + 1, by omega, by go_num, ?_, ?_, ?_⟩
   ·show World.ownsMap _ _ _ _ _ _ _
    rw [HS.out, shiftSet_snoc]
    exact hown2
   ·exact (B0.out.alloc B0.out.size _).grown hgrow2 (by simp; omega) (fun j hj => by cases hj; omega)
   ·exact ca_grown (ca_alloc X0.out _) hgrow2 (by omega)
  case measure => simp [intOf]; omega
end Go.Proofs.YtkhlkohlccndgaaGreat
namespace Go.Proofs.YtkhlkohlccndgaaGreat.Tb

theorem lookL_none : ∀ (l : List Cg) (o : Lc) (n : Int), (∀ c ∈ l, n < c.at_) → lookL o n l = o
 | [], _, _, _ => rfl
 | c :: r, o, n, h => by
   have := h c (by simp)
   simp only [lookL]
   rw [if_neg (by omega)]
   exact lookL_none r o n fun d hd => h d (by simp [hd])
theorem mem_spans : ∀ (l : List Cg) (f N n : Int) (o : Lc), Rise l → (∀ c ∈ l, f ≤ c.at_ ∧ c.at_ ≤ most) → f ≤ n → n ≤ most → (n ∈ spans N f o.shift l ↔ N = n + (lookL o n l).shift)
 | [], f, N, n, o, _, _, h1, h2 => by
   simp only [spans, lookL]
   split
   ·simp; omega
   ·simp; omega
 | c :: r, f, N, n, o, hr, hb, h1, h2 => by
   have hc := hb c (by simp)
   have hrise : ∀ d ∈ r, c.at_ < d.at_ := rise_all r c hr
   have hb' : ∀ d ∈ r, c.at_ ≤ d.at_ ∧ d.at_ ≤ most := fun d hd => ⟨Int.le_of_lt (hrise d hd), (hb d (by simp [hd])).2⟩
   have hs := (spans_sorted r N c.at_ c.lc.shift (rise_tail hr) hb').1
   simp only [spans, lookL]
   by_cases q : c.at_ ≤ n
   ·rw [if_pos q]
    have ih := mem_spans r c.at_ N n c.lc (rise_tail hr) hb' q h2
    rw [← ih, List.mem_append]
    constructor
    ·rintro (h | h)
     ·split at h
      ·simp at h; omega
      ·simp at h
     ·exact h
    ·exact .inr
   ·rw [if_neg q, lookL_none r o n (fun d hd => by have := hrise d hd; omega), List.mem_append]
    constructor
    ·rintro (h | h)
     ·split at h
      ·simp at h; omega
      ·simp at h
     ·have := hs n h; omega
    ·intro h
     left
     rw [if_pos (by omega)]
     simp; omega
theorem mem_when {t : Tbl} (h : tableE t = 0) (N n : Int) (h1 : least ≤ n) (h2 : n ≤ most) : n ∈ spans N least t.first.shift t.ch ↔ N = wallN t n := by
 obtain ⟨_, _, g3⟩ := good_parts h
 obtain ⟨r1, r2, _⟩ := goE_rise t.ch t.first none g3
 exact mem_spans t.ch least N n t.first r1 (fun c hc => ⟨(r2 c hc).1, (r2 c hc).2.1⟩) h1 h2
end Go.Proofs.YtkhlkohlccndgaaGreat.Tb
namespace Go.Proofs.YtkhlkohlccndgaaGreat
open Go.Maps

theorem sameInt (a s : Int) : (Lit.int .i64 a).sameKey (.int .i64 s) = decide (a = s) := by
 show decide (IntKind.i64 = IntKind.i64 ∧ a = s) = _
 simp
/- what was gathered: times of those shifts that have come -/
def Coll (t : Tb.Tbl) (N : Int) (S : List Int) (left : Lit → Bool) (ts : List Int) : Prop :=
 ts.Nodup ∧ ∀ x, x ∈ ts ↔ (Tb.inYears x = true ∧ (Tb.look t x).shift = N - x ∧ (N - x) ∈ S ∧ left (.int .i64 (N - x)) = false)
section
variable {t : Tb.Tbl} {N : Int} {S : List Int} {left : Lit → Bool} {ts : List Int}
theorem coll_start : Coll t N S (Maps.has (shiftSet S)) [] := by
 refine ⟨List.nodup_nil, fun x => ?_⟩
 rw [has_shiftSet]
 constructor
 ·intro h; cases h
 ·rintro ⟨_, _, h, h'⟩
  have : S.contains (N - x) = true := by simpa using h
  rw [this] at h'; cases h'
theorem coll_yes (h : Coll t N S left ts) {s : Int} (hs : s ∈ S) (hl : left (.int .i64 s) = true) (h1 : Tb.inYears (N - s) = true) (h2 : (Tb.look t (N - s)).shift = s) :
  Coll t N S (fun z => left z && !z.sameKey (.int .i64 s)) (ts ++ [N - s]) := by
 have e : N - (N - s) = s := by omega
 refine ⟨?_, fun x => ?_⟩
 ·rw [List.nodup_append]
  refine ⟨h.1, by simp, fun a ha b hb q => ?_⟩
  simp at hb
  subst hb
  subst q
  have := (h.2 _).1 ha
  rw [e, hl] at this
  exact absurd this.2.2.2 (by simp)
 ·simp only [sameInt]
  constructor
  ·intro hx
   simp at hx
   rcases hx with hx | rfl
   ·obtain ⟨a, b, c, d⟩ := (h.2 x).1 hx
    exact ⟨a, b, c, by rw [d]; rfl⟩
   ·exact ⟨h1, by rw [e]; exact h2, by rw [e]; exact hs, by rw [e]; simp⟩
  ·rintro ⟨a, b, c, d⟩
   by_cases q : N - x = s
   ·have : x = N - s := by omega
    simp [this]
   ·simp [q] at d
    simp [(h.2 x).2 ⟨a, b, c, d⟩]
theorem coll_no (h : Coll t N S left ts) {s : Int} (h1 : ¬ (Tb.inYears (N - s) = true ∧ (Tb.look t (N - s)).shift = s)) :
  Coll t N S (fun z => left z && !z.sameKey (.int .i64 s)) ts := by
 refine ⟨h.1, fun x => ?_⟩
 simp only [sameInt]
 constructor
 ·intro hx
  obtain ⟨a, b, c, d⟩ := (h.2 x).1 hx
  exact ⟨a, b, c, by rw [d]; rfl⟩
 ·rintro ⟨a, b, c, d⟩
  by_cases q : N - x = s
  ·have e : x = N - s := by omega
   subst e
   exact absurd ⟨a, b.trans q⟩ h1
  ·simp [q] at d
   exact (h.2 x).2 ⟨a, b, c, d⟩
end
theorem lookL_in : ∀ (l : List Tb.Cg) (o : Tb.Lc) (n : Int), Tb.lookL o n l = o ∨ ∃ c ∈ l, Tb.lookL o n l = c.lc
 | [], o, n => .inl rfl
 | c :: r, o, n => by
   simp only [Tb.lookL]
   rcases lookL_in r (if c.at_ ≤ n then c.lc else o) n with h | ⟨d, hd, h⟩
   ·by_cases q : c.at_ ≤ n
    ·right; exact ⟨c, by simp, by rw [h, if_pos q]⟩
    ·left; rw [h, if_neg q]
   ·right; exact ⟨d, by simp [hd], h⟩
theorem look_in (t : Tb.Tbl) (n : Int) : (Tb.look t n).shift ∈ shiftsTo t.first t.ch t.ch.length := by
 unfold shiftsTo Tb.look
 rw [List.take_length]
 rcases lookL_in t.ch t.first n with h | ⟨c, hc, h⟩
 ·rw [h]; simp
 ·rw [h]; simp; right; exact ⟨c, hc, rfl⟩
theorem coll_end {t : Tb.Tbl} {N : Int} {left : Lit → Bool} {ts : List Int} (h : Coll t N (shiftsTo t.first t.ch t.ch.length) left ts) (hl : ∀ kl, left kl = false) (hg : Tb.tableE t = 0) :
  ts.mergeSort (fun x y => decide (x ≤ y)) = Tb.spans N Tb.least t.first.shift t.ch := by
 obtain ⟨g1, g2, g3⟩ := Tb.good_parts hg
 obtain ⟨q1, q2, _⟩ := Tb.goE_rise t.ch t.first none g3
 obtain ⟨s1, s2⟩ := Tb.spans_sorted t.ch N Tb.least t.first.shift q1 (fun c hc => ⟨(q2 c hc).1, (q2 c hc).2.1⟩)
 have hmem : ∀ x, x ∈ ts ↔ x ∈ Tb.spans N Tb.least t.first.shift t.ch := by
  intro x
  rw [h.2 x]
  constructor
  ·rintro ⟨a, b, _, _⟩
   have a' : decide (Tb.least ≤ x ∧ x ≤ Tb.most) = true := a
   simp only [decide_eq_true_eq] at a'
   rw [Tb.mem_when hg N x a'.1 a'.2]
   unfold Tb.wallN
   omega
  ·intro hx
   have b := s1 x hx
   have e := (Tb.mem_when hg N x b.1 b.2).1 hx
   unfold Tb.wallN at e
   have e' : N - x = (Tb.look t x).shift := by omega
   refine ⟨?_, e'.symm, by rw [e']; exact look_in t x, hl _⟩
   show decide (Tb.least ≤ x ∧ x ≤ Tb.most) = true
   simp only [decide_eq_true_eq]
   exact b
 have tr : ∀ a b c : Int, decide (a ≤ b) = true → decide (b ≤ c) = true → decide (a ≤ c) = true := fun a b c h1 h2 => by simp only [decide_eq_true_eq] at *; omega
 have tot : ∀ a b : Int, (decide (a ≤ b) || decide (b ≤ a)) = true := fun a b => by simp only [Bool.or_eq_true, decide_eq_true_eq]; omega
 refine List.Perm.eq_of_pairwise (le := fun a b => decide (a ≤ b) = true) (fun a b _ _ h1 h2 => by simp only [decide_eq_true_eq] at h1 h2; omega) (List.pairwise_mergeSort tr tot ts) (s2.imp (fun {a b} q => by simp only [decide_eq_true_eq]; omega)) ((List.mergeSort_perm ts _).trans ((List.perm_ext_iff_of_nodup h.1 (s2.imp (fun {a b} q => by omega))).2 hmem))
end Go.Proofs.YtkhlkohlccndgaaGreat
namespace Go.Proofs.YtkhlkohlccndgaaGreat
open Go.RowKit

theorem Tryz.infoInt0 : (Tryz.prog.info? 3).map (fun i => (i.zero, i.size, i.bytes)) = some (some (.int .i64 0), 1, 8) := by kernel_rfl
def OwnInts (w : World) (B : Nat) (v : Value) (l : List Int) : Prop := w.ownsRow B 3 1 v l.length (l.map (Value.int .i64))
theorem ownInts_below {W w' : World} {B : Nat} {v : Value} {l : List Int} (h : OwnInts W B v l) (hb : Below W.heap.size W w') : OwnInts w' B v l := owns_below h hb
theorem ownInts_nil (w : World) (B : Nat) : OwnInts w B (.slice none 0 0) [] := World.ownsRow_nil _ _ _ _
theorem ownInts_rd {w : World} {B : Nat} {v : Value} {l : List Int} (h : OwnInts w B v l) : RdInts w v l := by
 refine own_rd (fun _ => rfl) (B := B) (e := 3) ?_
 have : ∀ l : List Int, l.flatMap (fun n : Int => [Value.int .i64 n]) = l.map (Value.int .i64) := by
  intro l
  induction l with
  | nil => rfl
  | cons a r ih => rw [List.flatMap_cons, ih]; rfl
 rw [this]; exact h
end Go.Proofs.YtkhlkohlccndgaaGreat
namespace Go.Proofs.YtkhlkohlccndgaaGreat
open Go.RowKit Go.Maps Go.Sort

theorem shiftsTo_bd {t : Tb.Tbl} (hg : Tb.tableE t = 0) : (-75600 ≤ t.first.shift ∧ t.first.shift ≤ 75600) ∧ (∀ c ∈ t.ch, -75600 ≤ c.lc.shift ∧ c.lc.shift ≤ 75600) ∧ ∀ s ∈ shiftsTo t.first t.ch t.ch.length, -75600 ≤ s ∧ s ≤ 75600 := by
 obtain ⟨g1, g2, g3⟩ := Tb.good_parts hg
 obtain ⟨_, q2, _⟩ := Tb.goE_rise t.ch t.first none g3
 have a1 := Tb.goodL_bd g2
 have a2 : ∀ c ∈ t.ch, -75600 ≤ c.lc.shift ∧ c.lc.shift ≤ 75600 := fun c hc => by have := Tb.goodL_bd (q2 c hc).2.2; exact ⟨this.1, this.2.1⟩
 refine ⟨⟨a1.1, a1.2.1⟩, a2, fun s hs => ?_⟩
 unfold shiftsTo at hs
 rw [List.take_length] at hs
 simp at hs
 rcases hs with rfl | ⟨c, hc, rfl⟩
 ·exact ⟨a1.1, a1.2.1⟩
 ·exact a2 c hc
theorem rdInts_no (w : World) (a : Option Addr) (cap : Nat) : RdInts w (.slice a 0 cap) [] := ⟨a, cap, rfl, fun h => absurd rfl h⟩

theorem whenShown_any (t : Tb.Tbl) (v : Value) (N : Int) (w : World) (h : RdCh w v t.ch) (hg : Tb.tableE t = 0) (n1 : -100000000000 ≤ N) (n2 : N ≤ 1000000000000) :
  Calls Tryz.prog 139 #[tbV t.first v, .int .i64 N] w fun e w' => ∃ u, e = .returned u ∧ RdInts w' u (Tb.spans N Tb.least t.first.shift t.ch) ∧ Below w.heap.size w w' := by
 obtain ⟨sb1, sb2, sb3⟩ := shiftsTo_bd hg
 obtain ⟨gr, gl⟩ := rise_of_good hg
 have h' := h
 obtain ⟨a, cap, rfl, hc⟩ := h'
 clear hc
 obtain ⟨S, hS⟩ : ∃ S, shiftsTo t.first t.ch t.ch.length = S := ⟨_, rfl⟩
 obtain ⟨W0, hW⟩ : ∃ W0, w.alloc (.cells (tbL t.first (.slice a t.ch.length cap)).toArray 76) = W0 := ⟨_, rfl⟩
 have B0 : Below w.heap.size w W0 := by rw [← hW]; exact (Below.refl _ _).alloc (Nat.le_refl _) _
 have X0 : CellsAt W0 w.heap.size (tbL t.first (.slice a t.ch.length cap)) := by rw [← hW]; exact ca_new _ _ _
 have hC := shifts_any t.first t.ch a cap W0 (rdCh_below h B0) gl sb1 sb2
 rw [hS] at hC sb3
 obtain ⟨b, hb⟩ : ∃ b, W0.heap.size + 1 = b := ⟨_, rfl⟩
 have hbw : w.heap.size < b := by have := B0.size; omega
 rw [hb] at hC
 have HM : Hid (∀ n W, Below w.heap.size w W → Calls Tryz.prog 75 #[tbV t.first (.slice a t.ch.length cap), .int .i64 n] W fun e w' => e = .returned (lcV (Tb.look t n)) ∧ Below W.heap.size W w') := fun n W hW => momentLocal_any t _ n W (rdCh_below h hW) gr gl
 have HE : Hid (∀ left ts, Coll t N S left ts → (∀ kl, left kl = false) → ts.mergeSort (fun x y => decide (x ≤ y)) = Tb.spans N Tb.least t.first.shift t.ch) := fun left ts hc hl => coll_end (by rw [hS]; exact hc) hl hg
 have HT0 : Hid (Coll t N S (Maps.has (shiftSet S)) []) := coll_start
 have HY : Hid (∀ left ts s, Coll t N S left ts → s ∈ S → left (.int .i64 s) = true → Tb.inYears (N - s) = true → (Tb.look t (N - s)).shift = s → Coll t N S (fun z => left z && !z.sameKey (.int .i64 s)) (ts ++ [N - s])) := fun left ts s h0 h1 h2 h3 h4 => coll_yes h0 h1 h2 h3 h4
 have HNo : Hid (∀ left ts s, Coll t N S left ts → ¬ (Tb.inYears (N - s) = true ∧ (Tb.look t (N - s)).shift = s) → Coll t N S (fun z => left z && !z.sameKey (.int .i64 s)) ts) := fun left ts s h0 h1 => coll_no h0 h1
 have HS3 := hid sb3
 have hfd : ∀ (p q : Int) (s : Tx.Bs) (w : World), (Instr.field 31 (.agg #[.int .i64 p, .int .i64 q, strV s]) 0).run Tryz.prog w = .ok (.int .i64 p) w := fun _ _ _ _ => by kernel_rfl
 obtain ⟨R, hR⟩ : ∃ R, Tb.spans N Tb.least t.first.shift t.ch = R := ⟨_, rfl⟩
 rw [hR] at HE ⊢
 obtain ⟨Cl, hCl⟩ : ∃ Cl, Coll t N S = Cl := ⟨_, rfl⟩
 obtain ⟨lk, hlk⟩ : ∃ lk, Tb.look t = lk := ⟨_, rfl⟩
 rw [hCl] at HE HT0 HY HNo
 rw [hlk] at HM HY HNo
 obtain ⟨f, ch⟩ := t
 dsimp only at HM hC X0 hW ⊢
 dsimp only at gl
 have HX0 := hid X0
 have HB0 := hid B0
 have HW := hid hW
 rw [← hW] at hC
 have HC := hid hC
 clear hC hS hR hCl hlk sb1 sb2 sb3 gr h hg X0 B0 hW hb
 obtain ⟨i0, hi, hz0, hz1, hz2⟩ := info_parts Tryz.infoInt0
 go_enter Tryz.func139, Tryz.ntmps139
 go_wp2_with fail
 refine HC.out.mono ?_
 rintro e w1 ⟨rfl, hown1, hb1⟩
 rw [HW.out] at hb1
 have X1 := hid (ca_below HX0.out hb1)
 have B1 : Hid (Below w.heap.size w w1) := HB0.out.trans (hb1.mono HB0.out.size)
 have hown1' : w1.ownsMap Tryz.prog 3 (unitElem (H := Unit)) b (ch.length + 1) (shiftSet S) := hown1
 have O1 := hid hown1'
 clear hown1 hown1' HC HX0 HB0 HW hb1
 go_wp2_with (first
  | (at_range; refine wpList_range_own _ rfl _ 231 rfl 3 158 lawInt Tryz.underlying231 _ b (ch.length + 1) _ rfl O1.out ?_; intro w0 hrg0 hg0 hs0)
  | go_in)
 go_frame
 have sbm := O1.out.lt
 have hlow : w.heap.size < w1.heap.size := by omega
 have hcnt0 : Maps.size (shiftSet S) ≤ 1001 := by have := O1.out.size_le; omega
 have R0 := hid hrg0
 have B9 : Hid (Below w.heap.size w w0) := B1.out.grown hg0 B1.out.size (fun j hj => by cases hj)
 have X9 := hid (ca_grownO X1.out hg0 (fun k hk => by cases hk))
 have hs0' : w1.heap.size < w0.heap.size := by omega
 clear hrg0 hg0 hs0 O1 B1 X1
 go_loopw [5] (fun v wr => ∃ (left : Lit → Bool) (cnt : Nat) (ts : List Int), Hid (wr.ranges Tryz.prog 3 (unitElem (H := Unit)) b w1.heap.size (ch.length + 1) (shiftSet S) left cnt) ∧ ts.length + cnt ≤ 1001 ∧ Hid (OwnInts wr w1.heap.size v ts) ∧ Hid (Cl left ts) ∧ Hid (Below w.heap.size w wr) ∧ Hid (CellsAt wr w.heap.size (tbL f (.slice a ch.length cap))) ∧ w1.heap.size < wr.heap.size) (fun _ wr => wr.rangeLeft b w1.heap.size)
 case atStart => exact ⟨_, _, [], R0, by simpa using hcnt0, ownInts_nil _ _, HT0, B9, X9, hs0'⟩
 case round =>
  clear R0 B9 X9 hs0' HT0 hcnt0
  obtain ⟨left, cnt, ts, RG, hcnt, HO, HCl, B2, X2, hsz⟩ := hrel
  go_wp2_with (first
   | (at_next; refine wpList_next_ranges _ rfl _ rfl 3 lawInt (unitElem (H := Unit)) (Value.int .i64) (fun _ : Unit => Value.agg #[]) (fun key kl hk => by obtain ⟨x, hx, _⟩ := Maps.keyOf_int_inv Tryz.underlying3 hk; exact ⟨x, hx⟩) (fun v y hv => ⟨(), (unitElem_inv hv).1⟩) b w1.heap.size (ch.length + 1) _ _ _ rfl RG.out ?_ ?_)
   | go_in)
  ·intro hc0 hl0
   have hsorted := HE.out left ts HCl.out hl0
   have HSo := hid hsorted
   rcases HO.out.2 with ⟨hv, hlen⟩ | ⟨g, cap', cur, hv, hbase, hbk, h1, h2, h3, h4⟩
   ·have hts : ts = [] := List.length_eq_zero_iff.1 hlen
    subst hv
    have HRn : Hid (R = []) := by show _ = _; rw [← HSo.out, hts]; simp
    have HC2 := hid (Tryz.slices_Sort_int_none none 0 wr)
    clear hsorted hlen hts HSo
    go_wp2_with (go_at_call 181; refine HC2.out.mono ?_; rintro e w' ⟨rfl, rfl⟩)
    go_ret
    exact ⟨_, rfl, by rw [HRn.out]; exact rdInts_no _ _ _, B2.out⟩
   ·subst hv
    have hH : Holds (Value.int .i64) wr g 0 ts.toArray := holds_of_blockI hbk (by simpa using h4)
    have hgl : g < wr.heap.size := (Array.getElem?_eq_some_iff.1 hbk).1
    have HC2 := hid (Tryz.slices_Sort_int g 0 cap' ts wr hH hgl (by omega))
    have HRD : Hid (∀ nn os, RdInts (grow (putRow (Value.int .i64) (Sort.ahead wr nn) g 0 (ts.mergeSort fun x y => decide (x ≤ y)).toArray) os) (.slice (some ⟨g, 0, none⟩) ts.length cap') R ∧ Below w.heap.size w (grow (putRow (Value.int .i64) (Sort.ahead wr nn) g 0 (ts.mergeSort fun x y => decide (x ≤ y)).toArray) os)) := fun nn os => by
     refine ⟨?_, B2.out.grown (grownBy_sortedI _) B2.out.size (fun j hj => by cases hj; omega)⟩
     have hle : (ts.mergeSort fun x y => decide (x ≤ y)).length = ts.length := by simp
     have q := ownsRow_sortedI (n := nn) (os := os) (ts := ts.mergeSort fun x y => decide (x ≤ y)) hle hbase hbk h1 h2 h3
     have hRl : R.length = ts.length := by rw [← HSo.out, hle]
     refine ownInts_rd (B := w1.heap.size) ?_
     show World.ownsRow _ _ _ _ _ _ _
     rw [hRl, ← HSo.out]
     exact q
    clear hH hgl hsorted hbk h1 h2 h3 h4 hbase
    go_wp2_with (go_at_call 181; refine HC2.out.mono ?_; rintro e w' ⟨rfl, nn, os, rfl⟩)
    go_ret
    exact ⟨_, rfl, (HRD.out nn os).1, (HRD.out nn os).2⟩
  ·intro x u kl y w2 cnt2 hkey hlk hv hat hrg2 hlt hg2 hs2 hen
   obtain ⟨x', ex, rfl, _⟩ := Maps.keyOf_int_inv Tryz.underlying3 hkey
   obtain rfl : x = x' := by simpa using ex
   try dsimp only at hen
   have hin : x ∈ S := by have := has_true_of_atKey hat; rw [has_shiftSet] at this; simpa using this
   obtain ⟨xb1, xb2⟩ := HS3.out x hin
   have O2 : Hid (OwnInts w2 w1.heap.size _ ts) := World.ownsRow.kept HO.out hg2 (Or.inr (row_ne_iter HO.out RG.out).symm)
   have B3 : Hid (Below w.heap.size w w2) := B2.out.grown hg2 B2.out.size (fun j hj => by cases hj; omega)
   have X3 := hid (ca_grownO X2.out hg2 (fun k hk => by cases hk; omega))
   have hsz2 : w1.heap.size < w2.heap.size := by omega
   have RG2 := hid hrg2
   have HLK := hid hlk
   have HIN := hid hin
   have hm1 : wr.rangeLeft b w1.heap.size = cnt := RG.out.left_eq
   have HM1 := hid hm1
   have hcl := HCl
   clear hkey hlk hv hat hrg2 hg2 hs2 hin HO B2 X2 RG hm1 ex hsz
   obtain ⟨T, hT⟩ : ∃ T, Tb.inYears (N - x) = T := ⟨_, rfl⟩
   have HT := hid hT
   clear hT
   cases T
   case false =>
    have HN2 := hid (HNo.out left ts x HCl.out (by rw [HT.out]; simp))
    go_wp2_with (go_at_call 47; refine (pInYears_is _ _ HT.out).mono ?_; rintro e w3 ⟨rfl, rfl⟩)
    go_roundw
    case rel => exact ⟨_, cnt2, ts, RG2, by omega, O2, HN2, B3, X3, hsz2⟩
    case measure => rw [RG2.out.left_eq, HM1.out]; exact hlt
   case true =>
    obtain ⟨L, hL⟩ : ∃ L, lk (N - x) = L := ⟨_, rfl⟩
    have HMC := hid (HM.out (N - x) w2 B3.out)
    rw [hL] at HMC
    obtain ⟨x0, f0⟩ := ca_at X3.out 0 rfl
    obtain ⟨x1, f1⟩ := ca_at X3.out 1 rfl
    obtain ⟨x2, f2⟩ := ca_at X3.out 2 rfl
    obtain ⟨x3, f3⟩ := ca_at X3.out 3 rfl
    have sx := X3.out.1
    have HLe := hid hL
    clear hL
    go_wp2_with (go_at_call 47; refine (pInYears_is _ _ HT.out).mono ?_; rintro e w3 ⟨rfl, rfl⟩)
    refine HMC.out.mono ?_
    rintro e w4 ⟨rfl, hb4⟩
    dsimp only [lcV]
    have RG4 := hid (RG2.out.kept (below_grown hb4) (by simp) (by simp))
    have O4 := hid (ownInts_below O2.out hb4)
    have B4 : Hid (Below w.heap.size w w4) := B3.out.trans (hb4.mono B3.out.size)
    have X4 := hid (ca_below X3.out hb4)
    have hsz4 : w1.heap.size < w4.heap.size := Nat.lt_of_lt_of_le hsz2 hb4.size
    clear HMC RG2 O2 B3 X3 hb4 hsz2 hen x0 f0 x1 f1 x2 f2 x3 f3 sx
    by_cases hq : L.shift = x
    ·have HY2 := hid (HY.out left ts x HCl.out HIN.out HLK.out HT.out (by rw [HLe.out]; exact hq))
     go_wp2_with (at_builtin; refine wpList_append_own _ rfl _ _ 47 rfl w1.heap.size 3 i0 (.int .i64 0) 1 8 Tryz.underlying47 hi hz0 hz1 hz2 rfl (by decide) _ _ _ rfl (World.ownsRow.alloc O4.out _) _ 1 1 [.int .i64 (N - x)] rfl rfl (one_cell _ _) (by intro u hu; simp at hu; subst hu; rfl) (by unfold maxLen; omega) (by omega) (by simp; omega) ?_)
     intro v' w5 hown' hgrow _
     go_wp2
     have RG5 := hid ((RG4.out.alloc (.cells #[.int .i64 (N - x)] 3)).kept hgrow (row_ne_low O4.out sbm) (row_ne_iter O4.out RG4.out))
     go_roundw
     case rel =>
      refine ⟨_, cnt2, ts ++ [N - x], RG5, by simp; omega, ?_, HY2, ?_, ?_, ?_⟩
      ·show World.ownsRow _ _ _ _ _ _ _
       simpa using hown'
      ·exact Below.grown (B4.out.alloc B4.out.size _) hgrow (by simp; omega) (fun k hk => by have := (O4.out.lt k hk).1; omega)
      ·exact ca_grownO (ca_alloc X4.out _) hgrow (fun k hk => by have := (O4.out.lt k hk).1; omega)
      ·have := hgrow.size; simp at this; omega
     case measure => rw [RG5.out.left_eq, HM1.out]; exact hlt
    ·have HN2 := hid (HNo.out left ts x HCl.out (by rw [HLe.out]; intro q; exact hq q.2))
     go_wp2
     go_roundw
     case rel => exact ⟨_, cnt2, ts, RG4, by omega, O4, HN2, B4, X4, hsz4⟩
     case measure => rw [RG4.out.left_eq, HM1.out]; exact hlt
end Go.Proofs.YtkhlkohlccndgaaGreat
namespace Go.Proofs.YtkhlkohlccndgaaGreat
open Go.RowKit

theorem when_any (t : Tb.Tbl) (v : Value) (y m d s : Int) (w : World) (h : RdCh w v t.ch) (hs : Tb.Sized t) :
  Calls Tryz.prog 79 #[tbV t.first v, .agg #[.int .i64 y, .int .i64 m, .int .i64 d], .int .i64 s] w (WhenEnd t y m d s w) := by
 have h' := h
 obtain ⟨a, cap, rfl, hc⟩ := h'
 clear hc
 obtain ⟨E, hE⟩ : ∃ E, Tb.tableE t = E := ⟨_, rfl⟩
 obtain ⟨V, hV⟩ : ∃ V, Cv.vldB y m d = V := ⟨_, rfl⟩
 obtain ⟨X, hX⟩ : ∃ X, Tb.whenErr t y m d s = X := ⟨_, rfl⟩
 obtain ⟨R, hR⟩ : ∃ R, Tb.whenL t y m d s = R := ⟨_, rfl⟩
 obtain ⟨D, hD⟩ : ∃ D, Cv.num y m d = D := ⟨_, rfl⟩
 show Calls Tryz.prog 79 #[tbV t.first (.slice a t.ch.length cap), .agg #[.int .i64 y, .int .i64 m, .int .i64 d], .int .i64 s] w fun e w' => Below w.heap.size w w' ∧ ∃ u, e = .returned (.tuple #[u, .int .i64 (Tb.whenErr t y m d s)]) ∧ RdInts w' u (Tb.whenL t y m d s)
 have HXE : Hid (X = if E ≠ 0 then E else if (V && decide (0 ≤ s ∧ s < 86400)) = false then 3 else 0) := by show _ = _; rw [← hX, Tb.whenErr, hE, Tb.dayB, hV]
 have HRE : Hid (R = if X = 0 then Tb.spans (D * 86400 + s) Tb.least t.first.shift t.ch else []) := by show _ = _; rw [← hR, Tb.whenL, hX, hD]
 have HC : Hid (∀ W, Below w.heap.size w W → Calls Tryz.prog 31 #[tbV t.first (.slice a t.ch.length cap)] W fun e w' => e = .returned (.int .i64 E) ∧ Below W.heap.size W w') := fun W hW => by
  rw [← hE]; exact pCheck_any t _ W (rdCh_below h hW) hs
 have HS : Hid (E = 0 → V = true → 0 ≤ s → s < 86400 → ∀ W, Below w.heap.size w W → Calls Tryz.prog 139 #[tbV t.first (.slice a t.ch.length cap), .int .i64 (D * 86400 + s)] W fun e w' => ∃ u, e = .returned u ∧ RdInts w' u (Tb.spans (D * 86400 + s) Tb.least t.first.shift t.ch) ∧ Below W.heap.size W w') := fun h0 h1 s1 s2 W hW => by
  have vb := Cv.num_bd (hV.trans h1)
  rw [hD] at vb
  exact whenShown_any t _ _ W (rdCh_below h hW) (hE.trans h0) (by omega) (by omega)
 have HB : Hid (V = true → -719162 ≤ D ∧ D ≤ 2932896) := fun h1 => by have vb := Cv.num_bd (hV.trans h1); rw [hD] at vb; exact ⟨by omega, by omega⟩
 have HDy : Hid (V = true → ∀ W, Calls Tryz.prog 40 #[.agg #[.int .i64 y, .int .i64 m, .int .i64 d]] W fun e w' => e = .returned (.tuple #[.int .i64 D, .int .i64 0]) ∧ Below W.heap.size W w') := fun h1 W => by rw [← hD]; exact days_yes y m d W (hV.trans h1)
 have HDn : Hid (V = false → ∀ W, Calls Tryz.prog 40 #[.agg #[.int .i64 y, .int .i64 m, .int .i64 d]] W fun e w' => e = .returned (.tuple #[.int .i64 0, .int .i64 3]) ∧ Below W.heap.size W w') := fun h1 W => days_no y m d W (hV.trans h1)
 rw [hX, hR]
 generalize Tb.spans (D * 86400 + s) Tb.least t.first.shift t.ch = Z at HS HRE
 obtain ⟨f, ch⟩ := t
 dsimp only at HC HS ⊢
 clear hE hV hX hR hD h hs
 obtain ⟨W0, hW⟩ : ∃ W0, (w.alloc (.cells (tbL f (.slice a ch.length cap)).toArray 76)).alloc (.cells #[.int .i64 y, .int .i64 m, .int .i64 d] 63) = W0 := ⟨_, rfl⟩
 have B0 : Hid (Below w.heap.size w W0) := by
  rw [← hW]
  exact ((Below.refl _ _).alloc (Nat.le_refl _) _).alloc (by simp) _
 have X0 : Hid (CellsAt W0 w.heap.size (tbL f (.slice a ch.length cap))) := by rw [← hW]; exact ca_alloc (ca_new _ _ _) _
 have Y0 : Hid (CellsAt W0 (w.heap.size + 1) [.int .i64 y, .int .i64 m, .int .i64 d]) := by
  rw [← hW]; show CellsAt _ _ _
  have := ca_new (w.alloc (.cells (tbL f (.slice a ch.length cap)).toArray 76)) [.int .i64 y, .int .i64 m, .int .i64 d] 63
  simpa using this
 have HC2 := hid (HC.out W0 B0.out)
 have HW := hid hW
 clear hW HC
 rw [← HW.out] at HC2
 go_enter Tryz.func79, Tryz.ntmps79
 go_wp2_with fail
 refine HC2.out.mono ?_
 rintro e w1 ⟨rfl, hb1⟩
 rw [HW.out] at hb1
 have X1 := hid (ca_below X0.out hb1)
 have Y1 := hid (ca_below Y0.out hb1)
 have B1 : Hid (Below w.heap.size w w1) := B0.out.trans (hb1.mono B0.out.size)
 clear HC2 X0 Y0 B0 HW hb1
 by_cases h0 : E = 0
 case neg =>
  have HX2 : Hid (X = E) := by show _ = _; rw [HXE.out, if_pos h0]
  have HR2 : Hid (R = []) := by show _ = _; rw [HRE.out, HX2.out, if_neg h0]
  have h0' : (E != 0) = true := by simp [h0]
  clear HXE HRE HS HB HDy HDn
  go_wp2
  refine bodyPost_ret (v := .tuple #[.slice none 0 0, .int .i64 E]) (by simp [results, Tryz.results79, go_sem, *]) rfl ⟨B1.out, _, by rw [HX2.out], by rw [HR2.out]; exact rdInts_no _ _ _⟩
 obtain ⟨y0, g0⟩ := ca_at Y1.out 0 rfl
 obtain ⟨y1, g1⟩ := ca_at Y1.out 1 rfl
 obtain ⟨y2, g2⟩ := ca_at Y1.out 2 rfl
 have sy := Y1.out.1
 cases V
 case false =>
  have HX2 : Hid (X = 3) := by show _ = _; rw [HXE.out]; simp [h0]
  have HR2 : Hid (R = []) := by show _ = _; rw [HRE.out, HX2.out]; rfl
  have HD2 := hid (HDn.out rfl)
  subst h0
  clear HXE HRE HS HB HDy HDn
  go_wp2_with fail
  refine (HD2.out _).mono ?_
  rintro e w2 ⟨rfl, hb2⟩
  have B2 : Hid (Below w.heap.size w w2) := B1.out.trans (hb2.mono B1.out.size)
  clear hb2 y0 g0 y1 g1 y2 g2 sy X1 Y1 B1
  go_wp2
  refine bodyPost_ret (v := .tuple #[.slice none 0 0, .int .i64 3]) (by simp [results, Tryz.results79, go_sem, *]) rfl ⟨B2.out, _, by rw [HX2.out], by rw [HR2.out]; exact rdInts_no _ _ _⟩
 have HD2 := hid (HDy.out rfl)
 obtain ⟨db1, db2⟩ := HB.out rfl
 by_cases hr : 0 ≤ s ∧ s < 86400
 case neg =>
  have HX2 : Hid (X = 3) := by show _ = _; rw [HXE.out]; simp [h0, hr]
  have HR2 : Hid (R = []) := by show _ = _; rw [HRE.out, HX2.out]; rfl
  subst h0
  clear HXE HRE HS HB HDy HDn
  go_wp2_with fail
  refine (HD2.out _).mono ?_
  rintro e w2 ⟨rfl, hb2⟩
  have B2 : Hid (Below w.heap.size w w2) := B1.out.trans (hb2.mono B1.out.size)
  clear hb2 y0 g0 y1 g1 y2 g2 sy X1 Y1 B1
  have hr' : s < 0 ∨ (0 ≤ s ∧ 86400 ≤ s) := by omega
  clear hr
  rcases hr' with hr | ⟨hr, hr2⟩
  all_goals
   go_wp2
   refine bodyPost_ret (v := .tuple #[.slice none 0 0, .int .i64 3]) (by simp [results, Tryz.results79, go_sem, *]) rfl ⟨B2.out, _, by rw [HX2.out], by rw [HR2.out]; exact rdInts_no _ _ _⟩
 obtain ⟨r1, r2⟩ := hr
 have HX2 : Hid (X = 0) := by show _ = _; rw [HXE.out]; simp [h0, r1, r2]
 have HR2 : Hid (R = Z) := by show _ = _; rw [HRE.out, HX2.out]; rfl
 have HS2 := hid (HS.out h0 rfl r1 r2)
 subst h0
 clear HXE HRE HS HB HDy HDn
 go_wp2_with fail
 refine (HD2.out _).mono ?_
 rintro e w2 ⟨rfl, hb2⟩
 have B2 : Hid (Below w.heap.size w w2) := B1.out.trans (hb2.mono B1.out.size)
 have X2 := hid (ca_below X1.out hb2)
 clear hb2 y0 g0 y1 g1 y2 g2 sy X1 Y1 B1
 obtain ⟨x0, f0⟩ := ca_at X2.out 0 rfl
 obtain ⟨x1, f1⟩ := ca_at X2.out 1 rfl
 obtain ⟨x2, f2⟩ := ca_at X2.out 2 rfl
 obtain ⟨x3, f3⟩ := ca_at X2.out 3 rfl
 have sx := X2.out.1
 go_wp2_with fail
 refine (HS2.out _ B2.out).mono ?_
 rintro e w3 ⟨u, rfl, hrd, hb3⟩
 have RD := hid hrd
 have B3 : Hid (Below w.heap.size w w3) := B2.out.trans (hb3.mono B2.out.size)
 clear hb3 hrd HS2 x0 f0 x1 f1 x2 f2 x3 f3 sx
 go_wp2
 refine bodyPost_ret (v := .tuple #[u, .int .i64 0]) (by simp [results, Tryz.results79, go_sem, *]) rfl ⟨B3.out, u, by rw [HX2.out], by rw [HR2.out]; exact RD.out⟩
end Go.Proofs.YtkhlkohlccndgaaGreat
namespace Go.Proofs.YtkhlkohlccndgaaGreat
open Go.RowKit

theorem sameInts_yes (u v : Value) (l : List Int) (w : World) (hu : RdInts w u l) (hv : RdInts w v l) (hl : l.length ≤ 1000000) :
  Calls Tryz.prog 22 #[u, v] w fun e w' => e = .returned (.bool true) ∧ Below w.heap.size w w' := by
 have hu' := hu
 have hv' := hv
 obtain ⟨ua, ucap, rfl, _⟩ := hu'
 obtain ⟨va, vcap, rfl, _⟩ := hv'
 have HU := hid hu
 have HV := hid hv
 clear hu hv
 go_enter Tryz.func22, Tryz.ntmps22
 go_wp2_with fail
 go_loopw [5] (fun b wr => ∃ i : Nat, i ≤ l.length ∧ b = .int .i64 i ∧ Hid (Below w.heap.size w wr)) (fun b _ => l.length - (intOf b).toNat)
 case atStart => exact ⟨0, by omega, rfl, Below.refl _ _⟩
 case round =>
  obtain ⟨i, hi, rfl, B0⟩ := hrel
  by_cases hlt : i < l.length
  ·obtain ⟨n, hn⟩ : ∃ n, l[i]? = some n := ⟨_, List.getElem?_eq_getElem hlt⟩
   obtain ⟨ub, uo, _, e1, ul, uc⟩ := rdInts_at (rd_below HU.out B0.out) hn
   obtain ⟨vb, vo, _, e2, vl, vc⟩ := rdInts_at (rd_below HV.out B0.out) hn
   simp only [Value.slice.injEq] at e1 e2
   obtain ⟨rfl, _, rfl⟩ := e1
   obtain ⟨rfl, _, rfl⟩ := e2
   clear hn
   go_wp2_with fail
   go_quiet (fail)
   go_wp2
   go_roundw
   case rel => exact ⟨i + 1, by omega, by go_num, below_drewN B0.out _⟩
   case measure => simp [intOf]; omega
  ·go_wp2
   go_ret
   exact ⟨rfl, B0.out⟩

end Go.Proofs.YtkhlkohlccndgaaGreat
namespace Go.Proofs.YtkhlkohlccndgaaGreat
open Go.RowKit

theorem sm_wall : Tb.wallErr sm 100 = 0 ∧ Tb.wallD sm 100 = 0 ∧ Tb.wallN sm 100 = 7300 := by decide
theorem sm_when1 : Tb.whenErr sm 1970 1 1 7300 = 0 ∧ Tb.whenL sm 1970 1 1 7300 = [100] := by decide
theorem sm_when2 : Tb.whenErr sm 1970 1 1 3700 = 0 ∧ Tb.whenL sm 1970 1 1 3700 = [] := by decide
theorem sm_when3 : Tb.whenErr sm 1970 1 2 7300 = 0 ∧ Tb.whenL sm 1970 1 2 7300 = [86500, 90100] := by decide
end Go.Proofs.YtkhlkohlccndgaaGreat
namespace Go.Proofs.YtkhlkohlccndgaaGreat
open Go.RowKit

theorem day0 {a b c : Int} (h : Cv.vldB a b c = true) (hn : Cv.num a b c = 0) : a = 1970 ∧ b = 1 ∧ c = 1 := Cv.num_inj h (by decide) (hn.trans (by decide))
theorem cells_kept {V w2 : World} {b p q r : Nat} {x y z : Value} (hb : Below V.heap.size V w2) (hs : b < V.heap.size) (h : V.cell? ⟨b, p, none⟩ = some x ∧ V.cell? ⟨b, q, none⟩ = some y ∧ V.cell? ⟨b, r, none⟩ = some z) : w2.cell? ⟨b, p, none⟩ = some x ∧ w2.cell? ⟨b, q, none⟩ = some y ∧ w2.cell? ⟨b, r, none⟩ = some z :=
 ⟨(hb.cell (p := ⟨b, p, none⟩) hs).trans h.1, (hb.cell (p := ⟨b, q, none⟩) hs).trans h.2.1, (hb.cell (p := ⟨b, r, none⟩) hs).trans h.2.2⟩
theorem below_drawn (w : World) : Below w.heap.size w w.drew := ⟨rfl, rfl, rfl, Nat.le_refl _, fun _ _ => rfl⟩

theorem rdInts_one (w : World) (a : Int) : RdInts (w.alloc (.cells #[.int .i64 a] 3)) (.slice (some ⟨w.heap.size, 0, none⟩) 1 1) [a] := by
 have := World.ownsRow_lit (base := 0) (e := 3) (size := 1) w #[.int .i64 a] 1 (Nat.zero_le _) (by unfold maxLen; decide) rfl
 exact own_rd (fun _ => rfl) (xs := [a]) this
theorem rdInts_two (w : World) (a b : Int) : RdInts (w.alloc (.cells #[.int .i64 a, .int .i64 b] 3)) (.slice (some ⟨w.heap.size, 0, none⟩) 2 2) [a, b] := by
 have := World.ownsRow_lit (base := 0) (e := 3) (size := 1) w #[.int .i64 a, .int .i64 b] 2 (Nat.zero_le _) (by unfold maxLen; decide) rfl
 exact own_rd (fun _ => rfl) (xs := [a, b]) this

theorem localBegun_is (w : World) : Calls Tryz.prog 37 #[] w fun e w' => e = .returned (.bool true) ∧ Below w.heap.size w w' := by
 have W0 := hid sm_wall
 have W1 := hid sm_when1
 have W2 := hid sm_when2
 have W3 := hid sm_when3
 have HS := hid sm_sized
 go_enter Tryz.func37, Tryz.ntmps37
 go_wp2_with fail
 refine (small_any _).mono ?_
 rintro e w1 ⟨v1, rfl, r1, hb1⟩
 go_wp2_with fail
 refine (wall_any sm v1 100 _ r1 HS.out).mono ?_
 rintro e w2 ⟨hb2, a, b, c, s, rfl, h1, _⟩
 rw [W0.out.1, W0.out.2.1, W0.out.2.2] at h1
 rw [W0.out.1]
 obtain ⟨hv, hn, hs⟩ := h1 rfl
 obtain ⟨rfl, rfl, rfl⟩ := day0 hv hn
 have hs' : s = 7300 := by omega
 subst hs'
 have B2 : Hid (Below w.heap.size w w2) := hb1.trans (hb2.mono hb1.size)
 clear hv hn hs h1 hb1 hb2 r1
 have B3 := hid (Below.alloc B2.out B2.out.size (.cells #[.int .i64 1970, .int .i64 1, .int .i64 1] 63))
 have D3 := hid (ca_new w2 [.int .i64 1970, .int .i64 1, .int .i64 1] 63)
 obtain ⟨D, hD⟩ : ∃ D, w2.heap.size = D := ⟨_, rfl⟩
 rw [hD] at D3
 go_wp2_with fail
 obtain ⟨V, hV⟩ : ∃ V, w2.alloc (.cells #[.int .i64 1970, .int .i64 1, .int .i64 1] 63) = V := ⟨_, rfl⟩
 rw [hV]
 rw [hV] at B3
 have D4 : Hid (CellsAt V D [.int .i64 1970, .int .i64 1, .int .i64 1]) := by rw [← hV]; exact D3
 clear hV hD D3 B2
 have DD : V.cell? ⟨D, 0, none⟩ = some (.int .i64 1970) ∧ V.cell? ⟨D, 1, none⟩ = some (.int .i64 1) ∧ V.cell? ⟨D, 2, none⟩ = some (.int .i64 1) := ⟨(ca_at D4.out 0 rfl).1, (ca_at D4.out 1 rfl).1, (ca_at D4.out 2 rfl).1⟩
 have sD := D4.out.1
 go_region_held3 (fun w' => w'.cell? ⟨D, 0, none⟩ = some (.int .i64 1970) ∧ w'.cell? ⟨D, 1, none⟩ = some (.int .i64 1) ∧ w'.cell? ⟨D, 2, none⟩ = some (.int .i64 1))
  (first | go_keep | exact DD | exact cells_kept hb4 hs4 (cells_kept hb3 hs3 DD) | exact cells_kept hb3 hs3 DD)
  (first | (go_at_call 70; refine (small_any _).mono ?_; rintro e w3 ⟨v3, rfl, r3, hb3⟩; have hs3 : D < V.drew.heap.size := sD) | (go_at_call 79; refine (when_any sm v3 1970 1 1 7300 _ r3 HS.out).mono ?_; rintro e w4 ⟨hb4, u4, rfl, r4⟩; have hs4 : D < w3.heap.size := Nat.lt_of_lt_of_le hs3 hb3.size))
 rw [W1.out.1]
 rw [W1.out.2] at r4
 have BB : Below V.heap.size V w4 := ((below_drawn V).trans hb3).trans (hb4.mono hb3.size)
 have B4 : Hid (Below w.heap.size w w4) := B3.out.trans (BB.mono B3.out.size)
 have D5 := hid (ca_below D4.out BB)
 have R4 : Hid (RdInts w4 u4 [100]) := r4
 clear BB hb3 hb4 hs3 hs4 r3 r4 DD sD B3 D4
 have DD : w4.cell? ⟨D, 0, none⟩ = some (.int .i64 1970) ∧ w4.cell? ⟨D, 1, none⟩ = some (.int .i64 1) ∧ w4.cell? ⟨D, 2, none⟩ = some (.int .i64 1) := ⟨(ca_at D5.out 0 rfl).1, (ca_at D5.out 1 rfl).1, (ca_at D5.out 2 rfl).1⟩
 have sD := D5.out.1
 go_wp2_with fail
 go_region_held3 (fun w' => w'.cell? ⟨D, 0, none⟩ = some (.int .i64 1970) ∧ w'.cell? ⟨D, 1, none⟩ = some (.int .i64 1) ∧ w'.cell? ⟨D, 2, none⟩ = some (.int .i64 1))
  (first | go_keep | exact DD | exact cells_kept hb4 hs4 (cells_kept hb3 hs3 DD) | exact cells_kept hb3 hs3 DD)
  (first | (go_at_call 70; refine (small_any _).mono ?_; rintro e w5 ⟨v5, rfl, r5, hb3⟩; have hs3 : D < w4.drew.heap.size := sD) | (go_at_call 79; refine (when_any sm v5 1970 1 1 3700 _ r5 HS.out).mono ?_; rintro e w6 ⟨hb4, u6, rfl, r6⟩; have hs4 : D < w5.heap.size := Nat.lt_of_lt_of_le hs3 hb3.size))
 rw [W2.out.1]
 rw [W2.out.2] at r6
 have BB : Below w4.heap.size w4 w6 := ((below_drawn w4).trans hb3).trans (hb4.mono hb3.size)
 have B6 : Hid (Below w.heap.size w w6) := B4.out.trans (BB.mono B4.out.size)
 have D6 := hid (ca_below D5.out BB)
 have R46 : Hid (RdInts w6 u4 [100]) := rd_below R4.out BB
 have R6 : Hid (RdInts w6 u6 []) := r6
 clear BB hb3 hb4 hs3 hs4 r5 r6 DD sD B4 D5 R4
 go_wp2_with fail
 refine (small_any _).mono ?_
 rintro e w7 ⟨v7, rfl, r7, hb7⟩
 go_wp2_with fail
 refine (when_any sm v7 1970 1 2 7300 _ r7 HS.out).mono ?_
 rintro e w8 ⟨hb8, u8, rfl, r8⟩
 rw [W3.out.1]
 rw [W3.out.2] at r8
 have BB : Below w6.heap.size w6 w8 := hb7.trans (hb8.mono hb7.size)
 have B8 : Hid (Below w.heap.size w w8) := B6.out.trans (BB.mono B6.out.size)
 have D8 := hid (ca_below D6.out BB)
 have R48 : Hid (RdInts w8 u4 [100]) := rd_below R46.out BB
 have R68 : Hid (RdInts w8 u6 []) := rd_below R6.out BB
 have R8 : Hid (RdInts w8 u8 [86500, 90100]) := r8
 clear BB hb7 hb8 r7 r8 B6 D6 R46 R6
 obtain ⟨d0, _⟩ := ca_at D8.out 0 rfl
 obtain ⟨d1, _⟩ := ca_at D8.out 1 rfl
 obtain ⟨d2, _⟩ := ca_at D8.out 2 rfl
 have sD := D8.out.1
 obtain ⟨_, ucap6, rfl, _⟩ := R68.out
 go_wp2_with fail
 refine (sameInts_yes _ _ [100] _ (rd_below R48.out ((Below.refl _ _).alloc (Nat.le_refl _) _)) (rdInts_one _ _) (by simp)).mono ?_
 rintro e w9 ⟨rfl, hb9⟩
 have C9 : Below w8.heap.size w8 w9 := ((Below.refl w8.heap.size w8).alloc (Nat.le_refl _) _).trans (hb9.mono (by simp))
 have R9 : Hid (RdInts w9 u8 [86500, 90100]) := rd_below R8.out C9
 have B9 : Hid (Below w.heap.size w w9) := B8.out.trans (C9.mono B8.out.size)
 clear C9 hb9
 go_wp2_with fail
 refine (sameInts_yes _ _ [86500, 90100] _ (rd_below R9.out ((Below.refl _ _).alloc (Nat.le_refl _) _)) (rdInts_two _ _ _) (by simp)).mono ?_
 rintro e w10 ⟨rfl, hb10⟩
 have B10 : Hid (Below w.heap.size w w10) := (B9.out.alloc B9.out.size _).trans (hb10.mono (by have := B9.out.size; simp; omega))
 go_wp2
 go_ret
 exact ⟨rfl, B10.out⟩
end Go.Proofs.YtkhlkohlccndgaaGreat
namespace Go.Proofs.YtkhlkohlccndgaaGreat
open Go.RowKit

theorem cvB_days : Cv.vldB 2000 2 29 = true ∧ Cv.num 2000 2 29 = 11016 := by decide
theorem cvB_on : Cv.onE 2020 3 2 0 0 = 0 ∧ Cv.tgt 2020 3 2 0 0 = Cv.num 2020 3 29 ∧ Cv.vldB 2020 3 29 = true ∧ Cv.wd 11016 = 2 := by decide

theorem civilBegun_is (w : World) :
  Calls Tryz.prog 38 #[] w fun e w' => e = .returned (.bool true) ∧ Below w.heap.size w w' := by
 go_enter Tryz.func38, Tryz.ntmps38
 go_wp2_with fail
 refine (days_yes _ _ _ _ cvB_days.1).mono ?_
 rintro e w1 ⟨rfl, hb1⟩
 obtain ⟨hc1, hz1⟩ := bcell hb1
 rw [cvB_days.2]
 go_wp2_with fail
 refine (of_yes _ _ (by omega) (by omega)).mono ?_
 rintro e w2 ⟨a, b, c, rfl, hv, hn, hb2⟩
 obtain ⟨rfl, rfl, rfl⟩ := Cv.num_inj hv cvB_days.1 (hn.trans cvB_days.2.symm)
 clear hv hn
 obtain ⟨hc2, hz2⟩ := bcell hb2
 go_wp2_with fail
 refine (on_good _ _ _ _ _ _ cvB_on.1).mono ?_
 rintro e w3 ⟨a, b, c, rfl, hv, hn, hb3⟩
 obtain ⟨rfl, rfl, rfl⟩ := Cv.num_inj hv cvB_on.2.2.1 (hn.trans cvB_on.2.1)
 clear hv hn
 obtain ⟨hc3, hz3⟩ := bcell hb3
 have hs3 : w2.heap.size < w3.heap.size := by have := hb3.size; simp at this; omega
 go_wp2_with fail
 refine (weekday_any _ _).mono ?_
 rintro e w4 ⟨rfl, rfl⟩
 rw [cvB_on.2.2.2]
 go_wp2
 go_ret
 refine ⟨rfl, ?_⟩
 have s1 := hb1.size
 have s2 := hb2.size
 exact Below.alloc (Below.trans (Below.alloc (hb1.trans (hb2.mono s1)) (by omega) _) (hb3.mono (by simp; omega))) (by omega) _
end Go.Proofs.YtkhlkohlccndgaaGreat
namespace Go.Proofs.YtkhlkohlccndgaaGreat
open Go.RowKit Go.Shelf
attribute [local go_sem] Oper.semAt_some
attribute [local go_sem ↓] Go.wp_at_zero Go.wp_at_succ

structure MaxC (m : Int) (w : World) : Prop where
 c : w.cell? ⟨0, 0, none⟩ = some (.int .i64 m)
 p : 0 < w.heap.size
theorem ca_m {N : Nat} {w w' : World} {m : Int} (hb : Below N w w') (h : MaxC m w ∧ w.heap.size = N) : w'.cell? ⟨0, 0, none⟩ = some (.int .i64 m) := (hb.cell (p := ⟨0, 0, none⟩) (by have := h.1.p; have := h.2; show 0 < N; omega)).trans h.1.c
theorem ca_p {N : Nat} {w w' : World} {m : Int} (hb : Below N w w') (h : MaxC m w ∧ w.heap.size = N) : 0 < w'.heap.size := Nat.lt_of_lt_of_le h.1.p hb.size
theorem w64_in {n : Int} (h1 : -9223372036854775808 ≤ n) (h2 : n ≤ 9223372036854775807) : wrap64 n = n := by unfold wrap64; omega
/- how long between, on the wall -/
theorem order_is {t : Tb.Tbl} {n k : Int} (h1 : Tb.lookErr t n = 0) (h2 : Tb.lookErr t (n + k) = 0) (h : (Tb.lookO t n).shift = (Tb.lookO t (n + k)).shift) : Tb.wallN t (n + k) - Tb.wallN t n = k := by
 rw [(lookErr_good h1).2.2.2, (lookErr_good h2).2.2.2] at h
 unfold Tb.wallN
 omega
theorem named_is {t : Tb.Tbl} {n : Int} (h : Tb.lookErr t n = 0) : ∃ x xs, (Tb.lookO t n).name = x :: xs := by
 obtain ⟨g, _, _, e⟩ := lookErr_good h
 rw [e]
 obtain ⟨_, _, _, _, q, _⟩ := Tb.goodL_bd (Tb.look_bd g n)
 cases hx : (Tb.look t n).name with
 | nil => exact absurd hx q
 | cons x xs => exact ⟨x, xs, rfl⟩
theorem localOrder_is (t : Tb.Tbl) (v : Value) (n k : Int) (w : World) (h : RdCh w v t.ch) (hs : Tb.Sized t) (m : Int) (hm : w.cell? ⟨0, 0, none⟩ = some (.int .i64 m)) (h0 : 0 < w.heap.size) :
  Calls Tryz.prog 12 #[tbV t.first v, .int .i64 n, .int .i64 k] w fun e w' => e = .returned (.bool true) ∧ Below w.heap.size w w' := by
 obtain ⟨a, cap, hv, _⟩ := id h
 subst hv
 obtain ⟨N, hN⟩ : ∃ N, w.heap.size = N := ⟨_, rfl⟩
 have HM : Hid (MaxC m w ∧ w.heap.size = N) := ⟨⟨hm, h0⟩, hN⟩
 have CL : Hid (∀ (q : Int) W, RdCh W (.slice a t.ch.length cap) t.ch → Calls Tryz.prog 32 #[tbV t.first (.slice a t.ch.length cap), .int .i64 q] W fun e w' => e = .returned (.tuple #[lcV (Tb.lookO t q), .int .i64 (Tb.lookErr t q)]) ∧ Below W.heap.size W w') := fun q W hW => pLook_any t _ q W hW hs
 have CW : Hid (∀ (q : Int) W, RdCh W (.slice a t.ch.length cap) t.ch → Calls Tryz.prog 39 #[tbV t.first (.slice a t.ch.length cap), .int .i64 q] W (WallEnd t q W)) := fun q W hW => wall_any t _ q W hW hs
 obtain ⟨V, gV, T0, hb, sz⟩ := named_new w #[.int .i64 t.first.shift, .int .i64 t.first.save, .string ⟨t.first.name.toArray⟩, .slice a t.ch.length cap] 76
 have TT : Hid (CellsAt V N [.int .i64 t.first.shift, .int .i64 t.first.save, .string ⟨t.first.name.toArray⟩, .slice a t.ch.length cap]) := hN ▸ T0
 have B : Hid (Below N w V) := hN ▸ hb
 have RC := hid (rdCh_below h hb)
 clear h hs hm h0 T0 hb sz
 go_enter Tryz.func12, Tryz.ntmps12
 simp only [hN]
 go_wp2_with fail
 refine (localBegun_is _).mono ?_
 rintro e w1 ⟨rfl, hb⟩
 have hle := Nat.le_of_lt TT.out.1
 replace B := hid (below_on B.out hle hb)
 replace TT := hid (ca_below TT.out hb)
 replace RC := hid (rdCh_below RC.out hb)
 clear hle
 clear hb
 go_wp2_with fail
 refine (tableBegun_is m _ (ca_m B.out HM.out) (ca_p B.out HM.out)).mono ?_
 rintro e w2 ⟨rfl, hb⟩
 have hle := Nat.le_of_lt TT.out.1
 replace B := hid (below_on B.out hle hb)
 replace TT := hid (ca_below TT.out hb)
 replace RC := hid (rdCh_below RC.out hb)
 clear hle
 clear hb
 go_wp2_with fail
 refine (civilBegun_is _).mono ?_
 rintro e w3 ⟨rfl, hb⟩
 have hle := Nat.le_of_lt TT.out.1
 replace B := hid (below_on B.out hle hb)
 replace TT := hid (ca_below TT.out hb)
 replace RC := hid (rdCh_below RC.out hb)
 clear hle
 clear hb gV
 by_cases k0 : k < 0
 case pos =>
  have q0 : decide (k < 0) = true := by simp [k0]
  go_wp2_with fail
  go_ret
  exact ⟨rfl, B.out⟩
 have q0 : decide (k < 0) = false := by simp [k0]
 by_cases k1 : 864000 < k
 case pos =>
  have q1 : decide (k > 864000) = true := by simp [k1]
  have q2 : decide (864000 < k) = true := by simp [k1]
  go_wp2_with fail
  go_ret
  exact ⟨rfl, B.out⟩
 have q1 : decide (k > 864000) = false := by simp [k1]
 have q2 : decide (864000 < k) = false := by simp [k1]
 have K0 : Hid (0 ≤ k ∧ k ≤ 864000) := by show _ ∧ _; omega
 clear k0 k1
 obtain ⟨t0, _⟩ := ca_at TT.out 0 rfl
 obtain ⟨t1, _⟩ := ca_at TT.out 1 rfl
 obtain ⟨t2, _⟩ := ca_at TT.out 2 rfl
 obtain ⟨t3, _⟩ := ca_at TT.out 3 rfl
 have st := TT.out.1
 have HC := hid (CL.out n w3 RC.out)
 go_wp2_with fail
 refine HC.out.mono ?_
 rintro e w4 ⟨rfl, hb⟩
 clear HC t0 t1 t2 t3 st q0 q1 q2
 have hle := Nat.le_of_lt TT.out.1
 replace B := hid (below_on B.out hle hb)
 replace TT := hid (ca_below TT.out hb)
 replace RC := hid (rdCh_below RC.out hb)
 clear hle
 clear hb
 obtain ⟨A, hA⟩ : ∃ A, Tb.lookO t n = A := ⟨_, rfl⟩
 obtain ⟨E1, hE1⟩ : ∃ E, Tb.lookErr t n = E := ⟨_, rfl⟩
 rw [hA, hE1]
 replace hA := hid hA
 replace hE1 := hid hE1
 obtain ⟨w5, g_w5, L0, hb2, sz⟩ := named_new w4 #[.int .i64 A.shift, .int .i64 A.save, .string ⟨A.name.toArray⟩] 31
 obtain ⟨bA, h_bA⟩ : ∃ b, w4.heap.size = b := ⟨_, rfl⟩
 have LA : Hid (CellsAt w5 bA [.int .i64 A.shift, .int .i64 A.save, .string ⟨A.name.toArray⟩]) := h_bA ▸ L0
 have hle := Nat.le_of_lt TT.out.1
 replace B := hid (below_on B.out hle hb2)
 replace TT := hid (ca_below TT.out hb2)
 replace RC := hid (rdCh_below RC.out hb2)
 clear hle
 clear hb2 sz L0
 obtain ⟨t0, _⟩ := ca_at TT.out 0 rfl
 obtain ⟨t1, _⟩ := ca_at TT.out 1 rfl
 obtain ⟨t2, _⟩ := ca_at TT.out 2 rfl
 obtain ⟨t3, _⟩ := ca_at TT.out 3 rfl
 have st := TT.out.1
 obtain ⟨X2, h_X2⟩ : ∃ x, wrap64 (n + k) = x := ⟨_, rfl⟩
 have HC := hid (CL.out X2 w5 RC.out)
 go_wp2_with fail
 refine HC.out.mono ?_
 rintro e w6 ⟨rfl, hb⟩
 clear HC t0 t1 t2 t3 st g_w5 h_bA
 have hle := Nat.le_of_lt TT.out.1
 replace B := hid (below_on B.out hle hb)
 replace TT := hid (ca_below TT.out hb)
 replace RC := hid (rdCh_below RC.out hb)
 replace LA := hid (ca_below LA.out hb)
 clear hle
 clear hb
 obtain ⟨A2, h_A2⟩ : ∃ A, Tb.lookO t X2 = A := ⟨_, rfl⟩
 obtain ⟨E2, h_E2⟩ : ∃ E, Tb.lookErr t X2 = E := ⟨_, rfl⟩
 rw [h_A2, h_E2]
 replace h_A2 := hid h_A2
 replace h_E2 := hid h_E2
 obtain ⟨w7, g_w7, L0, hb2, sz⟩ := named_new w6 #[.int .i64 A2.shift, .int .i64 A2.save, .string ⟨A2.name.toArray⟩] 31
 obtain ⟨bB, h_bB⟩ : ∃ b, w6.heap.size = b := ⟨_, rfl⟩
 have LB : Hid (CellsAt w7 bB [.int .i64 A2.shift, .int .i64 A2.save, .string ⟨A2.name.toArray⟩]) := h_bB ▸ L0
 have hle := Nat.le_of_lt TT.out.1
 replace B := hid (below_on B.out hle hb2)
 replace TT := hid (ca_below TT.out hb2)
 replace RC := hid (rdCh_below RC.out hb2)
 replace LA := hid (ca_below LA.out hb2)
 clear hle
 clear hb2 sz L0
 replace h_X2 := hid h_X2
 obtain ⟨t0, _⟩ := ca_at TT.out 0 rfl
 obtain ⟨t1, _⟩ := ca_at TT.out 1 rfl
 obtain ⟨t2, _⟩ := ca_at TT.out 2 rfl
 obtain ⟨t3, _⟩ := ca_at TT.out 3 rfl
 have st := TT.out.1
 obtain ⟨X3, h_X3⟩ : ∃ x, wrap64 (n + wrap64 (k.tdiv 2)) = x := ⟨_, rfl⟩
 have HC := hid (CL.out X3 w7 RC.out)
 go_wp2_with fail
 refine HC.out.mono ?_
 rintro e w8 ⟨rfl, hb⟩
 clear HC t0 t1 t2 t3 st g_w7 h_bB
 have hle := Nat.le_of_lt TT.out.1
 replace B := hid (below_on B.out hle hb)
 replace TT := hid (ca_below TT.out hb)
 replace RC := hid (rdCh_below RC.out hb)
 replace LA := hid (ca_below LA.out hb)
 replace LB := hid (ca_below LB.out hb)
 clear hle
 clear hb
 obtain ⟨A3, h_A3⟩ : ∃ A, Tb.lookO t X3 = A := ⟨_, rfl⟩
 obtain ⟨E3, h_E3⟩ : ∃ E, Tb.lookErr t X3 = E := ⟨_, rfl⟩
 rw [h_A3, h_E3]
 replace h_A3 := hid h_A3
 replace h_E3 := hid h_E3
 obtain ⟨w9, g_w9, L0, hb2, sz⟩ := named_new w8 #[.int .i64 A3.shift, .int .i64 A3.save, .string ⟨A3.name.toArray⟩] 31
 obtain ⟨bC, h_bC⟩ : ∃ b, w8.heap.size = b := ⟨_, rfl⟩
 have LC : Hid (CellsAt w9 bC [.int .i64 A3.shift, .int .i64 A3.save, .string ⟨A3.name.toArray⟩]) := h_bC ▸ L0
 have hle := Nat.le_of_lt TT.out.1
 replace B := hid (below_on B.out hle hb2)
 replace TT := hid (ca_below TT.out hb2)
 replace RC := hid (rdCh_below RC.out hb2)
 replace LA := hid (ca_below LA.out hb2)
 replace LB := hid (ca_below LB.out hb2)
 clear hle
 clear hb2 sz L0
 replace h_X3 := hid h_X3
 obtain ⟨t0, _⟩ := ca_at TT.out 0 rfl
 obtain ⟨t1, _⟩ := ca_at TT.out 1 rfl
 obtain ⟨t2, _⟩ := ca_at TT.out 2 rfl
 obtain ⟨t3, _⟩ := ca_at TT.out 3 rfl
 have st := TT.out.1
 have HC := hid (CW.out n w9 RC.out)
 go_wp2_with fail
 refine HC.out.mono ?_
 rintro e y1 ⟨hb, x, y, z, r, rfl, Y_H1, Z_H1⟩
 clear HC t0 t1 t2 t3 st g_w9 h_bC
 have hle := Nat.le_of_lt TT.out.1
 replace B := hid (below_on B.out hle hb)
 replace TT := hid (ca_below TT.out hb)
 replace RC := hid (rdCh_below RC.out hb)
 replace LA := hid (ca_below LA.out hb)
 replace LB := hid (ca_below LB.out hb)
 replace LC := hid (ca_below LC.out hb)
 clear hle
 clear hb
 obtain ⟨H1, h_H1⟩ : ∃ E, Tb.wallErr t n = E := ⟨_, rfl⟩
 rw [h_H1] at Y_H1 Z_H1 ⊢
 replace h_H1 := hid h_H1
 replace Y_H1 := hid Y_H1
 replace Z_H1 := hid Z_H1
 obtain ⟨y2, g_y2, L0, hb2, sz⟩ := named_new y1 #[.int .i64 x, .int .i64 y, .int .i64 z] 63
 obtain ⟨bX, h_bX⟩ : ∃ b, y1.heap.size = b := ⟨_, rfl⟩
 have LX : Hid (CellsAt y2 bX [.int .i64 x, .int .i64 y, .int .i64 z]) := h_bX ▸ L0
 have hle := Nat.le_of_lt TT.out.1
 replace B := hid (below_on B.out hle hb2)
 replace TT := hid (ca_below TT.out hb2)
 replace RC := hid (rdCh_below RC.out hb2)
 replace LA := hid (ca_below LA.out hb2)
 replace LB := hid (ca_below LB.out hb2)
 replace LC := hid (ca_below LC.out hb2)
 clear hle
 clear hb2 sz L0
 obtain ⟨t0, _⟩ := ca_at TT.out 0 rfl
 obtain ⟨t1, _⟩ := ca_at TT.out 1 rfl
 obtain ⟨t2, _⟩ := ca_at TT.out 2 rfl
 obtain ⟨t3, _⟩ := ca_at TT.out 3 rfl
 have st := TT.out.1
 have HC := hid (CW.out X2 y2 RC.out)
 replace h_X2 := h_X2.out
 go_wp2_with fail
 refine HC.out.mono ?_
 rintro e y3 ⟨hb, c, d, e, s, rfl, Y_H2, Z_H2⟩
 replace h_X2 := hid h_X2
 clear HC t0 t1 t2 t3 st g_y2 h_bX
 have hle := Nat.le_of_lt TT.out.1
 replace B := hid (below_on B.out hle hb)
 replace TT := hid (ca_below TT.out hb)
 replace RC := hid (rdCh_below RC.out hb)
 replace LA := hid (ca_below LA.out hb)
 replace LB := hid (ca_below LB.out hb)
 replace LC := hid (ca_below LC.out hb)
 replace LX := hid (ca_below LX.out hb)
 clear hle
 clear hb
 obtain ⟨H2, h_H2⟩ : ∃ E, Tb.wallErr t X2 = E := ⟨_, rfl⟩
 rw [h_H2] at Y_H2 Z_H2 ⊢
 replace h_H2 := hid h_H2
 replace Y_H2 := hid Y_H2
 replace Z_H2 := hid Z_H2
 obtain ⟨y4, g_y4, L0, hb2, sz⟩ := named_new y3 #[.int .i64 c, .int .i64 d, .int .i64 e] 63
 obtain ⟨bY, h_bY⟩ : ∃ b, y3.heap.size = b := ⟨_, rfl⟩
 have LY : Hid (CellsAt y4 bY [.int .i64 c, .int .i64 d, .int .i64 e]) := h_bY ▸ L0
 have hle := Nat.le_of_lt TT.out.1
 replace B := hid (below_on B.out hle hb2)
 replace TT := hid (ca_below TT.out hb2)
 replace RC := hid (rdCh_below RC.out hb2)
 replace LA := hid (ca_below LA.out hb2)
 replace LB := hid (ca_below LB.out hb2)
 replace LC := hid (ca_below LC.out hb2)
 replace LX := hid (ca_below LX.out hb2)
 clear hle
 clear hb2 sz L0
 obtain ⟨l0, _⟩ := ca_at LA.out 0 rfl
 obtain ⟨l1, _⟩ := ca_at LA.out 1 rfl
 obtain ⟨l2, _⟩ := ca_at LA.out 2 rfl
 have sl := LA.out.1
 obtain ⟨u0, _⟩ := ca_at LB.out 0 rfl
 obtain ⟨u1, _⟩ := ca_at LB.out 1 rfl
 obtain ⟨u2, _⟩ := ca_at LB.out 2 rfl
 have su := LB.out.1
 go_upto_region 10 with fail
 clear  g_y4 h_bY
 by_cases e1 : E1 = 0
 case neg =>
  have hw := wallErr_look t n (by rw [hE1.out]; exact e1)
  have hH : H1 ≠ 0 := by rw [← h_H1.out, hw, hE1.out]; exact e1
  obtain ⟨rfl, rfl, rfl, rfl⟩ := Z_H1.out hH
  have p1 : (E1 == 0) = false := by simp [e1]
  have p2 : (E1 != 0) = true := by simp [e1]
  obtain ⟨i0, _⟩ := ca_at LX.out 0 rfl
  obtain ⟨i1, _⟩ := ca_at LX.out 1 rfl
  obtain ⟨i2, _⟩ := ca_at LX.out 2 rfl
  have si := LX.out.1
  clear hw hH e1
  go_wp2_with fail
  go_ret
  exact ⟨rfl, B.out⟩
 subst e1
 by_cases e1 : E2 = 0
 case neg =>
  have p1 : (E2 == 0) = false := by simp [e1]
  have p2 : (E2 != 0) = true := by simp [e1]
  clear e1
  go_wp2_with fail
  go_ret
  exact ⟨rfl, B.out⟩
 subst e1
 by_cases e1 : E3 = 0
 case neg =>
  have p1 : (E3 == 0) = false := by simp [e1]
  have p2 : (E3 != 0) = true := by simp [e1]
  clear e1
  go_wp2_with fail
  go_ret
  exact ⟨rfl, B.out⟩
 subst e1
 by_cases e1 : H1 = 0
 case neg =>
  have p1 : (H1 == 0) = false := by simp [e1]
  have p2 : (H1 != 0) = true := by simp [e1]
  clear e1
  go_wp2_with fail
  go_ret
  exact ⟨rfl, B.out⟩
 subst e1
 by_cases e1 : H2 = 0
 case neg =>
  have p1 : (H2 == 0) = false := by simp [e1]
  have p2 : (H2 != 0) = true := by simp [e1]
  clear e1
  go_wp2_with fail
  go_ret
  exact ⟨rfl, B.out⟩
 subst e1
 by_cases e1 : A.shift = A2.shift
 case neg =>
  have p1 : (A.shift == A2.shift) = false := by simp [e1]
  have p2 : (A.shift != A2.shift) = true := by simp [e1]
  clear e1
  go_wp2_with fail
  go_ret
  exact ⟨rfl, B.out⟩
 rw [← e1] at u0
 have SH := hid e1
 obtain ⟨v1, v2, v3⟩ := Y_H1.out rfl
 obtain ⟨v4, v5, v6⟩ := Y_H2.out rfl
 have nb1 := Cv.num_bd v1
 have nb2 := Cv.num_bd v4
 obtain ⟨P, hP⟩ : ∃ P, Cv.num x y z = P := ⟨_, rfl⟩
 obtain ⟨Q, hQ⟩ : ∃ P, Cv.num c d e = P := ⟨_, rfl⟩
 have D1 : Hid (∀ W, Calls Tryz.prog 40 #[.agg #[.int .i64 x, .int .i64 y, .int .i64 z]] W fun e w' => e = .returned (.tuple #[.int .i64 P, .int .i64 0]) ∧ Below W.heap.size W w') := fun W => hP ▸ days_yes x y z W v1
 have D2 : Hid (∀ W, Calls Tryz.prog 40 #[.agg #[.int .i64 c, .int .i64 d, .int .i64 e]] W fun e w' => e = .returned (.tuple #[.int .i64 Q, .int .i64 0]) ∧ Below W.heap.size W w') := fun W => hQ ▸ days_yes c d e W v4
 rw [hP] at v2 nb1
 rw [hQ] at v5 nb2
 have g := lookErr_good hE1.out
 have gy : decide ((-62135596800 : Int) ≤ n ∧ n ≤ 253402300799) = true := g.2.1
 simp only [decide_eq_true_eq] at gy
 have kb := K0.out
 have x2 : X2 = n + k := by rw [← h_X2.out]; exact w64_in (by omega) (by omega)
 subst x2
 have or := order_is hE1.out h_E2.out (by rw [hA.out, h_A2.out]; exact e1)
 have rb : 0 ≤ r ∧ r < 86400 := by rw [v3, Tb.wallD]; omega
 have sb : 0 ≤ s ∧ s < 86400 := by rw [v6, Tb.wallD]; omega
 have w1 : wrap64 (Q - P) = Q - P := w64_in (by omega) (by omega)
 have w2 : wrap64 ((Q - P) * 86400) = (Q - P) * 86400 := w64_in (by omega) (by omega)
 have w3 : wrap64 ((Q - P) * 86400 + s) = (Q - P) * 86400 + s := w64_in (by omega) (by omega)
 have w4 : (Q - P) * 86400 + s - r = k := by omega
 have w5 : wrap64 k = k := w64_in (by omega) (by omega)
 obtain ⟨nx, nxs, hnm⟩ := named_is h_E3.out
 rw [h_A3.out] at hnm
 have W1 := hid w1
 have W2 := hid w2
 have W3 := hid w3
 have W4 := hid w4
 have W5 := hid w5
 clear w1 w2 w3 w4 w5 or rb sb gy kb g v1 v2 v3 v4 v5 v6 nb1 nb2 hP hQ e1
 obtain ⟨i0, _⟩ := ca_at LX.out 0 rfl
 obtain ⟨i1, _⟩ := ca_at LX.out 1 rfl
 obtain ⟨i2, _⟩ := ca_at LX.out 2 rfl
 have si := LX.out.1
 have HC := hid (D1.out y4)
 go_wp2_with fail
 refine HC.out.mono ?_
 rintro e z1 ⟨rfl, hb⟩
 clear HC i0 i1 i2 si l0 l1 l2 sl u0 u1 u2 su
 have hle := Nat.le_of_lt TT.out.1
 replace B := hid (below_on B.out hle hb)
 replace TT := hid (ca_below TT.out hb)
 replace RC := hid (rdCh_below RC.out hb)
 replace LA := hid (ca_below LA.out hb)
 replace LB := hid (ca_below LB.out hb)
 replace LC := hid (ca_below LC.out hb)
 replace LX := hid (ca_below LX.out hb)
 replace LY := hid (ca_below LY.out hb)
 clear hle
 clear hb
 obtain ⟨j0, _⟩ := ca_at LY.out 0 rfl
 obtain ⟨j1, _⟩ := ca_at LY.out 1 rfl
 obtain ⟨j2, _⟩ := ca_at LY.out 2 rfl
 have sj := LY.out.1
 have HC := hid (D2.out z1)
 go_wp2_with fail
 refine HC.out.mono ?_
 rintro e z2 ⟨rfl, hb⟩
 clear HC j0 j1 j2 sj
 have hle := Nat.le_of_lt TT.out.1
 replace B := hid (below_on B.out hle hb)
 replace TT := hid (ca_below TT.out hb)
 replace RC := hid (rdCh_below RC.out hb)
 replace LA := hid (ca_below LA.out hb)
 replace LB := hid (ca_below LB.out hb)
 replace LC := hid (ca_below LC.out hb)
 replace LX := hid (ca_below LX.out hb)
 replace LY := hid (ca_below LY.out hb)
 clear hle
 clear hb
 obtain ⟨c0, _⟩ := ca_at LC.out 0 rfl
 obtain ⟨c1, _⟩ := ca_at LC.out 1 rfl
 obtain ⟨c2, _⟩ := ca_at LC.out 2 rfl
 have sc := LC.out.1
 rw [hnm] at c2
 have w1 := W1.out
 have w2 := W2.out
 have w3 := W3.out
 have w4 := W4.out
 have w5 := W5.out
 go_wp2_with fail
 go_ret
 exact ⟨rfl, B.out⟩
end Go.Proofs.YtkhlkohlccndgaaGreat
namespace Go.Proofs.YtkhlkohlccndgaaGreat
open Go.ChangeShapes Go.WideShapes Go.ChangeAt Go.RowKit Go.Joins

theorem own : ownKnob Tryz.prog.godebug = none := by kernel_rfl
theorem laidOut : laidOutB Tryz.prog = true := by kernel_rfl
theorem cellsT_int : Tryz.prog.cellsOf 3 = 1 := by kernel_rfl
theorem cellsT_str : Tryz.prog.cellsOf 9 = 1 := by kernel_rfl
theorem cellsT_lc : Tryz.prog.cellsOf 31 = 3 := by kernel_rfl
theorem cellsT_cg : Tryz.prog.cellsOf 86 = 4 := by kernel_rfl
theorem cellsT_chs : Tryz.prog.cellsOf 74 = 1 := by kernel_rfl
theorem cellsT_tb : Tryz.prog.cellsOf 76 = 4 := by kernel_rfl
theorem cellsT_dt : Tryz.prog.cellsOf 63 = 3 := by kernel_rfl

section
variable {H : Type} {enc : TypeId × Value → H} {w : World} {sp : Nat → Bool} {held : Bool} {fuel : Nat} {cs : List Value} {x : DataW H × List MemPlace}
theorem addT_none (b o i : Nat) : (⟨b, o, none⟩ : Addr).add i = ⟨b, o + i, none⟩ := by simp [Addr.add]
theorem blockT_of_cell {a : Addr} {v : Value} (h : w.cell? a = some v) : a.block < w.heap.size := by
 unfold World.cell? at h
 split at h
 ·rename_i hb; exact (Array.getElem?_eq_some_iff.1 hb).1
 ·cases h
theorem strT_of (s : ByteArray) : strV s.data.toList = .string s := by unfold strV; congr 1
theorem open_lc (h : DataW.trod enc Tryz.prog w 0 sp held fuel 31 cs = some x) : ∃ l : Tb.Lc, cs = [.int .i64 l.shift, .int .i64 l.save, strV l.name] ∧ l.name.length ≤ maxLen := by
 cases fuel with
 | zero => simp [DataW.trod] at h
 | succ n =>
   unfold DataW.trod at h
   rw [Tryz.underlying31] at h
   simp [cellsT_lc, cellsT_int, cellsT_str, List.mapM_cons, Option.bind_eq_some_iff] at h
   obtain ⟨hlen, a1, b1, h1, l, ⟨a2, b2, h2, l3, ⟨a3, b3, h3, _⟩, _⟩, _⟩ := h
   match cs, hlen with
   | [u, v, z], _ =>
     simp at h1 h2 h3
     obtain ⟨k1, e1, _⟩ := DataW.trod_int Tryz.underlying3 h1
     obtain ⟨k2, e2, _⟩ := DataW.trod_int Tryz.underlying3 h2
     obtain ⟨s3, e3, _, hs⟩ := DataW.trod_string Tryz.underlying9 h3
     simp at e1 e2 e3
     subst e1 e2 e3
     exact ⟨⟨k1, k2, s3.data.toList⟩, by rw [strT_of], by simpa using hs⟩
theorem open_cg (h : DataW.trod enc Tryz.prog w 0 sp held fuel 86 cs = some x) : ∃ c : Tb.Cg, cs = cgCells c ∧ c.lc.name.length ≤ maxLen := by
 cases fuel with
 | zero => simp [DataW.trod] at h
 | succ n =>
   unfold DataW.trod at h
   rw [Tryz.underlying86] at h
   simp [cellsT_cg, cellsT_int, cellsT_lc, List.mapM_cons, Option.bind_eq_some_iff] at h
   obtain ⟨hlen, a1, b1, h1, l, ⟨a2, b2, h2, _⟩, _⟩ := h
   match cs, hlen with
   | [u, v, z, y], _ =>
     simp at h1 h2
     obtain ⟨k1, e1, _⟩ := DataW.trod_int Tryz.underlying3 h1
     obtain ⟨lc, e2, hs⟩ := open_lc h2
     simp at e1 e2
     obtain ⟨rfl, rfl, rfl⟩ := e2
     subst e1
     exact ⟨⟨k1, lc⟩, rfl, hs⟩
theorem open_chs (h : DataW.trod enc Tryz.prog w 0 sp held fuel 74 cs = some x) : ∃ a n cap l, cs = [.slice a n cap] ∧ RdCh w (.slice a n cap) l ∧ n ≤ cap ∧ cap ≤ maxLen ∧ ∀ c ∈ l, c.lc.name.length ≤ maxLen := by
 rcases Deep.open_slice Tryz.underlying74 h with ⟨rfl, _⟩ | ⟨a, len, cap, m, n, D, Pl, rfl, _, hl, hm, hmm, _, hc⟩
 ·exact ⟨none, 0, 0, [], rfl, rd_nil, Nat.le_refl _, Nat.zero_le _, by simp⟩
 ·have hlm : len ≤ m := by rw [hmm]; split <;> omega
  rw [cellsT_cg] at hc
  have key : ∀ i, i < len → ∃ c : Tb.Cg, c.lc.name.length ≤ maxLen ∧ w.cells? 0 (a.add (i * 4)) 4 = some (cgCells c) := by
   intro i hi
   obtain ⟨cs', h1, h2⟩ := hc i (by omega)
   obtain ⟨c, rfl, hs⟩ := open_cg h2
   exact ⟨c, hs, h1⟩
  have : Inhabited Tb.Cg := ⟨⟨0, ⟨0, 0, []⟩⟩⟩
  obtain ⟨L, hL⟩ := Deep.choose_lt key
  refine ⟨some a, len, cap, (List.range len).map L, rfl, ⟨some a, cap, by simp, fun hn => ?_⟩, by omega, by omega, ?_⟩
  ·have h0 : 0 < len := by
    rcases Nat.eq_zero_or_pos len with q | q
    ·subst q; simp at hn
    ·exact q
   obtain ⟨b, off, spot⟩ := a
   obtain ⟨_, _, g0⟩ := World.cells?_some (hL 0 h0).2
   have c0 := g0 0 (by decide)
   have hs : spot = none := by simpa [Addr.add] using World.cell?_spot c0
   subst hs
   simp only [addT_none] at c0 hL
   refine ⟨b, off, rfl, blockT_of_cell c0, fun i c hi k u hu => ?_⟩
   have hi' : i < len := by
    have := (List.getElem?_eq_some_iff.1 hi).1
    simpa using this
   simp [hi'] at hi
   subst hi
   obtain ⟨_, _, gi⟩ := World.cells?_some (hL i hi').2
   have hk := (List.getElem?_eq_some_iff.1 hu).1
   have := gi k hk
   rw [addT_none] at this
   rw [this]
   exact hu
  ·intro c hc'
   simp at hc'
   obtain ⟨i, hi, rfl⟩ := hc'
   exact (hL i hi).1
/- .. as an argument -/
theorem open_table_arg {W : World} {base : Nat} {v : Value} {d : DataW H} {p : List MemPlace} (hv : Value.okWide Tryz.prog W .any base 76 v) (h : DataW.Trod enc Tryz.prog W 0 (fun _ => true) true 76 v d p) :
  (∃ (t : Tb.Tbl) (a : Option Addr) (n cap : Nat), v = tbV t.first (.slice a n cap) ∧ RdCh W (.slice a n cap) t.ch ∧ n ≤ cap ∧ cap ≤ maxLen ∧ Tb.Sized t) ∧ ∀ x ∈ p, x.block < W.heap.size := by
 obtain ⟨cs, rfl, hsz⟩ := okWide_struct Tryz.underlying76 hv
 obtain ⟨c0, c1, c2, c3, rfl⟩ := array4 (hsz.trans cellsT_tb)
 obtain ⟨fuel, hf⟩ := h
 refine ⟨?_, DataW.trod_lt fuel _ _ _ hf⟩
 cases fuel with
 | zero => simp [DataW.trod] at hf
 | succ n =>
   unfold DataW.trod at hf
   rw [Tryz.underlying76] at hf
   simp [Value.cells, cellsT_tb, cellsT_lc, cellsT_chs, List.mapM_cons, Option.bind_eq_some_iff] at hf
   obtain ⟨a1, b1, h1, l, ⟨a2, b2, h2, _⟩, _⟩ := hf
   obtain ⟨lc, e1, hs⟩ := open_lc h1
   obtain ⟨a, k, cap, l, e2, hr, hk, hm, hn⟩ := open_chs h2
   simp at e1 e2
   obtain ⟨rfl, rfl, rfl⟩ := e1
   subst e2
   have hlen : k = l.length := by
    obtain ⟨a', cap', e, _⟩ := hr
    simp only [Value.slice.injEq] at e
    exact e.2.1
   exact ⟨⟨lc, l⟩, a, k, cap, rfl, hr, hk, hm, ⟨by simp only; omega, hs, hn⟩⟩
theorem table_stays {W W' : World} {v : Value} {d : DataW H} {p : List MemPlace} (h : DataW.Trod enc Tryz.prog W 0 (fun _ => true) true 76 v d p) (bel : Below W.heap.size W W') (lt0 : ∀ x ∈ p, x.block < W.heap.size) : DataW.Trod enc Tryz.prog W' 0 (fun b => decide (b < W.heap.size)) true 76 v d p :=
 Below.trod laidOut (by kernel_rfl) (of_decide_eq_true (by kernel_rfl)) h bel lt0
end
end Go.Proofs.YtkhlkohlccndgaaGreat
namespace Go.Proofs.YtkhlkohlccndgaaGreat
open Go.ChangeShapes Go.WideShapes Go.ChangeAt Go.RowKit Go.Joins Go.ChangeMaps

theorem localOrder_lifted (os : Os) (started : os.Started) (H : Type) (enc : TypeId × Value → H) :
  ReturnsInHanded {} Tryz.checked os 12 .any (Rows.localOrderSpec.pre6 enc Tryz.prog Tryz.f12 Rows.localOrderRow.domain false) (Rows.localOrderSpec.post enc Tryz.prog Tryz.f12 false true false false) := by
 refine returnsInHanded_of_change_shaped (C := Tryz.checked) own started (by kernel_rfl) Tryz.func12
  (ChangeSpec.witness6 (enc := enc) (C := Tryz.checked) false ⟨#[], #[.agg #[.int .i64 0, .int .i64 0, .string ⟨#[]⟩, .slice none 0 0], .int .i64 0, .int .i64 0], []⟩ 8 (by kernel_rfl) (by kernel_rfl) (by kernel_rfl) (by kernel_rfl)) ?_
 intro W base args ds gs before hval0 hW hcnd hsz hsh _
 have hval : ∀ (j : Nat) t v, Tryz.f12.params[j]? = some t → args[j]? = some v → Value.okWide Tryz.prog W .any base t v := hval0
 have hW' := hW
 obtain ⟨p, q, hA0, hV, rfl, hfz, hnd⟩ := hW
 have hA : DataW.TrodAll enc Tryz.prog W 0 (fun _ => true) true Tryz.f12.params.toList args.toList ds p := hA0
 rw [Tryz.params12] at hA hval
 obtain ⟨v0, v1, v2, d0, d1, d2, p0, p1, p2, rfl, rfl, rfl, h0, h1, h2⟩ := trodAll_three hA
 obtain ⟨rfl, rfl⟩ := trodVars_none hV
 obtain ⟨⟨t0, s0, n0, c0, rfl, r0, k0, m0, z0⟩, lt0⟩ := open_table_arg (hval 0 76 v0 rfl rfl) h0
 obtain ⟨a1, rfl, rfl, rfl, w1⟩ := open_int Tryz.underlying3 (hval 1 3 v1 rfl rfl) h1
 obtain ⟨a2, rfl, rfl, rfl, w2⟩ := open_int Tryz.underlying3 (hval 2 3 v2 rfl rfl) h2
 obtain ⟨m, hm⟩ := maxLen_is hsh
 clear hA0 hval0
 refine (localOrder_is t0 (.slice s0 n0 c0) a1 a2 W r0 z0 m hm (heap_pos hm)).mono fun e W' ⟨he, bel⟩ => ?_
 subst he
 exact ⟨_, rfl, _, _, _, [], _, [], hW', trodAll_mk1 (shut_bool Tryz.underlying4 _), trodAll_mk3 (table_stays h0 bel lt0) (shut_int Tryz.underlying3 w1) (shut_int Tryz.underlying3 w2), rfl, bel.frame _, fun h => by cases h⟩

theorem localOrder_holds : Rows.LocalOrderSaid :=
 OpenClaim.holds_of_wide 12 Tryz.f12 rfl rfl rfl rfl rfl rfl rfl ⟨rfl, rfl, rfl, rfl, rfl⟩ rfl rfl rfl rfl rfl (by kernel_rfl) Tryz.func12 (by kernel_rfl)
  (of_decide_eq_true (by kernel_rfl)) (by unfold Func.isWrapper; first | (rw [if_pos (by decide +kernel)]; kernel_rfl) | (rw [if_neg (by decide +kernel)]; exact ⟨rfl, rfl⟩))
  (fun os started H enc _ => localOrder_lifted os started H enc)
#print axioms localOrder_holds
end Go.Proofs.YtkhlkohlccndgaaGreat
