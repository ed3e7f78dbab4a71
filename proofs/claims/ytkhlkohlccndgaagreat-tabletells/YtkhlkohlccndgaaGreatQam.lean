/- Proved: what a table tells it is (the law TableTells), for every table and time; no condition. -/
import Derived.Test.YtkhlkohlccndgaaGreatQz
import Derived.Test.YtkhlkohlccndgaaGreatQal
import Derived.RegionTactic
import Derived.Test.YtkhlkohlccndgaaGreatQaa
import Derived.ProofKit
import Derived.OpenShut
import Derived.Lib.SmallJoins
import Derived.Carry
import Derived.HandedShaped
import Derived.Test.YtkhlkohlccndgaaGreatQag
import Derived.Deep.Slices
import Derived.Deep.Strs
set_option linter.unusedVariables false
set_option linter.unusedSimpArgs false
set_option maxRecDepth 100000
set_option maxHeartbeats 16000000
namespace Go.Proofs.YtkhlkohlccndgaaGreat
open Go.RowKit Go.Lib Go.Sort

/- counting over places is counting over what lies there -/
theorem countP_places {α : Type} (l : List α) (f : Option α → Bool) : (List.range l.length).countP (fun i => f l[i]?) = l.countP (fun c => f (some c)) := by
 have h : (List.range l.length).map (fun i => l[i]?) = l.map some := by
  apply List.ext_getElem
  ·simp
  ·intro i h1 h2
   simp at h1
   simp [h1]
 have e : (List.range l.length).countP (fun i => f l[i]?) = ((List.range l.length).map (fun i => l[i]?)).countP f := by rw [List.countP_map]; rfl
 rw [e, h, List.countP_map]
 rfl
namespace Tb
/- how many changes are no later than a time -/
def cnt (n : Int) (l : List Cg) : Nat := l.countP (fun c => decide (c.at_ ≤ n))
theorem cnt_zero {n : Int} : ∀ {l : List Cg} {c : Cg}, Rise (c :: l) → n < c.at_ → cnt n (c :: l) = 0 := by
 intro l c hr hc
 unfold cnt
 rw [List.countP_eq_zero]
 intro d hd
 simp at hd
 rcases hd with rfl | hd
 ·simp; exact hc
 ·have := rise_all l c hr d hd
  simp; omega
theorem lookL_cnt (n : Int) : ∀ (l : List Cg) (o : Lc), Rise l → lookL o n l = (match cnt n l with | 0 => o | k + 1 => match l[k]? with | some c => c.lc | none => o)
 | [], o, _ => rfl
 | c :: r, o, hr => by
   simp only [lookL]
   by_cases hc : c.at_ ≤ n
   ·rw [if_pos hc, lookL_cnt n r c.lc (rise_tail hr)]
    have e : cnt n (c :: r) = cnt n r + 1 := by unfold cnt; rw [List.countP_cons]; simp [hc]
    rw [e]
    cases hk : cnt n r with
    | zero => rfl
    | succ k =>
      have hl : k < r.length := by have : cnt n r ≤ r.length := List.countP_le_length; omega
      simp [hl]
   ·have z := cnt_zero (n := n) hr (by omega)
    rw [z, if_neg hc, lookL_cnt n r o (rise_tail hr)]
    have e : cnt n (c :: r) = cnt n r := by unfold cnt; rw [List.countP_cons]; simp [hc]
    rw [← e, z]
theorem look_zero {t : Tbl} {n : Int} (hr : Rise t.ch) (h : cnt n t.ch = 0) : look t n = t.first := by unfold look; rw [lookL_cnt n _ _ hr, h]
theorem look_succ {t : Tbl} {n : Int} {k : Nat} {c : Cg} (hr : Rise t.ch) (h : cnt n t.ch = k + 1) (hc : t.ch[k]? = some c) : look t n = c.lc := by unfold look; rw [lookL_cnt n _ _ hr, h]; simp only [hc]
theorem cnt_le (n : Int) (l : List Cg) : cnt n l ≤ l.length := List.countP_le_length
/- is the change at a place later than a time? -/
def laterAt (n : Int) : Option Cg → Bool
 | some c => decide (n < c.at_)
 | none => true
theorem rise_get : ∀ {l : List Cg} {i j : Nat} {c d : Cg}, Rise l → i ≤ j → l[i]? = some c → l[j]? = some d → c.at_ ≤ d.at_
 | [], i, j, c, d, _, _, h, _ => by simp at h
 | a :: r, 0, 0, c, d, _, _, h1, h2 => by rw [h1] at h2; cases h2; exact Int.le_refl _
 | a :: r, 0, j + 1, c, d, hr, _, h1, h2 => by
   simp at h1 h2; subst h1
   exact Int.le_of_lt (rise_all r a hr d (List.mem_of_getElem? h2))
 | a :: r, i + 1, 0, c, d, _, h, _, _ => by omega
 | a :: r, i + 1, j + 1, c, d, hr, h, h1, h2 => rise_get (rise_tail hr) (Nat.le_of_succ_le_succ h) (by simpa using h1) (by simpa using h2)
/- what was told, by how many changes were no later -/
def LastIs (R f : Lc) (ch : List Cg) : Nat → Prop
 | 0 => R = f
 | j + 1 => ∃ c, ch[j]? = some c ∧ R = c.lc
end Tb

theorem later_any (N M : Nat) (f : Tb.Lc) (a : Option Addr) (b o cap len i : Nat) (c n : Int) (W : World) (hi : i < len) (ha : a = some ⟨b, o, none⟩)
  (ht : W.cell? ⟨N, 3, none⟩ = some (.slice a len cap)) (hn : W.cell? ⟨M, 0, none⟩ = some (.int .i64 n)) (hc : W.cell? ⟨b, o + i * 4, none⟩ = some (.int .i64 c)) :
  Calls Tryz.prog 137 (#[.int .i64 i] ++ #[.pointer (some ⟨N, 0, none⟩), .pointer (some ⟨M, 0, none⟩)]) W fun e w' => e = .returned (.bool (decide (n < c))) ∧ ∃ q, w' = W.drewN q := by
 subst ha
 have hiz : (i : Int) < (len : Int) := by omega
 go_enter Tryz.func137, Tryz.ntmps137
 go_wp2
 go_region
 all_goals go_wp2
 all_goals go_ret
 all_goals exact ⟨by first | rfl | simp, 1, rfl⟩

theorem momentLocal_any (t : Tb.Tbl) (v : Value) (n : Int) (w : World) (h : RdCh w v t.ch) (hr : Tb.Rise t.ch) (hl : t.ch.length ≤ 1000) :
  Calls Tryz.prog 75 #[tbV t.first v, .int .i64 n] w fun e w' => e = .returned (lcV (Tb.look t n)) ∧ Below w.heap.size w w' := by
 obtain ⟨f, ch⟩ := t
 simp only at h hr hl
 have h' := h
 obtain ⟨a, cap, rfl, hc⟩ := h'
 clear hc
 obtain ⟨W0, hW⟩ : ∃ W0, ((w.alloc (.cells (tbL f (.slice a ch.length cap)).toArray 76)).alloc (.cells [Value.int .i64 n].toArray 3)).alloc (.cells (lcL lc0).toArray 31) = W0 := ⟨_, rfl⟩
 have B0 : Below w.heap.size w W0 := by
  rw [← hW]
  exact (((Below.refl _ _).alloc (Nat.le_refl _) _).alloc (by simp) _).alloc (by simp; omega) _
 have X0 : CellsAt W0 w.heap.size (tbL f (.slice a ch.length cap)) := by rw [← hW]; exact ca_alloc (ca_alloc (ca_new _ _ _) _) _
 have A0 : CellsAt W0 (w.heap.size + 1) [Value.int .i64 n] := by
  rw [← hW]
  have := ca_alloc (ca_new (w.alloc (.cells (tbL f (.slice a ch.length cap)).toArray 76)) [Value.int .i64 n] 3) (.cells (lcL lc0).toArray 31)
  simpa using this
 have Z0 : CellsAt W0 (w.heap.size + 1 + 1) (lcL lc0) := by
  rw [← hW]
  have := ca_new ((w.alloc (.cells (tbL f (.slice a ch.length cap)).toArray 76)).alloc (.cells [Value.int .i64 n].toArray 3)) (lcL lc0) 31
  simpa using this
 have eg : ∀ args w, (callFunc 137 args).run Tryz.prog w = .ok (.enter 137 args) w := enters_of Tryz.func137 (by kernel_rfl) rfl
 have hS := Any.sort_Search Tryz.laysSearch 137 #[.pointer (some ⟨w.heap.size, 0, none⟩), .pointer (some ⟨w.heap.size + 1, 0, none⟩)] ch.length (fun i => Tb.laterAt n ch[i]?) W0 eg (by omega)
  (fun m os i hi => by
   obtain ⟨c, hcc⟩ : ∃ c, ch[i]? = some c := ⟨_, List.getElem?_eq_getElem hi⟩
   obtain ⟨b, o, cap', e, hb, c0, _⟩ := rdCh_at (rdCh_below h B0) hcc
   simp only [Value.slice.injEq] at e
   have := later_any w.heap.size (w.heap.size + 1) f a b o cap ch.length i c.at_ n (grow (W0.drewN m) os) hi e.1 (cell_grown X0.1 (ca_at X0 3 rfl).1 m os) (cell_grown A0.1 (ca_at A0 0 rfl).1 m os) (cell_grown hb c0 m os)
   rw [hcc]
   exact this.mono fun _ _ ⟨he, q, hq⟩ => ⟨he, q, #[], by rw [hq, grow_empty]⟩)
  (fun i j hij hj hp => by
   obtain ⟨c, hcc⟩ : ∃ c, ch[i]? = some c := ⟨_, List.getElem?_eq_getElem (by omega)⟩
   obtain ⟨d, hd⟩ : ∃ d, ch[j]? = some d := ⟨_, List.getElem?_eq_getElem hj⟩
   have q := Tb.rise_get hr hij hcc hd
   rw [hcc] at hp
   rw [hd]
   simp [Tb.laterAt] at hp ⊢
   omega)
 rw [countP_places ch (fun o => !Tb.laterAt n o), show ch.countP (fun c => !Tb.laterAt n (some c)) = Tb.cnt n ch from (by unfold Tb.cnt; congr 1; funext c; by_cases q : c.at_ ≤ n <;> simp [Tb.laterAt, q] <;> omega)] at hS
 obtain ⟨k, hk⟩ : ∃ k, Tb.cnt n ch = k := ⟨_, rfl⟩
 rw [hk] at hS
 have hS2 : Calls Tryz.prog 136 #[.int .i64 ch.length, .func (.func 137) #[] #[.pointer (some ⟨w.heap.size, 0, none⟩), .pointer (some ⟨w.heap.size + 1, 0, none⟩)]] W0 fun e w' => e = .returned (.int .i64 k) ∧ Below W0.heap.size W0 w' :=
  Calls.mono hS fun _ _ ⟨he, q, os, hq⟩ => ⟨he, by rw [hq]; exact below_grown_sl _ _ _ _ (Nat.le_refl _)⟩
 have hkl : k ≤ ch.length := by rw [← hk]; exact Tb.cnt_le _ _
 have HH := hid h
 have HX := hid X0
 have HZ := hid Z0
 have HB := hid B0
 have HW := hid hW
 obtain ⟨R, hR⟩ : ∃ R, Tb.look ⟨f, ch⟩ n = R := ⟨_, rfl⟩
 rw [hR]
 have HS := hid hS2
 have HK : Hid (Tb.LastIs R f ch k) := by
  show Tb.LastIs R f ch k
  clear HS hS2 hS
  cases k with
  | zero => exact hR.symm.trans (Tb.look_zero (t := ⟨f, ch⟩) hr hk)
  | succ j =>
    obtain ⟨c, hcc⟩ : ∃ c, ch[j]? = some c := ⟨_, List.getElem?_eq_getElem (by omega)⟩
    exact ⟨c, hcc, hR.symm.trans (Tb.look_succ (t := ⟨f, ch⟩) hr hk hcc)⟩
 clear hS hS2 hk hr X0 Z0 B0 A0 hW hR eg h
 rw [← HW.out] at HS
 go_enter Tryz.func75, Tryz.ntmps75
 go_wp2_with fail
 refine HS.out.mono ?_
 rintro e w1 ⟨rfl, hb1⟩
 rw [HW.out] at hb1
 have XU := hid (ca_below HX.out hb1)
 have ZU := hid (ca_below HZ.out hb1)
 have BU : Hid (Below w.heap.size w w1) := HB.out.trans (hb1.mono HB.out.size)
 clear HS HX HZ HB HW hb1
 obtain ⟨x0, f0⟩ := ca_at XU.out 0 rfl
 obtain ⟨x1, f1⟩ := ca_at XU.out 1 rfl
 obtain ⟨x2, f2⟩ := ca_at XU.out 2 rfl
 obtain ⟨x3, f3⟩ := ca_at XU.out 3 rfl
 obtain ⟨z0, g0⟩ := ca_at ZU.out 0 rfl
 obtain ⟨z1, g1⟩ := ca_at ZU.out 1 rfl
 obtain ⟨z2, g2⟩ := ca_at ZU.out 2 rfl
 have sx := XU.out.1
 have sz := ZU.out.1
 cases k with
 | zero =>
   have HR : Hid (R = f) := HK.out
   clear HK
   go_wp2
   refine bodyPost_ret (v := lcV f) (by simp [results, Tryz.results75, go_sem, *]) rfl ⟨by rw [HR.out], ?_⟩
   exact below_set (below_set (below_set BU.out (by omega) _) (by omega) _) (by omega) _
 | succ j =>
   obtain ⟨c, hcc, hR⟩ := HK.out
   obtain ⟨bb, bo, bcap, e, hbb, c0, c1, c2, c3⟩ := rdCh_at (rdCh_below HH.out BU.out) hcc
   simp only [Value.slice.injEq] at e
   obtain ⟨rfl, _, rfl⟩ := e
   have HR := hid hR
   clear HK hR hcc
   go_wp2
   refine bodyPost_ret (v := lcV c.lc) (by simp [results, Tryz.results75, go_sem, *]) rfl ⟨by rw [HR.out], ?_⟩
   exact below_set (below_set (below_set BU.out (by omega) _) (by omega) _) (by omega) _

theorem rise_of_good {t : Tb.Tbl} (h : Tb.tableE t = 0) : Tb.Rise t.ch ∧ t.ch.length ≤ 1000 := by
 obtain ⟨g1, _, g3⟩ := Tb.good_parts h
 exact ⟨(Tb.goE_rise t.ch t.first none g3).1, g1⟩
/- what Look says is wrong -/
def Tb.lookErr (t : Tb.Tbl) (at_ : Int) : Int := if Tb.tableE t ≠ 0 then Tb.tableE t else if Tb.inYears at_ = false then 3 else 0
def Tb.lookO (t : Tb.Tbl) (at_ : Int) : Tb.Lc := if Tb.lookErr t at_ = 0 then Tb.look t at_ else lc0
theorem pLook_any (t : Tb.Tbl) (v : Value) (n : Int) (w : World) (h : RdCh w v t.ch) (hS : Tb.Sized t) :
  Calls Tryz.prog 32 #[tbV t.first v, .int .i64 n] w fun e w' => e = .returned (.tuple #[lcV (Tb.lookO t n), .int .i64 (Tb.lookErr t n)]) ∧ Below w.heap.size w w' := by
 have h' := h
 obtain ⟨a, cap, rfl, hc⟩ := h'
 clear hc
 obtain ⟨E, hE⟩ : ∃ E, Tb.tableE t = E := ⟨_, rfl⟩
 obtain ⟨T, hT⟩ : ∃ T, Tb.inYears n = T := ⟨_, rfl⟩
 have HC : Hid (∀ W, Below w.heap.size w W → Calls Tryz.prog 31 #[tbV t.first (.slice a t.ch.length cap)] W fun e w' => e = .returned (.int .i64 E) ∧ Below W.heap.size W w') := fun W hW => by
  rw [← hE]; exact pCheck_any t _ W (rdCh_below h hW) hS
 have HM : Hid (E = 0 → ∀ W, Below w.heap.size w W → Calls Tryz.prog 75 #[tbV t.first (.slice a t.ch.length cap), .int .i64 n] W fun e w' => e = .returned (lcV (Tb.look t n)) ∧ Below W.heap.size W w') := fun h0 W hW =>
  momentLocal_any t _ n W (rdCh_below h hW) (rise_of_good (hE.trans h0)).1 (rise_of_good (hE.trans h0)).2
 have HT := hid hT
 obtain ⟨R, hR⟩ : ∃ R, Tb.lookErr t n = R := ⟨_, rfl⟩
 have HR : Hid (R = if E ≠ 0 then E else if T = false then 3 else 0) := by show _ = _; rw [← hR, Tb.lookErr, hE, hT]
 obtain ⟨K, hK⟩ : ∃ K, Tb.look t n = K := ⟨_, rfl⟩
 obtain ⟨Q, hQ⟩ : ∃ Q, Tb.lookO t n = Q := ⟨_, rfl⟩
 have HQ : Hid (Q = if R = 0 then K else lc0) := by show _ = _; rw [← hQ, Tb.lookO, hR, hK]
 rw [hR, hQ]
 rw [hK] at HM
 obtain ⟨f, ch⟩ := t
 dsimp only at HC HM ⊢
 clear hE hT hR h hS hK hQ
 obtain ⟨W0, hW⟩ : ∃ W0, (w.alloc (.cells (tbL f (.slice a ch.length cap)).toArray 76)).alloc (.cells (lcL lc0).toArray 31) = W0 := ⟨_, rfl⟩
 have B0 : Hid (Below w.heap.size w W0) := by
  rw [← hW]
  exact ((Below.refl _ _).alloc (Nat.le_refl _) _).alloc (by simp) _
 have X0 : Hid (CellsAt W0 w.heap.size (tbL f (.slice a ch.length cap))) := by rw [← hW]; exact ca_alloc (ca_new _ _ _) _
 have Z0 : Hid (CellsAt W0 (w.heap.size + 1) (lcL lc0)) := by
  rw [← hW]; show CellsAt _ _ _
  have := ca_new (w.alloc (.cells (tbL f (.slice a ch.length cap)).toArray 76)) (lcL lc0) 31
  simpa using this
 have HS := hid (HC.out W0 B0.out)
 have HW := hid hW
 clear hW HC
 rw [← HW.out] at HS
 go_enter Tryz.func32, Tryz.ntmps32
 go_wp2_with fail
 refine HS.out.mono ?_
 rintro e w1 ⟨rfl, hb1⟩
 rw [HW.out] at hb1
 have XU := hid (ca_below X0.out hb1)
 have ZU := hid (ca_below Z0.out hb1)
 have BU : Hid (Below w.heap.size w w1) := B0.out.trans (hb1.mono B0.out.size)
 clear HS X0 Z0 B0 HW hb1
 obtain ⟨x0, f0⟩ := ca_at XU.out 0 rfl
 obtain ⟨x1, f1⟩ := ca_at XU.out 1 rfl
 obtain ⟨x2, f2⟩ := ca_at XU.out 2 rfl
 obtain ⟨x3, f3⟩ := ca_at XU.out 3 rfl
 obtain ⟨z0, g0⟩ := ca_at ZU.out 0 rfl
 obtain ⟨z1, g1⟩ := ca_at ZU.out 1 rfl
 obtain ⟨z2, g2⟩ := ca_at ZU.out 2 rfl
 have sx := XU.out.1
 have sz := ZU.out.1
 by_cases h0 : E = 0
 case neg =>
  have HR2 : Hid (R = E) := by show _ = _; rw [HR.out, if_pos h0]
  have h0' : (E != 0) = true := by simp [h0]
  have HR3 : Hid (Q = lc0) := by show _ = _; rw [HQ.out, HR2.out, if_neg h0]
  clear HR HM HQ
  go_wp2
  refine bodyPost_ret (v := .tuple #[lcV lc0, .int .i64 E]) (by simp [results, Tryz.results32, go_sem, lc0, *]) rfl ⟨by rw [HR3.out, HR2.out], ?_⟩
  exact below_set (below_set (below_set BU.out (by omega) _) (by omega) _) (by omega) _
 have HM2 := hid (HM.out h0 w1 BU.out)
 subst h0
 clear HM
 cases T
 case false =>
  have HR2 : Hid (R = 3) := by show _ = _; rw [HR.out]; rfl
  have HR3 : Hid (Q = lc0) := by show _ = _; rw [HQ.out, HR2.out]; rfl
  clear HR HM2 HQ
  go_wp2_with (go_at_call 47; refine (pInYears_is _ _ HT.out).mono ?_; rintro e w2 ⟨rfl, rfl⟩)
  refine bodyPost_ret (v := .tuple #[lcV lc0, .int .i64 3]) (by simp [results, Tryz.results32, go_sem, lc0, *]) rfl ⟨by rw [HR3.out, HR2.out], ?_⟩
  exact below_set (below_set (below_set BU.out (by omega) _) (by omega) _) (by omega) _
 case true =>
  have HR2 : Hid (R = 0) := by show _ = _; rw [HR.out]; rfl
  have HR3 : Hid (Q = K) := by show _ = _; rw [HQ.out, HR2.out]; rfl
  clear HR HQ
  go_wp2_with (go_at_call 47; refine (pInYears_is _ _ HT.out).mono ?_; rintro e w2 ⟨rfl, rfl⟩)
  refine HM2.out.mono ?_
  rintro e w5 ⟨rfl, hb5⟩
  have ZV := hid (ca_below ZU.out hb5)
  have BV : Hid (Below w.heap.size w w5) := BU.out.trans (hb5.mono BU.out.size)
  clear HM2 XU ZU BU hb5 x0 f0 x1 f1 x2 f2 x3 f3 z0 g0 z1 g1 z2 g2 sx sz
  obtain ⟨z0, g0⟩ := ca_at ZV.out 0 rfl
  obtain ⟨z1, g1⟩ := ca_at ZV.out 1 rfl
  obtain ⟨z2, g2⟩ := ca_at ZV.out 2 rfl
  have sz := ZV.out.1
  go_wp2
  refine bodyPost_ret (v := .tuple #[lcV K, .int .i64 0]) (by simp [results, Tryz.results32, go_sem, lc0, *]) rfl ⟨by rw [HR3.out, HR2.out], ?_⟩
  exact below_set (below_set (below_set BV.out (by omega) _) (by omega) _) (by omega) _
end Go.Proofs.YtkhlkohlccndgaaGreat
namespace Go.Proofs.YtkhlkohlccndgaaGreat
open Go.RowKit

def smA : Tb.Lc := ⟨3600, 0, [65]⟩
def smB : Tb.Lc := ⟨7200, 3600, [66]⟩
def sm : Tb.Tbl := ⟨smA, [⟨100, smB⟩, ⟨90000, smA⟩]⟩
theorem sm_sized : Tb.Sized sm := ⟨by unfold maxLen; decide, by unfold maxLen; decide, by intro c hc; unfold maxLen; simp [sm, smA, smB] at hc; rcases hc with rfl | rfl <;> decide⟩
theorem small_any (w : World) : Calls Tryz.prog 70 #[] w fun e w' => ∃ v, e = .returned (tbV sm.first v) ∧ RdCh w' v sm.ch ∧ Below w.heap.size w w' := by
 go_enter Tryz.func70, Tryz.ntmps70
 go_wp2
 refine bodyPost_ret (v := tbV sm.first (.slice (some ⟨w.heap.size + 1 + 1 + 1, 0, none⟩) 2 2)) (by simp [results, Tryz.results70, go_sem, sm, smA, *]) rfl ⟨_, rfl, ?_, ?_⟩
 ·have := World.ownsRow_lit (base := 0) (e := 86) (size := 4) (((w.alloc (.cells #[.int .i64 3600, .int .i64 0, .string ⟨#[65]⟩, .slice (some ⟨w.heap.size + 1 + 1 + 1, 0, none⟩) 2 2] 76)).alloc (.cells #[.int .i64 3600, .int .i64 0, .string ⟨#[65]⟩] 31)).alloc (.cells #[.int .i64 7200, .int .i64 3600, .string ⟨#[66]⟩] 31)) #[.int .i64 100, .int .i64 7200, .int .i64 3600, .string ⟨#[66]⟩, .int .i64 90000, .int .i64 3600, .int .i64 0, .string ⟨#[65]⟩] 2 (Nat.zero_le _) (by unfold maxLen; decide) rfl
  simp only [World.size_alloc] at this
  exact own_rd cgCells_len (xs := sm.ch) this
 ·exact ((((Below.refl _ _).alloc (Nat.le_refl _) _).alloc (by simp) _).alloc (by simp; omega) _).alloc (by simp; omega) _
end Go.Proofs.YtkhlkohlccndgaaGreat
namespace Go.Proofs.YtkhlkohlccndgaaGreat
open Go.RowKit Go.Shelf
attribute [local go_sem] Oper.semAt_some
attribute [local go_sem ↓] Go.wp_at_zero Go.wp_at_succ

def ch0 : List Tb.Cg := (compT src0 [⟨town0, none, 0⟩] oldB).ch
def lmt : Tb.Lc := ⟨600, 0, [76, 77, 84]⟩
set_option maxRecDepth 1000000 in
theorem comp0E (a : Option Addr) (c : Nat) : compE src0 [⟨town0, a, c⟩] oldB = 0 := by kernel_rfl
set_option maxRecDepth 1000000 in
theorem comp0T (a : Option Addr) (c : Nat) : compT src0 [⟨town0, a, c⟩] oldB = ⟨lmt, ch0⟩ := by kernel_rfl
set_option maxRecDepth 1000000 in
theorem ch0_len : ch0.length = 211 := by kernel_rfl
set_option maxRecDepth 1000000 in
theorem ch0_good : Tb.tableE ⟨lmt, ch0⟩ = 0 := by kernel_rfl
set_option maxRecDepth 1000000 in
theorem ch0_short : ch0.all (fun c => decide (c.lc.name.length ≤ 24)) = true := by kernel_rfl
theorem sizedT_of {f : Tb.Lc} {ch : List Tb.Cg} {n : Nat} (h1 : ch.length = n) (hn : n ≤ 1000) (h2 : ch.all (fun c => decide (c.lc.name.length ≤ 24)) = true) (h3 : f.name.length ≤ 24) : Tb.Sized ⟨f, ch⟩ := by
 refine ⟨by simp only; unfold maxLen; omega, by simp only; unfold maxLen; omega, fun c hc => ?_⟩
 have := List.all_eq_true.1 h2 c hc
 simp at this
 unfold maxLen
 omega
theorem ch0_sized : Tb.Sized ⟨lmt, ch0⟩ := sizedT_of ch0_len (by omega) ch0_short (by decide)
theorem compile0 {w : World} {r z l : Value} (h : Made w r z l) : Calls Tryz.prog 30 #[.agg #[r, z, l], strV oldB] w fun e w' => ∃ cv, e = .returned (.tuple #[.agg #[.int .i64 600, .int .i64 0, .string ⟨#[76, 77, 84]⟩, cv], .int .i64 0]) ∧ OwnCh w' w.heap.size cv ch0 ∧ Below w.heap.size w w' := by
 obtain ⟨ra, za, la, rcap, zcap, lcap, a, c, m, rfl, rfl, rfl, hs⟩ := made_in h
 have q := compile_any src0 [⟨town0, a, c⟩] ra za la rcap zcap lcap m oldB w hs
 rw [comp0E, comp0T] at q
 dsimp only [lmt, strV] at q
 exact q
theorem small_lit (w : World) : Calls Tryz.prog 70 #[] w fun e w' => ∃ b o c, e = .returned (.agg #[.int .i64 3600, .int .i64 0, .string ⟨#[65]⟩, .slice (some ⟨b, o, none⟩) 2 c]) ∧ RdCh w' (.slice (some ⟨b, o, none⟩) 2 c) sm.ch ∧
  (b < w'.heap.size ∧ w'.cell? ⟨b, o + 1, none⟩ = some (.int .i64 7200) ∧ w'.cell? ⟨b, o + 2, none⟩ = some (.int .i64 3600) ∧ w'.cell? ⟨b, o + 3, none⟩ = some (.string ⟨#[66]⟩)) ∧ Below w.heap.size w w' := by
 refine (small_any w).mono ?_
 rintro e w' ⟨v, rfl, r, hb⟩
 obtain ⟨b, o, c, rfl, h, c0, c1, c2, c3⟩ := rdCh_at r (show sm.ch[0]? = some ⟨100, smB⟩ from rfl)
 exact ⟨b, o, c, rfl, r, ⟨h, by simpa [smB] using c1, by simpa [smB] using c2, by simpa [smB] using c3⟩, hb⟩
theorem look100 : Tb.lookErr sm 100 = 0 ∧ Tb.lookO sm 100 = smB := by decide
theorem look99 : Tb.lookErr sm 99 = 0 ∧ Tb.lookO sm 99 = smA := by decide
theorem made_ofD {w w1 : World} {B : Nat} {r z l : Value} {m : Int} (hm : w.cell? ⟨0, 0, none⟩ = some (.int .i64 m)) (h0 : 0 < w.heap.size) (hb : Below w.heap.size w w1) (h : OwnSrc w1 B r z l src0) : Made w1 r z l :=
 ⟨⟨B, h⟩, ⟨m, (hb.cell (p := ⟨0, 0, none⟩) h0).trans hm⟩, Nat.lt_of_lt_of_le h0 hb.size⟩
theorem tableBegun_is (m : Int) (w : World) (hm : w.cell? ⟨0, 0, none⟩ = some (.int .i64 m)) (h0 : 0 < w.heap.size) : Calls Tryz.prog 29 #[] w fun e w' => e = .returned (.bool true) ∧ Below w.heap.size w w' := by
 have HM := hid hm
 have H0 := hid h0
 clear hm h0
 go_enter Tryz.func29, Tryz.ntmps29
 go_wp2_with fail
 refine (parsed_any _).mono ?_
 rintro e w1 ⟨r, z, l, rfl, hown, hb⟩
 have B : Hid (Below w.heap.size w w1) := hb
 have MD := hid (made_ofD HM.out H0.out B.out hown)
 clear hown hb
 have CP := hid (compile0 MD.out)
 go_wp2_with fail
 refine CP.out.mono ?_
 rintro e w2 ⟨cv, rfl, hO, hb⟩
 replace B := hid (below_on B.out B.out.size hb)
 have RC := hid (ownCh_rd hO)
 obtain ⟨ca, cc, rfl⟩ := owns_shape0 hO
 clear hO hb CP MD
 rw [ch0_len] at *
 obtain ⟨w3, g3, TT0, hb, sz⟩ := named_new w2 #[.int .i64 600, .int .i64 0, .string ⟨#[76, 77, 84]⟩, .slice ca 211 cc] 76
 obtain ⟨bT, hbT⟩ : ∃ b, w2.heap.size = b := ⟨_, rfl⟩
 have TT : Hid (CellsAt w3 bT [.int .i64 600, .int .i64 0, .string ⟨#[76, 77, 84]⟩, .slice ca 211 cc]) := hbT ▸ TT0
 replace B := hid (below_on B.out B.out.size hb)
 replace RC := hid (rdCh_below RC.out hb)
 clear hb sz TT0
 go_wp2_with fail
 refine (small_lit _).mono ?_
 rintro e w4 ⟨b4, o4, k4, rfl, r4, _, hb⟩
 replace B := hid (below_on B.out B.out.size hb)
 replace RC := hid (rdCh_below RC.out hb)
 replace TT := hid (ca_below TT.out hb)
 have CL := pLook_any sm _ 100 w4 r4 sm_sized
 rw [look100.1, look100.2] at CL
 have CLH : Hid (Calls Tryz.prog 32 #[.agg #[.int .i64 3600, .int .i64 0, .string ⟨#[65]⟩, .slice (some ⟨b4, o4, none⟩) 2 k4], .int .i64 100] w4 fun e w' => e = .returned (.tuple #[.agg #[.int .i64 7200, .int .i64 3600, .string ⟨#[66]⟩], .int .i64 0]) ∧ Below w4.heap.size w4 w') := CL
 clear hb r4 CL g3 hbT
 go_wp2_with fail
 refine CLH.out.mono ?_
 rintro e w5 ⟨rfl, hb⟩
 replace B := hid (below_on B.out B.out.size hb)
 replace RC := hid (rdCh_below RC.out hb)
 replace TT := hid (ca_below TT.out hb)
 clear CLH hb
 obtain ⟨w6, g6, L30, hb, sz⟩ := named_new w5 #[.int .i64 7200, .int .i64 3600, .string ⟨#[66]⟩] 31
 obtain ⟨b3, hb3⟩ : ∃ b, w5.heap.size = b := ⟨_, rfl⟩
 have LL3 : Hid (CellsAt w6 b3 [.int .i64 7200, .int .i64 3600, .string ⟨#[66]⟩]) := hb3 ▸ L30
 replace B := hid (below_on B.out B.out.size hb)
 replace RC := hid (rdCh_below RC.out hb)
 replace TT := hid (ca_below TT.out hb)
 clear hb sz L30
 go_wp2_with fail
 refine (small_lit _).mono ?_
 rintro e w7 ⟨b7, o7, k7, rfl, r7, _, hb⟩
 replace B := hid (below_on B.out B.out.size hb)
 replace RC := hid (rdCh_below RC.out hb)
 replace TT := hid (ca_below TT.out hb)
 replace LL3 := hid (ca_below LL3.out hb)
 have CL := pLook_any sm _ 99 w7 r7 sm_sized
 rw [look99.1, look99.2] at CL
 have CLH : Hid (Calls Tryz.prog 32 #[.agg #[.int .i64 3600, .int .i64 0, .string ⟨#[65]⟩, .slice (some ⟨b7, o7, none⟩) 2 k7], .int .i64 99] w7 fun e w' => e = .returned (.tuple #[.agg #[.int .i64 3600, .int .i64 0, .string ⟨#[65]⟩], .int .i64 0]) ∧ Below w7.heap.size w7 w') := CL
 clear hb r7 CL g6 hb3
 go_wp2_with fail
 refine CLH.out.mono ?_
 rintro e w8 ⟨rfl, hb⟩
 replace B := hid (below_on B.out B.out.size hb)
 replace RC := hid (rdCh_below RC.out hb)
 replace TT := hid (ca_below TT.out hb)
 replace LL3 := hid (ca_below LL3.out hb)
 clear CLH hb
 obtain ⟨W, g9, L50, hb, sz⟩ := named_new w8 #[.int .i64 3600, .int .i64 0, .string ⟨#[65]⟩] 31
 obtain ⟨b5, hb5⟩ : ∃ b, w8.heap.size = b := ⟨_, rfl⟩
 have LL5 : Hid (CellsAt W b5 [.int .i64 3600, .int .i64 0, .string ⟨#[65]⟩]) := hb5 ▸ L50
 replace B := hid (below_on B.out B.out.size hb)
 replace RC := hid (rdCh_below RC.out hb)
 replace TT := hid (ca_below TT.out hb)
 replace LL3 := hid (ca_below LL3.out hb)
 clear hb sz L50
 have SS : Hid (W.cell? ⟨bT, 0, none⟩ = some (.int .i64 600) ∧ W.cell? ⟨bT, 1, none⟩ = some (.int .i64 0) ∧ W.cell? ⟨bT, 2, none⟩ = some (.string ⟨#[76, 77, 84]⟩) ∧ W.cell? ⟨bT, 3, none⟩ = some (.slice ca 211 cc) ∧ W.cell? ⟨b3, 0, none⟩ = some (.int .i64 7200) ∧ W.cell? ⟨b3, 1, none⟩ = some (.int .i64 3600) ∧ W.cell? ⟨b3, 2, none⟩ = some (.string ⟨#[66]⟩) ∧ W.cell? ⟨b5, 0, none⟩ = some (.int .i64 3600) ∧ W.cell? ⟨b5, 1, none⟩ = some (.int .i64 0) ∧ W.cell? ⟨b5, 2, none⟩ = some (.string ⟨#[65]⟩)) := ⟨(ca_at TT.out 0 rfl).1, (ca_at TT.out 1 rfl).1, (ca_at TT.out 2 rfl).1, (ca_at TT.out 3 rfl).1, (ca_at LL3.out 0 rfl).1, (ca_at LL3.out 1 rfl).1, (ca_at LL3.out 2 rfl).1, (ca_at LL5.out 0 rfl).1, (ca_at LL5.out 1 rfl).1, (ca_at LL5.out 2 rfl).1⟩
 have KS : Hid (∀ w', Below W.heap.size W w' → w'.cell? ⟨bT, 0, none⟩ = some (.int .i64 600) ∧ w'.cell? ⟨bT, 1, none⟩ = some (.int .i64 0) ∧ w'.cell? ⟨bT, 2, none⟩ = some (.string ⟨#[76, 77, 84]⟩) ∧ w'.cell? ⟨bT, 3, none⟩ = some (.slice ca 211 cc) ∧ w'.cell? ⟨b3, 0, none⟩ = some (.int .i64 7200) ∧ w'.cell? ⟨b3, 1, none⟩ = some (.int .i64 3600) ∧ w'.cell? ⟨b3, 2, none⟩ = some (.string ⟨#[66]⟩) ∧ w'.cell? ⟨b5, 0, none⟩ = some (.int .i64 3600) ∧ w'.cell? ⟨b5, 1, none⟩ = some (.int .i64 0) ∧ w'.cell? ⟨b5, 2, none⟩ = some (.string ⟨#[65]⟩)) := fun w' hb => by
  have a := ca_below TT.out hb
  have b := ca_below LL3.out hb
  have c := ca_below LL5.out hb
  exact ⟨(ca_at a 0 rfl).1, (ca_at a 1 rfl).1, (ca_at a 2 rfl).1, (ca_at a 3 rfl).1, (ca_at b 0 rfl).1, (ca_at b 1 rfl).1, (ca_at b 2 rfl).1, (ca_at c 0 rfl).1, (ca_at c 1 rfl).1, (ca_at c 2 rfl).1⟩
 have HCK : Hid (∀ w', Below W.heap.size W w' → Calls Tryz.prog 31 #[.agg #[.int .i64 600, .int .i64 0, .string ⟨#[76, 77, 84]⟩, .slice ca 211 cc]] w' fun e w'' => e = .returned (.int .i64 0) ∧ Below w'.heap.size w' w'') := fun w' hb => by
  have q := pCheck_any ⟨lmt, ch0⟩ (.slice ca 211 cc) w' (rdCh_below RC.out hb) ch0_sized
  rw [ch0_good] at q
  exact q
 have f1 : ∀ (a b c d : Value) (w : World), (Instr.field 76 (.agg #[a, b, c, d]) 1).run Tryz.prog w = .ok d w := fun _ _ _ _ _ => by kernel_rfl
 have f0 : ∀ (a b c d : Value) (w : World), (Instr.field 76 (.agg #[a, b, c, d]) 0).run Tryz.prog w = .ok (.agg #[a, b, c]) w := fun _ _ _ _ _ => by kernel_rfl
 clear RC TT LL3 LL5
 go_upto_region 4 with fail
 clear g9 hb5
 refine wp_region_held_drew (S := fun w' => w'.cell? ⟨bT, 0, none⟩ = some (.int .i64 600) ∧ w'.cell? ⟨bT, 1, none⟩ = some (.int .i64 0) ∧ w'.cell? ⟨bT, 2, none⟩ = some (.string ⟨#[76, 77, 84]⟩) ∧ w'.cell? ⟨bT, 3, none⟩ = some (.slice ca 211 cc) ∧ w'.cell? ⟨b3, 0, none⟩ = some (.int .i64 7200) ∧ w'.cell? ⟨b3, 1, none⟩ = some (.int .i64 3600) ∧ w'.cell? ⟨b3, 2, none⟩ = some (.string ⟨#[66]⟩) ∧ w'.cell? ⟨b5, 0, none⟩ = some (.int .i64 3600) ∧ w'.cell? ⟨b5, 1, none⟩ = some (.int .i64 0) ∧ w'.cell? ⟨b5, 2, none⟩ = some (.string ⟨#[65]⟩)) (by kernel_rfl) SS.out (fun hHeld => ?_)
 refine tkH 0 ?vz1 rfl ?z1 ?_
 case z1 => (intro w hSw; (obtain ⟨p0, p1, p2, p3, q0, q1, q2, u0, u1, u2⟩ := hSw); go_simp; try with_reducible rfl)
 try simp only [Act.put, jP, jO, jS, jG, jH, jI]
 refine tkH 1 ?vz2 rfl ?z2 ?_
 case z2 => (intro w hSw; (obtain ⟨p0, p1, p2, p3, q0, q1, q2, u0, u1, u2⟩ := hSw); go_simp; try with_reducible rfl)
 try simp only [Act.put, jP, jO, jS, jG, jH, jI]
 refine tkH 2 ?vz3 rfl ?z3 ?_
 case z3 => (intro w hSw; (obtain ⟨p0, p1, p2, p3, q0, q1, q2, u0, u1, u2⟩ := hSw); go_simp; try with_reducible rfl)
 try simp only [Act.put, jP, jO, jS, jG, jH, jI]
 refine tkH 3 ?vz4 rfl ?z4 ?_
 case z4 => (intro w hSw; (obtain ⟨p0, p1, p2, p3, q0, q1, q2, u0, u1, u2⟩ := hSw); go_simp; try with_reducible rfl)
 try simp only [Act.put, jP, jO, jS, jG, jH, jI]
 refine tkH 4 ?vz5 rfl ?z5 ?_
 case z5 => (intro w hSw; (obtain ⟨p0, p1, p2, p3, q0, q1, q2, u0, u1, u2⟩ := hSw); go_simp; try with_reducible rfl)
 try simp only [Act.put, jP, jO, jS, jG, jH, jI]
 refine tkH 5 ?vz6 rfl ?z6 ?_
 case z6 => (intro w hSw; (obtain ⟨p0, p1, p2, p3, q0, q1, q2, u0, u1, u2⟩ := hSw); go_simp; try with_reducible rfl)
 try simp only [Act.put, jP, jO, jS, jG, jH, jI]
 refine tkH 6 ?vz7 rfl ?z7 ?_
 case z7 => (intro w hSw; (obtain ⟨p0, p1, p2, p3, q0, q1, q2, u0, u1, u2⟩ := hSw); go_simp; try with_reducible rfl)
 try simp only [Act.put, jP, jO, jS, jG, jH, jI]
 refine tkH 7 ?vz8 rfl ?z8 ?_
 case z8 => (intro w hSw; (obtain ⟨p0, p1, p2, p3, q0, q1, q2, u0, u1, u2⟩ := hSw); go_simp; try with_reducible rfl)
 try simp only [Act.put, jP, jO, jS, jG, jH, jI]
 refine tkH 8 ?vz9 rfl ?z9 ?_
 case z9 => (intro w hSw; (obtain ⟨p0, p1, p2, p3, q0, q1, q2, u0, u1, u2⟩ := hSw); go_simp; try with_reducible rfl)
 try simp only [Act.put, jP, jO, jS, jG, jH, jI]
 refine tkH 9 ?vz10 rfl ?z10 ?_
 case z10 => (intro w hSw; (obtain ⟨p0, p1, p2, p3, q0, q1, q2, u0, u1, u2⟩ := hSw); go_simp; try with_reducible rfl)
 try simp only [Act.put, jP, jO, jS, jG, jH, jI]
 refine tkH 10 ?vz11 rfl ?z11 ?_
 case z11 => (intro w hSw; (obtain ⟨p0, p1, p2, p3, q0, q1, q2, u0, u1, u2⟩ := hSw); go_simp; try with_reducible rfl)
 try simp only [Act.put, jP, jO, jS, jG, jH, jI]
 refine tkH 11 ?vz12 rfl ?z12 ?_
 case z12 => (intro w hSw; (obtain ⟨p0, p1, p2, p3, q0, q1, q2, u0, u1, u2⟩ := hSw); go_simp; try with_reducible rfl)
 try simp only [Act.put, jP, jO, jS, jG, jH, jI]
 refine rdH 12 rfl fun K hK => ?_
 go_simp
 refine (HCK.out _ (show Below W.heap.size W W.drew from ⟨rfl, rfl, rfl, Nat.le_refl _, fun _ _ => rfl⟩)).mono ?_
 rintro e x1 ⟨rfl, hb⟩
 have hx1 := below_drew1 hb
 have S1 := KS.out x1 hx1
 refine hK.out _ _ ?_ (fun hHeld => ?_)
 ·exact S1
 clear hK K
 try simp only [Act.put, jP, jO, jS, jG, jH, jI]
 refine tkH 13 ?vz13 rfl ?z13 ?_
 case z13 => (intro w hSw; (obtain ⟨p0, p1, p2, p3, q0, q1, q2, u0, u1, u2⟩ := hSw); go_simp; try with_reducible rfl)
 try simp only [Act.put, jP, jO, jS, jG, jH, jI]
 refine tkH 14 ?vz14 rfl ?z14 ?_
 case z14 => (intro w hSw; (obtain ⟨p0, p1, p2, p3, q0, q1, q2, u0, u1, u2⟩ := hSw); go_simp; try with_reducible rfl)
 try simp only [Act.put, jP, jO, jS, jG, jH, jI]
 refine tkH 15 ?vz15 rfl ?z15 ?_
 case z15 => (intro w hSw; (obtain ⟨p0, p1, p2, p3, q0, q1, q2, u0, u1, u2⟩ := hSw); go_simp; try with_reducible rfl)
 try simp only [Act.put, jP, jO, jS, jG, jH, jI]
 refine tkH 16 ?vz16 rfl ?z16 ?_
 case z16 => (intro w hSw; (obtain ⟨p0, p1, p2, p3, q0, q1, q2, u0, u1, u2⟩ := hSw); go_simp; try with_reducible rfl)
 try simp only [Act.put, jP, jO, jS, jG, jH, jI]
 refine tkH 17 ?vz17 rfl ?z17 ?_
 case z17 => (intro w hSw; (obtain ⟨p0, p1, p2, p3, q0, q1, q2, u0, u1, u2⟩ := hSw); go_simp; try with_reducible rfl)
 try simp only [Act.put, jP, jO, jS, jG, jH, jI]
 refine tkH 18 ?vz18 rfl ?z18 ?_
 case z18 => (intro w hSw; (obtain ⟨p0, p1, p2, p3, q0, q1, q2, u0, u1, u2⟩ := hSw); go_simp; try with_reducible rfl)
 try simp only [Act.put, jP, jO, jS, jG, jH, jI]
 refine tkH 19 ?vz19 rfl ?z19 ?_
 case z19 => (intro w hSw; (obtain ⟨p0, p1, p2, p3, q0, q1, q2, u0, u1, u2⟩ := hSw); go_simp; try with_reducible rfl)
 try simp only [Act.put, jP, jO, jS, jG, jH, jI]
 refine tkH 20 ?vz20 rfl ?z20 ?_
 case z20 => (intro w hSw; (obtain ⟨p0, p1, p2, p3, q0, q1, q2, u0, u1, u2⟩ := hSw); go_simp; try with_reducible rfl)
 try simp only [Act.put, jP, jO, jS, jG, jH, jI]
 refine tkH 21 ?vz21 rfl ?z21 ?_
 case z21 => (intro w hSw; (obtain ⟨p0, p1, p2, p3, q0, q1, q2, u0, u1, u2⟩ := hSw); go_simp; try with_reducible rfl)
 try simp only [Act.put, jP, jO, jS, jG, jH, jI]
 refine tkH 22 ?vz22 rfl ?z22 ?_
 case z22 => (intro w hSw; (obtain ⟨p0, p1, p2, p3, q0, q1, q2, u0, u1, u2⟩ := hSw); go_simp; try with_reducible rfl)
 try simp only [Act.put, jP, jO, jS, jG, jH, jI]
 refine tkH 23 ?vz23 rfl ?z23 ?_
 case z23 => (intro w hSw; (obtain ⟨p0, p1, p2, p3, q0, q1, q2, u0, u1, u2⟩ := hSw); go_simp; try with_reducible rfl)
 try simp only [Act.put, jP, jO, jS, jG, jH, jI]
 refine tkH 24 ?vz24 rfl ?z24 ?_
 case z24 => (intro w hSw; (obtain ⟨p0, p1, p2, p3, q0, q1, q2, u0, u1, u2⟩ := hSw); go_simp; try with_reducible rfl)
 try simp only [Act.put, jP, jO, jS, jG, jH, jI]
 refine tkH 25 ?vz25 rfl ?z25 ?_
 case z25 => (intro w hSw; (obtain ⟨p0, p1, p2, p3, q0, q1, q2, u0, u1, u2⟩ := hSw); go_simp; try with_reducible rfl)
 try simp only [Act.put, jP, jO, jS, jG, jH, jI]
 refine tkH 26 ?vz26 rfl ?z26 ?_
 case z26 => (intro w hSw; (obtain ⟨p0, p1, p2, p3, q0, q1, q2, u0, u1, u2⟩ := hSw); go_simp; try with_reducible rfl)
 try simp only [Act.put, jP, jO, jS, jG, jH, jI]
 refine tkH 27 ?vz27 rfl ?z27 ?_
 case z27 => (intro w hSw; (obtain ⟨p0, p1, p2, p3, q0, q1, q2, u0, u1, u2⟩ := hSw); go_simp; try with_reducible rfl)
 try simp only [Act.put, jP, jO, jS, jG, jH, jI]
 refine tkH 28 ?vz28 rfl ?z28 ?_
 case z28 => (intro w hSw; (obtain ⟨p0, p1, p2, p3, q0, q1, q2, u0, u1, u2⟩ := hSw); go_simp; try with_reducible rfl)
 try simp only [Act.put, jP, jO, jS, jG, jH, jI]
 refine rdH 29 rfl fun K hK => ?_
 go_simp
 refine (small_lit x1).mono ?_
 rintro e x2 ⟨sb, so, sc, rfl, r2, ⟨hsb, c1, c2, c3⟩, hb2⟩
 have hx2 := hx1.trans (hb2.mono hx1.size)
 have S2 := KS.out x2 hx2
 refine hK.out _ _ ?_ (fun hHeld => ?_)
 ·exact S2
 clear hK K
 try simp only [Act.put, jP, jO, jS, jG, jH, jI]
 refine tkH 30 ?vz29 rfl ?z29 ?_
 case z29 => (intro w hSw; (obtain ⟨p0, p1, p2, p3, q0, q1, q2, u0, u1, u2⟩ := hSw); go_simp; try with_reducible rfl)
 try simp only [Act.put, jP, jO, jS, jG, jH, jI]
 refine tkH 31 ?vz30 rfl ?z30 ?_
 case z30 => (intro w hSw; (obtain ⟨p0, p1, p2, p3, q0, q1, q2, u0, u1, u2⟩ := hSw); go_simp; try with_reducible rfl)
 try simp only [Act.put, jP, jO, jS, jG, jH, jI]
 refine tkH 32 ?vz31 rfl ?z31 ?_
 case z31 => (intro w hSw; (obtain ⟨p0, p1, p2, p3, q0, q1, q2, u0, u1, u2⟩ := hSw); go_simp; try with_reducible rfl)
 try simp only [Act.put, jP, jO, jS, jG, jH, jI]
 refine rdH 33 rfl fun K hK => ?_
 go_simp
 have S3 := S2
 refine hK.out _ _ ?_ (fun hHeld => ?_)
 ·exact S3
 clear hK K
 try simp only [Act.put, jP, jO, jS, jG, jH, jI]
 refine tkH 34 ?vz32 rfl ?z32 ?_
 case z32 => (intro w hSw; (obtain ⟨p0, p1, p2, p3, q0, q1, q2, u0, u1, u2⟩ := hSw); go_simp; try with_reducible rfl)
 try simp only [Act.put, jP, jO, jS, jG, jH, jI]
 refine tkH 35 ?vz33 rfl ?z33 ?_
 case z33 => (intro w hSw; (obtain ⟨p0, p1, p2, p3, q0, q1, q2, u0, u1, u2⟩ := hSw); go_simp; try with_reducible rfl)
 try simp only [Act.put, jP, jO, jS, jG, jH, jI]
 refine tkH 36 ?vz34 rfl ?z34 ?_
 case z34 => (intro w hSw; (obtain ⟨p0, p1, p2, p3, q0, q1, q2, u0, u1, u2⟩ := hSw); go_simp; try with_reducible rfl)
 try simp only [Act.put, jP, jO, jS, jG, jH, jI]
 refine tkH 37 ?vz35 rfl ?z35 ?_
 case z35 => (intro w hSw; (obtain ⟨p0, p1, p2, p3, q0, q1, q2, u0, u1, u2⟩ := hSw); go_simp; try with_reducible rfl)
 try simp only [Act.put, jP, jO, jS, jG, jH, jI]
 refine rdH 38 rfl fun K hK => ?_
 go_simp
 refine (small_lit x2).mono ?_
 rintro e x3 ⟨sb3, so3, sc3, rfl, r3, _, hb3⟩
 have hx3 := hx2.trans (hb3.mono hx2.size)
 have S4 := KS.out x3 hx3
 refine hK.out _ _ ?_ (fun hHeld => ?_)
 ·exact S4
 clear hK K
 try simp only [Act.put, jP, jO, jS, jG, jH, jI]
 refine tkH 39 ?vz36 rfl ?z36 ?_
 case z36 => (intro w hSw; (obtain ⟨p0, p1, p2, p3, q0, q1, q2, u0, u1, u2⟩ := hSw); go_simp; try with_reducible rfl)
 try simp only [Act.put, jP, jO, jS, jG, jH, jI]
 refine tkH 40 ?vz37 rfl ?z37 ?_
 case z37 => (intro w hSw; (obtain ⟨p0, p1, p2, p3, q0, q1, q2, u0, u1, u2⟩ := hSw); go_simp; try with_reducible rfl)
 try simp only [Act.put, jP, jO, jS, jG, jH, jI]
 refine tkH 41 ?vz38 rfl ?z38 ?_
 case z38 => (intro w hSw; (obtain ⟨p0, p1, p2, p3, q0, q1, q2, u0, u1, u2⟩ := hSw); go_simp; try with_reducible rfl)
 try simp only [Act.put, jP, jO, jS, jG, jH, jI]
 refine tkH 42 ?vz39 rfl ?z39 ?_
 case z39 => (intro w hSw; (obtain ⟨p0, p1, p2, p3, q0, q1, q2, u0, u1, u2⟩ := hSw); go_simp; try with_reducible rfl)
 try simp only [Act.put, jP, jO, jS, jG, jH, jI]
 refine wpAnyH_done (by kernel_rfl) ?_ _
 go_wp2
 go_ret
 exact ⟨rfl, below_on B.out B.out.size hx3⟩
end Go.Proofs.YtkhlkohlccndgaaGreat
namespace Go.Proofs.YtkhlkohlccndgaaGreat
open Go.RowKit


theorem lookAt_any (t : Tb.Tbl) (v : Value) (n : Int) (w : World) (h : RdCh w v t.ch) (hl : t.ch.length ≤ 1000) :
  Calls Tryz.prog 34 #[tbV t.first v, .int .i64 n] w fun e w' => e = .returned (lcV (Tb.look t n)) ∧ Below w.heap.size w w' := by
 obtain ⟨f, ch⟩ := t
 obtain ⟨R, hR⟩ : ∃ R, Tb.look ⟨f, ch⟩ n = R := ⟨_, rfl⟩
 rw [hR]
 have HR : Hid (R = Tb.lookL f n (ch.drop 0)) := by show _ = _; rw [← hR]; simp [Tb.look]
 clear hR
 simp only at h hl
 have h' := h
 obtain ⟨a, cap, rfl, hc⟩ := h'
 have H := hid h
 clear h hc
 obtain ⟨W, hW⟩ : ∃ W, ((w.alloc (.cells (tbL f (.slice a ch.length cap)).toArray 76)).alloc (.cells (lcL lc0).toArray 31)).alloc (.cells (lcL f).toArray 31) = W := ⟨_, rfl⟩
 have B0 : Hid (Below w.heap.size w W) := by
  rw [← hW]; show Below _ _ _
  exact (((Below.refl _ _).alloc (Nat.le_refl _) _).alloc (by simp) _).alloc (by simp; omega) _
 have X0 : Hid (CellsAt W w.heap.size (tbL f (.slice a ch.length cap))) := by
  rw [← hW]; exact ca_alloc (ca_alloc (ca_new _ _ _) _) _
 have Y0 : Hid (CellsAt W (w.heap.size + 1) (lcL lc0)) := by
  rw [← hW]; show CellsAt _ _ _
  have := ca_alloc (ca_new (w.alloc (.cells (tbL f (.slice a ch.length cap)).toArray 76)) (lcL lc0) 31) (.cells (lcL f).toArray 31)
  simpa using this
 have Z0 : Hid (CellsAt W (w.heap.size + 1 + 1) (lcL f)) := by
  rw [← hW]; show CellsAt _ _ _
  have := ca_new ((w.alloc (.cells (tbL f (.slice a ch.length cap)).toArray 76)).alloc (.cells (lcL lc0).toArray 31)) (lcL f) 31
  simpa using this
 have HW := hid hW
 clear hW
 go_enter Tryz.func34, Tryz.ntmps34
 go_wp2_with fail
 go_loopw [6] (fun b wr => ∃ (i : Nat) (o : Tb.Lc), i ≤ ch.length ∧ b = .int .i64 i ∧ Hid (R = Tb.lookL o n (ch.drop i)) ∧ Hid (Below w.heap.size w wr) ∧ Hid (CellsAt wr w.heap.size (tbL f (.slice a ch.length cap))) ∧ Hid (CellsAt wr (w.heap.size + 1) (lcL lc0)) ∧ Hid (CellsAt wr (w.heap.size + 1 + 1) (lcL o))) (fun b _ => ch.length - (intOf b).toNat)
 case atStart => exact ⟨0, f, by omega, rfl, HR, by rw [← HW.out] at B0; exact B0, by rw [← HW.out] at X0; exact X0, by rw [← HW.out] at Y0; exact Y0, by rw [← HW.out] at Z0; exact Z0⟩
 case round =>
  clear HW B0 X0 Y0 Z0 HR
  obtain ⟨i, o, hi, rfl, HR, B0, X0, Y0, Z0⟩ := hrel
  obtain ⟨x3, f3⟩ := ca_at X0.out 3 rfl
  have sx := X0.out.1
  by_cases hlt : i < ch.length
  ·obtain ⟨c, hcc⟩ : ∃ c, ch[i]? = some c := ⟨_, List.getElem?_eq_getElem hlt⟩
   obtain ⟨bb, bo, bcap, e, hbb, c0, c1, c2, c3⟩ := rdCh_at (rdCh_below H.out B0.out) hcc
   simp only [Value.slice.injEq] at e
   obtain ⟨rfl, _, rfl⟩ := e
   have HC := hid hcc
   clear hcc
   by_cases hle : c.at_ ≤ n
   ·have HR2 := hid (Tb.lookL_yes HC.out HR.out hle)
    obtain ⟨z0, g0⟩ := ca_at Z0.out 0 rfl
    obtain ⟨z1, g1⟩ := ca_at Z0.out 1 rfl
    obtain ⟨z2, g2⟩ := ca_at Z0.out 2 rfl
    have sz := Z0.out.1
    clear HR HC
    go_wp2
    go_roundw
    case rel =>
     refine ⟨i + 1, c.lc, by omega, by go_num, HR2, ?_, ?_, ?_, ?_⟩
     ·exact below_set (below_set (below_set B0.out (by omega) _) (by omega) _) (by omega) _
     ·exact ca_far (ca_far (ca_far X0.out (by omega)) (by omega)) (by omega)
     ·exact ca_far (ca_far (ca_far Y0.out (by omega)) (by omega)) (by omega)
     ·exact ca_put (ca_put (ca_put Z0.out 0 _ (by simp)) 1 _ (by simp)) 2 _ (by simp)
    case measure => simp [intOf]; omega
   ·have HR2 := hid (Tb.lookL_no HC.out HR.out hle)
    clear HR HC
    go_wp2
    go_roundw
    case rel => exact ⟨i + 1, o, by omega, by go_num, HR2, B0, X0, Y0, Z0⟩
    case measure => simp [intOf]; omega
  ·have HR2 := hid (Tb.lookL_end hlt HR.out)
   obtain ⟨z0, g0⟩ := ca_at Z0.out 0 rfl
   obtain ⟨z1, g1⟩ := ca_at Z0.out 1 rfl
   obtain ⟨z2, g2⟩ := ca_at Z0.out 2 rfl
   obtain ⟨y0, q0⟩ := ca_at Y0.out 0 rfl
   obtain ⟨y1, q1⟩ := ca_at Y0.out 1 rfl
   obtain ⟨y2, q2⟩ := ca_at Y0.out 2 rfl
   have sz := Z0.out.1
   have sy := Y0.out.1
   clear HR
   go_wp2
   refine bodyPost_ret (v := lcV o) (by simp [results, Tryz.results34, go_sem, *]) rfl ⟨by rw [HR2.out], ?_⟩
   exact below_set (below_set (below_set B0.out (by omega) _) (by omega) _) (by omega) _
end Go.Proofs.YtkhlkohlccndgaaGreat
namespace Go.Proofs.YtkhlkohlccndgaaGreat
open Go.RowKit Go.Shelf
attribute [local go_sem] Oper.semAt_some
attribute [local go_sem ↓] Go.wp_at_zero Go.wp_at_succ

theorem rd_sets {α : Type} {z : Nat} {cells : α → List Value} {w w5 : World} {N q : Nat} {v : Value} {xs : List α} (h : Rd z cells w v xs ∧ w.heap.size = N) (hb : Below N w w5) (hq : N ≤ q) (a b c : Value) : Rd z cells (((w5.setCell ⟨q, 0, none⟩ a).setCell ⟨q, 1, none⟩ b).setCell ⟨q, 2, none⟩ c) v xs := by
 obtain ⟨h, rfl⟩ := h
 exact rd_below h (below_put (below_put (below_put hb hq 0 a) hq 1 b) hq 2 c)
structure MaxC (m : Int) (w : World) : Prop where
 c : w.cell? ⟨0, 0, none⟩ = some (.int .i64 m)
 p : 0 < w.heap.size
theorem ca_m {N : Nat} {w w' : World} {m : Int} (hb : Below N w w') (h : MaxC m w ∧ w.heap.size = N) : w'.cell? ⟨0, 0, none⟩ = some (.int .i64 m) := (hb.cell (p := ⟨0, 0, none⟩) (by have := h.1.p; have := h.2; show 0 < N; omega)).trans h.1.c
theorem ca_p {N : Nat} {w w' : World} {m : Int} (hb : Below N w w') (h : MaxC m w ∧ w.heap.size = N) : 0 < w'.heap.size := Nat.lt_of_lt_of_le h.1.p hb.size
theorem tableTells_is (t : Tb.Tbl) (v : Value) (n : Int) (w : World) (h : RdCh w v t.ch) (hs : Tb.Sized t) (m : Int) (hm : w.cell? ⟨0, 0, none⟩ = some (.int .i64 m)) (h0 : 0 < w.heap.size) :
  Calls Tryz.prog 9 #[tbV t.first v, .int .i64 n] w fun e w' => e = .returned (.bool true) ∧ Below w.heap.size w w' := by
 obtain ⟨f, ch⟩ := t
 obtain ⟨a, cap, hv, _⟩ := id h
 dsimp only at hv h
 subst hv
 obtain ⟨N, hN⟩ : ∃ N, w.heap.size = N := ⟨_, rfl⟩
 have HM : Hid (MaxC m w ∧ w.heap.size = N) := ⟨⟨hm, h0⟩, hN⟩
 obtain ⟨V, gV, T0, hb, sz⟩ := named_new w #[.int .i64 f.shift, .int .i64 f.save, .string ⟨f.name.toArray⟩, .slice a ch.length cap] 76
 have TT : Hid (CellsAt V N [.int .i64 f.shift, .int .i64 f.save, .string ⟨f.name.toArray⟩, .slice a ch.length cap]) := hN ▸ T0
 have B : Hid (Below N w V) := hN ▸ hb
 have RC := hid (rdCh_below h hb)
 have rdCh_of0 : Hid (RdCh w (.slice a ch.length cap) ch ∧ w.heap.size = N) := ⟨h, hN⟩
 have HS := hid hs
 obtain ⟨E, hE⟩ : ∃ E, Tb.tableE ⟨f, ch⟩ = E := ⟨_, rfl⟩
 have HE := hid hE
 obtain ⟨R, hR⟩ : ∃ R, Tb.lookErr ⟨f, ch⟩ n = R := ⟨_, rfl⟩
 have HR : Hid (R = if E ≠ 0 then E else if Tb.inYears n = false then 3 else 0) := by show _ = _; rw [← hR, Tb.lookErr, hE]
 obtain ⟨Q, hQ⟩ : ∃ Q, Tb.lookO ⟨f, ch⟩ n = Q := ⟨_, rfl⟩
 have HQ : Hid (Q = if R = 0 then Tb.look ⟨f, ch⟩ n else lc0) := by show _ = _; rw [← hQ, Tb.lookO, hR]
 have CL := pLook_any ⟨f, ch⟩ (.slice a ch.length cap) n V RC.out hs
 rw [hR, hQ] at CL
 have HC : Hid (Calls Tryz.prog 32 #[tbV f (.slice a ch.length cap), .int .i64 n] V fun e w' => e = .returned (.tuple #[lcV Q, .int .i64 R]) ∧ Below V.heap.size V w') := CL
 clear h hs hm h0 T0 hb sz hE hR hQ CL
 obtain ⟨t0, _⟩ := ca_at TT.out 0 rfl
 obtain ⟨t1, _⟩ := ca_at TT.out 1 rfl
 obtain ⟨t2, _⟩ := ca_at TT.out 2 rfl
 obtain ⟨t3, _⟩ := ca_at TT.out 3 rfl
 have st := TT.out.1
 go_enter Tryz.func9, Tryz.ntmps9
 simp only [hN]
 go_wp2_with fail
 refine HC.out.mono ?_
 rintro e w1 ⟨rfl, hb⟩
 clear HC t0 t1 t2 t3 st
 have hle := Nat.le_of_lt TT.out.1
 replace B := hid (below_on B.out hle hb)
 replace TT := hid (ca_below TT.out hb)
 replace RC := hid (rdCh_below RC.out hb)
 clear hle
 obtain ⟨w2, g2, L0, hb2, sz⟩ := named_new w1 #[.int .i64 Q.shift, .int .i64 Q.save, .string ⟨Q.name.toArray⟩] 31
 obtain ⟨b3, hb3⟩ : ∃ b, w1.heap.size = b := ⟨_, rfl⟩
 have LL : Hid (CellsAt w2 b3 [.int .i64 Q.shift, .int .i64 Q.save, .string ⟨Q.name.toArray⟩]) := hb3 ▸ L0
 have hle := Nat.le_of_lt TT.out.1
 replace B := hid (below_on B.out hle hb2)
 replace TT := hid (ca_below TT.out hb2)
 replace RC := hid (rdCh_below RC.out hb2)
 clear hle
 clear hb hb2 sz L0
 obtain ⟨t0, _⟩ := ca_at TT.out 0 rfl
 obtain ⟨t1, _⟩ := ca_at TT.out 1 rfl
 obtain ⟨t2, _⟩ := ca_at TT.out 2 rfl
 obtain ⟨t3, _⟩ := ca_at TT.out 3 rfl
 have st := TT.out.1
 have CT := checkTable_any ⟨f, ch⟩ (.slice a ch.length cap) w2 RC.out HS.out.ch HS.out.first HS.out.names
 rw [HE.out] at CT
 have HC : Hid (Calls Tryz.prog 33 #[tbV f (.slice a ch.length cap)] w2 fun e w' => e = .returned (.int .i64 E) ∧ Below w2.heap.size w2 w') := CT
 clear CT
 go_wp2_with fail
 refine HC.out.mono ?_
 rintro e w3 ⟨rfl, hb⟩
 clear HC t0 t1 t2 t3 st g2 hb3
 have hle := Nat.le_of_lt TT.out.1
 replace B := hid (below_on B.out hle hb)
 replace TT := hid (ca_below TT.out hb)
 replace RC := hid (rdCh_below RC.out hb)
 replace LL := hid (ca_below LL.out hb)
 clear hle
 clear hb
 by_cases hE0 : E = 0
 case neg =>
  have e1 : R = E := by rw [HR.out, if_pos hE0]
  have e2 : Q = lc0 := by rw [HQ.out, e1, if_neg hE0]
  subst e1
  subst e2
  have q1 : (R == 0) = false := by simp [hE0]
  replace LL : Hid (CellsAt w3 b3 [.int .i64 0, .int .i64 0, .string ⟨#[]⟩]) := LL.out
  clear HR HQ
  obtain ⟨w4, g4, W0, hb, sz⟩ := named_new w3 #[.int .i64 0, .int .i64 0, .string ⟨#[]⟩] 31
  obtain ⟨b9, hb9⟩ : ∃ b, w3.heap.size = b := ⟨_, rfl⟩
  have LW : Hid (CellsAt w4 b9 [.int .i64 0, .int .i64 0, .string ⟨#[]⟩]) := hb9 ▸ W0
  have hle := Nat.le_of_lt TT.out.1
  replace B := hid (below_on B.out hle hb)
  replace TT := hid (ca_below TT.out hb)
  replace RC := hid (rdCh_below RC.out hb)
  replace LL := hid (ca_below LL.out hb)
  clear hle
  clear hb W0 sz
  go_wp2_with fail
  refine (tableBegun_is m _ (ca_m B.out HM.out) (ca_p B.out HM.out)).mono ?_
  rintro e x1 ⟨rfl, hb⟩
  have hle := Nat.le_of_lt TT.out.1
  replace B := hid (below_on B.out hle hb)
  replace TT := hid (ca_below TT.out hb)
  replace RC := hid (rdCh_below RC.out hb)
  replace LL := hid (ca_below LL.out hb)
  replace LW := hid (ca_below LW.out hb)
  clear hle
  clear hb
  obtain ⟨t0, _⟩ := ca_at TT.out 0 rfl
  obtain ⟨t1, _⟩ := ca_at TT.out 1 rfl
  obtain ⟨t2, _⟩ := ca_at TT.out 2 rfl
  obtain ⟨t3, _⟩ := ca_at TT.out 3 rfl
  have st := TT.out.1
  have CK := pCheck_any ⟨f, ch⟩ (.slice a ch.length cap) x1 RC.out HS.out
  rw [HE.out] at CK
  have HC : Hid (Calls Tryz.prog 31 #[tbV f (.slice a ch.length cap)] x1 fun e w' => e = .returned (.int .i64 R) ∧ Below x1.heap.size x1 w') := CK
  clear CK
  go_wp2_with fail
  refine HC.out.mono ?_
  rintro e x2 ⟨rfl, hb⟩
  clear HC t0 t1 t2 t3 st
  have hle := Nat.le_of_lt TT.out.1
  replace B := hid (below_on B.out hle hb)
  replace TT := hid (ca_below TT.out hb)
  replace RC := hid (rdCh_below RC.out hb)
  replace LL := hid (ca_below LL.out hb)
  replace LW := hid (ca_below LW.out hb)
  clear hle
  clear hb
  obtain ⟨l0, _⟩ := ca_at LL.out 0 rfl
  obtain ⟨l1, _⟩ := ca_at LL.out 1 rfl
  obtain ⟨l2, _⟩ := ca_at LL.out 2 rfl
  have sl := LL.out.1
  obtain ⟨u0, _⟩ := ca_at LW.out 0 rfl
  obtain ⟨u1, _⟩ := ca_at LW.out 1 rfl
  obtain ⟨u2, _⟩ := ca_at LW.out 2 rfl
  have su := LW.out.1
  go_wp2
  go_ret
  exact ⟨rfl, B.out⟩
 subst hE0
 obtain ⟨Y, hY⟩ : ∃ Y, Tb.inYears n = Y := ⟨_, rfl⟩
 have yF : Y = false → n < -62135596800 ∨ 253402300799 < n := by intro q; rw [q] at hY; simp [Tb.inYears, Sx.inB, Tb.least, Tb.most] at hY; omega
 have yT : Y = true → -62135596800 ≤ n ∧ n ≤ 253402300799 := by intro q; rw [q] at hY; simpa [Tb.inYears, Sx.inB, Tb.least, Tb.most] using hY
 have R0 : R = if Y = false then 3 else 0 := by rw [HR.out, hY]; simp
 clear hY
 go_upto_region 4 with fail
 go_cut [30] from 19 to 30 (fun s30 wc => s30 = .bool (!Y) ∧ Hid (Below w3.heap.size w3 wc))
 case first =>
  cases Y
  case false =>
   rcases yF rfl with q | q
   ·have q1 : decide (n < -62135596800) = true := by simp [q]
    go_wp2_with (first | (go_at_call 23; refine (least_any _).mono ?_; rintro e x1 ⟨rfl, hb1⟩))
    go_meet
    exact ⟨rfl, hb1⟩
   ·have q1 : decide (n < -62135596800) = false := by simp; omega
    go_wp2_with (first | (go_at_call 23; refine (least_any _).mono ?_; rintro e x1 ⟨rfl, hb1⟩) | (go_at_call 24; refine (most_any _).mono ?_; rintro e x2 ⟨rfl, hb2⟩))
    go_meet
    exact ⟨by simp [q], hb1.trans (hb2.mono hb1.size)⟩
  case true =>
   obtain ⟨p, q⟩ := yT rfl
   have q1 : decide (n < -62135596800) = false := by simp; omega
   go_wp2_with (first | (go_at_call 23; refine (least_any _).mono ?_; rintro e x1 ⟨rfl, hb1⟩) | (go_at_call 24; refine (most_any _).mono ?_; rintro e x2 ⟨rfl, hb2⟩))
   go_meet
   exact ⟨by simp; omega, hb1.trans (hb2.mono hb1.size)⟩
 case rest =>
 obtain ⟨rfl, hb⟩ := hcut
 replace hb := hb.out
 have hle := Nat.le_of_lt TT.out.1
 replace B := hid (below_on B.out hle hb)
 replace TT := hid (ca_below TT.out hb)
 replace RC := hid (rdCh_below RC.out hb)
 replace LL := hid (ca_below LL.out hb)
 clear hle
 clear hb
 obtain ⟨w3', hw3⟩ : ∃ x, wc = x := ⟨_, rfl⟩
 rw [hw3] at B TT RC LL ⊢
 clear hw3
 obtain ⟨t0, _⟩ := ca_at TT.out 0 rfl
 obtain ⟨t1, _⟩ := ca_at TT.out 1 rfl
 obtain ⟨t2, _⟩ := ca_at TT.out 2 rfl
 obtain ⟨t3, _⟩ := ca_at TT.out 3 rfl
 have st := TT.out.1
 cases Y
 case false =>
  have e1 : R = 3 := R0
  have e2 : Q = lc0 := by rw [HQ.out, e1]; rfl
  subst e1
  subst e2
  replace LL : Hid (CellsAt w3' b3 [.int .i64 0, .int .i64 0, .string ⟨#[]⟩]) := LL.out
  clear HR HQ R0 yF yT
  obtain ⟨w4, g4, W0, hb, sz⟩ := named_new w3' #[.int .i64 0, .int .i64 0, .string ⟨#[]⟩] 31
  obtain ⟨b9, hb9⟩ : ∃ b, w3'.heap.size = b := ⟨_, rfl⟩
  have LW : Hid (CellsAt w4 b9 [.int .i64 0, .int .i64 0, .string ⟨#[]⟩]) := hb9 ▸ W0
  have hle := Nat.le_of_lt TT.out.1
  replace B := hid (below_on B.out hle hb)
  replace TT := hid (ca_below TT.out hb)
  replace RC := hid (rdCh_below RC.out hb)
  replace LL := hid (ca_below LL.out hb)
  clear hle
  clear hb W0 sz
  go_wp2_with fail
  refine (tableBegun_is m _ (ca_m B.out HM.out) (ca_p B.out HM.out)).mono ?_
  rintro e x1 ⟨rfl, hb⟩
  have hle := Nat.le_of_lt TT.out.1
  replace B := hid (below_on B.out hle hb)
  replace TT := hid (ca_below TT.out hb)
  replace RC := hid (rdCh_below RC.out hb)
  replace LL := hid (ca_below LL.out hb)
  replace LW := hid (ca_below LW.out hb)
  clear hle
  clear hb
  obtain ⟨t0, _⟩ := ca_at TT.out 0 rfl
  obtain ⟨t1, _⟩ := ca_at TT.out 1 rfl
  obtain ⟨t2, _⟩ := ca_at TT.out 2 rfl
  obtain ⟨t3, _⟩ := ca_at TT.out 3 rfl
  have st := TT.out.1
  have CK := pCheck_any ⟨f, ch⟩ (.slice a ch.length cap) x1 RC.out HS.out
  rw [HE.out] at CK
  have HC : Hid (Calls Tryz.prog 31 #[tbV f (.slice a ch.length cap)] x1 fun e w' => e = .returned (.int .i64 0) ∧ Below x1.heap.size x1 w') := CK
  clear CK
  go_wp2_with fail
  refine HC.out.mono ?_
  rintro e x2 ⟨rfl, hb⟩
  clear HC t0 t1 t2 t3 st
  have hle := Nat.le_of_lt TT.out.1
  replace B := hid (below_on B.out hle hb)
  replace TT := hid (ca_below TT.out hb)
  replace RC := hid (rdCh_below RC.out hb)
  replace LL := hid (ca_below LL.out hb)
  replace LW := hid (ca_below LW.out hb)
  clear hle
  clear hb
  obtain ⟨l0, _⟩ := ca_at LL.out 0 rfl
  obtain ⟨l1, _⟩ := ca_at LL.out 1 rfl
  obtain ⟨l2, _⟩ := ca_at LL.out 2 rfl
  have sl := LL.out.1
  obtain ⟨u0, _⟩ := ca_at LW.out 0 rfl
  obtain ⟨u1, _⟩ := ca_at LW.out 1 rfl
  obtain ⟨u2, _⟩ := ca_at LW.out 2 rfl
  have su := LW.out.1
  go_wp2
  go_ret
  exact ⟨rfl, B.out⟩
 have e1 : R = 0 := R0
 subst e1
 have e2 : Q = Tb.look ⟨f, ch⟩ n := by rw [HQ.out]; rfl
 have hlen : ch.length ≤ 1000 := (rise_of_good HE.out).2
 have CK0 := hid (fun W (hW : Below w3'.heap.size w3' W) => lookAt_any ⟨f, ch⟩ (.slice a ch.length cap) n W (rdCh_below RC.out hW) hlen)
 rw [← e2] at CK0
 clear HR HQ R0 yF yT e2
 have TTX := hid TT.out.1
 have LLX := hid LL.out.1
 obtain ⟨w4, g4, W0, hb, sz⟩ := named_new w3' #[.int .i64 0, .int .i64 0, .string ⟨#[]⟩] 31
 obtain ⟨b9, hb9⟩ : ∃ b, w3'.heap.size = b := ⟨_, rfl⟩
 have LW : Hid (CellsAt w4 b9 [.int .i64 0, .int .i64 0, .string ⟨#[]⟩]) := hb9 ▸ W0
 have hle := Nat.le_of_lt TT.out.1
 replace B := hid (below_on B.out hle hb)
 replace TT := hid (ca_below TT.out hb)
 replace RC := hid (rdCh_below RC.out hb)
 replace LL := hid (ca_below LL.out hb)
 clear hle
 have BW4 := hid hb
 have B3N : Hid (N < b9) := by show _ < _; have := TTX.out; omega
 have BL3 : Hid (b3 < b9) := by show _ < _; have := LLX.out; omega
 clear hb W0 sz
 obtain ⟨t0, _⟩ := ca_at TT.out 0 rfl
 obtain ⟨t1, _⟩ := ca_at TT.out 1 rfl
 obtain ⟨t2, _⟩ := ca_at TT.out 2 rfl
 obtain ⟨t3, _⟩ := ca_at TT.out 3 rfl
 have st := TT.out.1
 have hb99 : b9 < w4.heap.size := LW.out.1
 have HC : Hid (Calls Tryz.prog 34 #[tbV f (.slice a ch.length cap), .int .i64 n] w4 fun e w' => e = .returned (lcV Q) ∧ Below w4.heap.size w4 w') := CK0.out w4 BW4.out
 have hN9 : N ≤ b9 := by have := B3N.out; omega
 have hb39 : ¬ b3 = b9 := by have := BL3.out; omega
 clear CK0
 go_wp2_with fail
 refine HC.out.mono ?_
 clear hb9
 rintro e w5 ⟨rfl, hb⟩
 clear HC t0 t1 t2 t3 st g4
 have hle := Nat.le_of_lt TT.out.1
 replace B := hid (below_on B.out hle hb)
 replace TT := hid (ca_below TT.out hb)
 replace RC := hid (rdCh_below RC.out hb)
 replace LL := hid (ca_below LL.out hb)
 replace LW := hid (ca_below LW.out hb)
 clear hle
 clear hb
 obtain ⟨w6, g6⟩ : ∃ x, ((w5.setCell ⟨b9, 0, none⟩ (.int .i64 Q.shift)).setCell ⟨b9, 1, none⟩ (.int .i64 Q.save)).setCell ⟨b9, 2, none⟩ (.string ⟨Q.name.toArray⟩) = x := ⟨_, rfl⟩
 have hN : ¬ N = b9 := by have := B3N.out; have := BL3.out; omega
 have B6 : Hid (Below N w w6) := by show Below _ _ _; rw [← g6]; exact below_put (below_put (below_put B.out hN9 0 _) hN9 1 _) hN9 2 _
 have T6 : Hid (CellsAt w6 N [.int .i64 f.shift, .int .i64 f.save, .string ⟨f.name.toArray⟩, .slice a ch.length cap]) := by show CellsAt _ _ _; rw [← g6]; exact ca_far (ca_far (ca_far TT.out hN) hN) hN
 have L6 : Hid (CellsAt w6 b3 [.int .i64 Q.shift, .int .i64 Q.save, .string ⟨Q.name.toArray⟩]) := by show CellsAt _ _ _; rw [← g6]; exact ca_far (ca_far (ca_far LL.out hb39) hb39) hb39
 have W6 : Hid (CellsAt w6 b9 [.int .i64 Q.shift, .int .i64 Q.save, .string ⟨Q.name.toArray⟩]) := by show CellsAt _ _ _; rw [← g6]; exact ca_put (ca_put (ca_put LW.out 0 _ (by simp)) 1 _ (by simp)) 2 _ (by simp)
 have R6 : Hid (RdCh w6 (.slice a ch.length cap) ch) := by
  show RdCh _ _ _
  rw [← g6]
  exact rd_sets (rdCh_of0.out) B.out hN9 _ _ _
 obtain ⟨u0, k0⟩ := ca_at LW.out 0 rfl
 obtain ⟨u1, k1⟩ := ca_at LW.out 1 rfl
 obtain ⟨u2, k2⟩ := ca_at LW.out 2 rfl
 have su := LW.out.1
 go_upto_region 9 with fail
 clear u0 k0 u1 k1 u2 k2 su g6
 clear B TT LL LW RC
 have B := B6
 have TT := T6
 have LL := L6
 have LW := W6
 have RC := R6
 clear B6 T6 L6 W6 R6
 obtain ⟨t0, _⟩ := ca_at TT.out 0 rfl
 obtain ⟨t1, _⟩ := ca_at TT.out 1 rfl
 obtain ⟨t2, _⟩ := ca_at TT.out 2 rfl
 obtain ⟨t3, _⟩ := ca_at TT.out 3 rfl
 have st := TT.out.1
 go_wp2_with fail
 refine (tableBegun_is m _ (ca_m B.out HM.out) (ca_p B.out HM.out)).mono ?_
 rintro e x1 ⟨rfl, hb⟩
 have hle := Nat.le_of_lt TT.out.1
 replace B := hid (below_on B.out hle hb)
 replace TT := hid (ca_below TT.out hb)
 replace RC := hid (rdCh_below RC.out hb)
 replace LL := hid (ca_below LL.out hb)
 replace LW := hid (ca_below LW.out hb)
 clear hle
 clear hb
 obtain ⟨t0, _⟩ := ca_at TT.out 0 rfl
 obtain ⟨t1, _⟩ := ca_at TT.out 1 rfl
 obtain ⟨t2, _⟩ := ca_at TT.out 2 rfl
 obtain ⟨t3, _⟩ := ca_at TT.out 3 rfl
 have st := TT.out.1
 have CK := pCheck_any ⟨f, ch⟩ (.slice a ch.length cap) x1 RC.out HS.out
 rw [HE.out] at CK
 have HC : Hid (Calls Tryz.prog 31 #[tbV f (.slice a ch.length cap)] x1 fun e w' => e = .returned (.int .i64 0) ∧ Below x1.heap.size x1 w') := CK
 clear CK
 go_wp2_with fail
 refine HC.out.mono ?_
 rintro e x2 ⟨rfl, hb⟩
 clear HC t0 t1 t2 t3 st
 have hle := Nat.le_of_lt TT.out.1
 replace B := hid (below_on B.out hle hb)
 replace TT := hid (ca_below TT.out hb)
 replace RC := hid (rdCh_below RC.out hb)
 replace LL := hid (ca_below LL.out hb)
 replace LW := hid (ca_below LW.out hb)
 clear hle
 clear hb
 obtain ⟨l0, _⟩ := ca_at LL.out 0 rfl
 obtain ⟨l1, _⟩ := ca_at LL.out 1 rfl
 obtain ⟨l2, _⟩ := ca_at LL.out 2 rfl
 have sl := LL.out.1
 obtain ⟨u0, _⟩ := ca_at LW.out 0 rfl
 obtain ⟨u1, _⟩ := ca_at LW.out 1 rfl
 obtain ⟨u2, _⟩ := ca_at LW.out 2 rfl
 have su := LW.out.1
 go_wp2
 go_ret
 exact ⟨rfl, B.out⟩
end Go.Proofs.YtkhlkohlccndgaaGreat
namespace Go.Proofs.YtkhlkohlccndgaaGreat
open Go.ChangeShapes Go.WideShapes Go.ChangeAt Go.RowKit

theorem int_of_shape {P : Program} {w : World} {g : Nat} {t : TypeId} {zero : Array Value} (h : w.ShapedOpen P) (hg : g < P.globals.size)
  (h0 : ((begin P (fun _ _ => 0) default).world.heap[g]?).bind Obj.row? = some (zero, t)) (hz : zero.size = 1)
  (hb : P.buildable t = true) (hc : P.cellTypes P.depth t = some [t]) (hu : P.underlying t = some (.int .i64)) : ∃ m, w.cell? ⟨g, 0, none⟩ = some (.int .i64 m) := by
 obtain ⟨cs, hh, hs, hr⟩ := h.1 g zero t hg h0
 obtain ⟨ts, hts, _, hall⟩ := hr hb
 rw [hc] at hts
 cases hts
 have h1 : 0 < cs.size := by omega
 obtain ⟨u, hu', hok⟩ := hall 0 cs[0] (by simp [h1])
 have : u = t := by simpa using hu'.symm
 subst this
 have hcell : w.cell? ⟨g, 0, none⟩ = some cs[0] := by simp [World.cell?, hh, h1]
 rw [hcell]
 unfold Cell.ok at hok
 rw [hu] at hok
 cases hv : cs[0] <;> rw [hv] at hok <;> simp at hok ⊢
 rename_i k n
 cases k <;> simp_all
theorem globalsSome : decide (0 < Tryz.prog.globals.size) = true := by kernel_rfl
theorem maxLen_is {w : World} (h : w.ShapedOpen Tryz.prog) : ∃ m, w.cell? ⟨0, 0, none⟩ = some (.int .i64 m) :=
 int_of_shape (t := 3) (zero := #[.int .i64 0]) h (of_decide_eq_true globalsSome) (by kernel_rfl) rfl (by kernel_rfl) (by kernel_rfl) Tryz.underlying3
theorem heap_pos {w : World} {m : Int} (h : w.cell? ⟨0, 0, none⟩ = some (.int .i64 m)) : 0 < w.heap.size := by
 unfold World.cell? at h
 split at h
 ·rename_i hb; exact (Array.getElem?_eq_some_iff.1 hb).1
 ·cases h
end Go.Proofs.YtkhlkohlccndgaaGreat
namespace Go.Proofs.YtkhlkohlccndgaaGreat
open Go.ChangeShapes Go.WideShapes Go.ChangeAt Go.RowKit Go.Joins

theorem own : ownKnob Tryz.prog.godebug = none := by kernel_rfl
theorem laidOut : laidOutB Tryz.prog = true := by kernel_rfl
theorem cellsT_int : Tryz.prog.cellsOf 3 = 1 := by kernel_rfl
theorem cellsT_str : Tryz.prog.cellsOf 9 = 1 := by kernel_rfl
theorem cellsT_lc : Tryz.prog.cellsOf 31 = 3 := by kernel_rfl
theorem cellsT_cg : Tryz.prog.cellsOf 86 = 4 := by kernel_rfl
theorem cellsT_chs : Tryz.prog.cellsOf 74 = 1 := by kernel_rfl
theorem cellsT_tb : Tryz.prog.cellsOf 76 = 4 := by kernel_rfl
section
variable {H : Type} {enc : TypeId × Value → H} {w : World} {sp : Nat → Bool} {held : Bool} {fuel : Nat} {cs : List Value} {x : DataW H × List MemPlace}
theorem addT_none (b o i : Nat) : (⟨b, o, none⟩ : Addr).add i = ⟨b, o + i, none⟩ := by simp [Addr.add]
theorem blockT_of_cell {a : Addr} {v : Value} (h : w.cell? a = some v) : a.block < w.heap.size := by
 unfold World.cell? at h
 split at h
 ·rename_i hb; exact (Array.getElem?_eq_some_iff.1 hb).1
 ·cases h
theorem strT_of (s : ByteArray) : strV s.data.toList = .string s := by unfold strV; congr 1
theorem open_lc (h : DataW.trod enc Tryz.prog w 0 sp held fuel 31 cs = some x) : ∃ l : Tb.Lc, cs = [.int .i64 l.shift, .int .i64 l.save, strV l.name] ∧ l.name.length ≤ maxLen := by
 cases fuel with
 | zero => simp [DataW.trod] at h
 | succ n =>
   unfold DataW.trod at h
   rw [Tryz.underlying31] at h
   simp [cellsT_lc, cellsT_int, cellsT_str, List.mapM_cons, Option.bind_eq_some_iff] at h
   obtain ⟨hlen, a1, b1, h1, l, ⟨a2, b2, h2, l3, ⟨a3, b3, h3, _⟩, _⟩, _⟩ := h
   match cs, hlen with
   | [u, v, z], _ =>
     simp at h1 h2 h3
     obtain ⟨k1, e1, _⟩ := DataW.trod_int Tryz.underlying3 h1
     obtain ⟨k2, e2, _⟩ := DataW.trod_int Tryz.underlying3 h2
     obtain ⟨s3, e3, _, hs⟩ := DataW.trod_string Tryz.underlying9 h3
     simp at e1 e2 e3
     subst e1 e2 e3
     exact ⟨⟨k1, k2, s3.data.toList⟩, by rw [strT_of], by simpa using hs⟩
theorem open_cg (h : DataW.trod enc Tryz.prog w 0 sp held fuel 86 cs = some x) : ∃ c : Tb.Cg, cs = cgCells c ∧ c.lc.name.length ≤ maxLen := by
 cases fuel with
 | zero => simp [DataW.trod] at h
 | succ n =>
   unfold DataW.trod at h
   rw [Tryz.underlying86] at h
   simp [cellsT_cg, cellsT_int, cellsT_lc, List.mapM_cons, Option.bind_eq_some_iff] at h
   obtain ⟨hlen, a1, b1, h1, l, ⟨a2, b2, h2, _⟩, _⟩ := h
   match cs, hlen with
   | [u, v, z, y], _ =>
     simp at h1 h2
     obtain ⟨k1, e1, _⟩ := DataW.trod_int Tryz.underlying3 h1
     obtain ⟨lc, e2, hs⟩ := open_lc h2
     simp at e1 e2
     obtain ⟨rfl, rfl, rfl⟩ := e2
     subst e1
     exact ⟨⟨k1, lc⟩, rfl, hs⟩
theorem open_chs (h : DataW.trod enc Tryz.prog w 0 sp held fuel 74 cs = some x) : ∃ a n cap l, cs = [.slice a n cap] ∧ RdCh w (.slice a n cap) l ∧ n ≤ cap ∧ cap ≤ maxLen ∧ ∀ c ∈ l, c.lc.name.length ≤ maxLen := by
 rcases Deep.open_slice Tryz.underlying74 h with ⟨rfl, _⟩ | ⟨a, len, cap, m, n, D, Pl, rfl, _, hl, hm, hmm, _, hc⟩
 ·exact ⟨none, 0, 0, [], rfl, rd_nil, Nat.le_refl _, Nat.zero_le _, by simp⟩
 ·have hlm : len ≤ m := by rw [hmm]; split <;> omega
  rw [cellsT_cg] at hc
  have key : ∀ i, i < len → ∃ c : Tb.Cg, c.lc.name.length ≤ maxLen ∧ w.cells? 0 (a.add (i * 4)) 4 = some (cgCells c) := by
   intro i hi
   obtain ⟨cs', h1, h2⟩ := hc i (by omega)
   obtain ⟨c, rfl, hs⟩ := open_cg h2
   exact ⟨c, hs, h1⟩
  have : Inhabited Tb.Cg := ⟨⟨0, ⟨0, 0, []⟩⟩⟩
  obtain ⟨L, hL⟩ := Deep.choose_lt key
  refine ⟨some a, len, cap, (List.range len).map L, rfl, ⟨some a, cap, by simp, fun hn => ?_⟩, by omega, by omega, ?_⟩
  ·have h0 : 0 < len := by
    rcases Nat.eq_zero_or_pos len with q | q
    ·subst q; simp at hn
    ·exact q
   obtain ⟨b, off, spot⟩ := a
   obtain ⟨_, _, g0⟩ := World.cells?_some (hL 0 h0).2
   have c0 := g0 0 (by decide)
   have hs : spot = none := by simpa [Addr.add] using World.cell?_spot c0
   subst hs
   simp only [addT_none] at c0 hL
   refine ⟨b, off, rfl, blockT_of_cell c0, fun i c hi k u hu => ?_⟩
   have hi' : i < len := by
    have := (List.getElem?_eq_some_iff.1 hi).1
    simpa using this
   simp [hi'] at hi
   subst hi
   obtain ⟨_, _, gi⟩ := World.cells?_some (hL i hi').2
   have hk := (List.getElem?_eq_some_iff.1 hu).1
   have := gi k hk
   rw [addT_none] at this
   rw [this]
   exact hu
  ·intro c hc'
   simp at hc'
   obtain ⟨i, hi, rfl⟩ := hc'
   exact (hL i hi).1
/- .. as an argument -/
theorem open_table_arg {W : World} {base : Nat} {v : Value} {d : DataW H} {p : List MemPlace} (hv : Value.okWide Tryz.prog W .any base 76 v) (h : DataW.Trod enc Tryz.prog W 0 (fun _ => true) true 76 v d p) :
  (∃ (t : Tb.Tbl) (a : Option Addr) (n cap : Nat), v = tbV t.first (.slice a n cap) ∧ RdCh W (.slice a n cap) t.ch ∧ n ≤ cap ∧ cap ≤ maxLen ∧ Tb.Sized t) ∧ ∀ x ∈ p, x.block < W.heap.size := by
 obtain ⟨cs, rfl, hsz⟩ := okWide_struct Tryz.underlying76 hv
 obtain ⟨c0, c1, c2, c3, rfl⟩ := array4 (hsz.trans cellsT_tb)
 obtain ⟨fuel, hf⟩ := h
 refine ⟨?_, DataW.trod_lt fuel _ _ _ hf⟩
 cases fuel with
 | zero => simp [DataW.trod] at hf
 | succ n =>
   unfold DataW.trod at hf
   rw [Tryz.underlying76] at hf
   simp [Value.cells, cellsT_tb, cellsT_lc, cellsT_chs, List.mapM_cons, Option.bind_eq_some_iff] at hf
   obtain ⟨a1, b1, h1, l, ⟨a2, b2, h2, _⟩, _⟩ := hf
   obtain ⟨lc, e1, hs⟩ := open_lc h1
   obtain ⟨a, k, cap, l, e2, hr, hk, hm, hn⟩ := open_chs h2
   simp at e1 e2
   obtain ⟨rfl, rfl, rfl⟩ := e1
   subst e2
   have hlen : k = l.length := by
    obtain ⟨a', cap', e, _⟩ := hr
    simp only [Value.slice.injEq] at e
    exact e.2.1
   exact ⟨⟨lc, l⟩, a, k, cap, rfl, hr, hk, hm, ⟨by simp only; omega, hs, hn⟩⟩
theorem table_stays {W W' : World} {v : Value} {d : DataW H} {p : List MemPlace} (h : DataW.Trod enc Tryz.prog W 0 (fun _ => true) true 76 v d p) (bel : Below W.heap.size W W') (lt0 : ∀ x ∈ p, x.block < W.heap.size) : DataW.Trod enc Tryz.prog W' 0 (fun b => decide (b < W.heap.size)) true 76 v d p :=
 Below.trod laidOut (by kernel_rfl) (of_decide_eq_true (by kernel_rfl)) h bel lt0
end
end Go.Proofs.YtkhlkohlccndgaaGreat
namespace Go.Proofs.YtkhlkohlccndgaaGreat
open Go.ChangeShapes Go.WideShapes Go.ChangeAt Go.RowKit Go.Joins Go.ChangeMaps

theorem tableTells_lifted (os : Os) (started : os.Started) (H : Type) (enc : TypeId × Value → H) :
  ReturnsInHanded {} Tryz.checked os 9 .any (Rows.tableTellsSpec.pre6 enc Tryz.prog Tryz.f9 Rows.tableTellsRow.domain false) (Rows.tableTellsSpec.post enc Tryz.prog Tryz.f9 false true false false) := by
 refine returnsInHanded_of_change_shaped (C := Tryz.checked) own started (by kernel_rfl) Tryz.func9
  (ChangeSpec.witness6 (enc := enc) (C := Tryz.checked) false ⟨#[], #[.agg #[.int .i64 0, .int .i64 0, .string ⟨#[]⟩, .slice none 0 0], .int .i64 0], []⟩ 8 (by kernel_rfl) (by kernel_rfl) (by kernel_rfl) (by kernel_rfl)) ?_
 intro W base args ds gs before hval0 hW hcnd hsz hsh _
 have hval : ∀ (j : Nat) t v, Tryz.f9.params[j]? = some t → args[j]? = some v → Value.okWide Tryz.prog W .any base t v := hval0
 have hW' := hW
 obtain ⟨p, q, hA0, hV, rfl, hfz, hnd⟩ := hW
 have hA : DataW.TrodAll enc Tryz.prog W 0 (fun _ => true) true Tryz.f9.params.toList args.toList ds p := hA0
 rw [Tryz.params9] at hA hval
 obtain ⟨v0, v1, d0, d1, p0, p1, rfl, rfl, rfl, h0, h1⟩ := trodAll_two hA
 obtain ⟨rfl, rfl⟩ := trodVars_none hV
 obtain ⟨⟨t0, s0, n0, c0, rfl, r0, k0, m0, z0⟩, lt0⟩ := open_table_arg (hval 0 76 v0 rfl rfl) h0
 obtain ⟨a1, rfl, rfl, rfl, w1⟩ := open_int Tryz.underlying3 (hval 1 3 v1 rfl rfl) h1
 obtain ⟨m, hm⟩ := maxLen_is hsh
 clear hA0 hval0
 refine (tableTells_is t0 (.slice s0 n0 c0) a1 W r0 z0 m hm (heap_pos hm)).mono fun e W' ⟨he, bel⟩ => ?_
 subst he
 exact ⟨_, rfl, _, _, _, [], _, [], hW', trodAll_mk1 (shut_bool Tryz.underlying4 _), trodAll_mk2 (table_stays h0 bel lt0) (shut_int Tryz.underlying3 w1), rfl, bel.frame _, fun h => by cases h⟩

theorem tableTells_holds : Rows.TableTellsSaid :=
 OpenClaim.holds_of_wide 9 Tryz.f9 rfl rfl rfl rfl rfl rfl rfl ⟨rfl, rfl, rfl, rfl, rfl⟩ rfl rfl rfl rfl rfl (by kernel_rfl) Tryz.func9 (by kernel_rfl)
  (of_decide_eq_true (by kernel_rfl)) (by unfold Func.isWrapper; first | (rw [if_pos (by decide +kernel)]; kernel_rfl) | (rw [if_neg (by decide +kernel)]; exact ⟨rfl, rfl⟩))
  (fun os started H enc _ => tableTells_lifted os started H enc)
#print axioms tableTells_holds
end Go.Proofs.YtkhlkohlccndgaaGreat
