/- Part of the proof: Tr ItK Rg ItT St Ck Eb Fm Pl ShK Fs ZeA ZeB. -/
import Derived.Test.YtkhlkohlccndgaaGreatQz
import Derived.Test.YtkhlkohlccndgaaGreatQah
import Derived.Test.YtkhlkohlccndgaaGreatQaa
import Derived.RangeFuncNested
import Derived.RangeFuncBound
import Derived.RangeFuncCalls
import Derived.RangeFuncLeaves
import Derived.Shelf.Abstract
import Derived.Shelf.RegionOpen
import Derived.WalkKit
import Derived.OwnWalkIn
import Derived.TacticsInMore
import Derived.LoopNIn
import Derived.LoopIn
import Derived.Deep.MidRow
import Derived.Lib.IndexMore
import Derived.Shelf.Strings.Cut
import Derived.Test.YtkhlkohlccndgaaGreatProg
import Derived.Test.YtkhlkohlccndgaaGreatQae
import Derived.Test.YtkhlkohlccndgaaGreatQab
set_option linter.unusedVariables false
set_option linter.unusedSimpArgs false
set_option maxRecDepth 100000
set_option maxHeartbeats 16000000
namespace Go.Proofs.YtkhlkohlccndgaaGreat
section
open Go.RowKit

def dw (t : Sx.Tn) : List Value := [.int .i64 t.stands, .int .i64 t.clock, .int .i64 t.save, af t.letter]
abbrev Ag (t : Sx.Tn) : Value := .agg #[.int .i64 t.stands, .int .i64 t.clock, .int .i64 t.save, af t.letter]
abbrev qh (p t : Sx.Tn) : Value := .agg #[.int .i64 p.stands, .int .i64 p.clock, .int .i64 p.save, af p.letter, .int .i64 t.stands, .int .i64 t.clock, .int .i64 t.save, af t.letter]
def dF (t : Sx.Tm) : List Value := [.int .i64 t.at_, .int .i64 t.save, af t.letter]
abbrev H7 (t : Sx.Tm) : Value := .agg #[.int .i64 t.at_, .int .i64 t.save, af t.letter]

theorem Kw (r : Sx.Rl) (y : Int) (w : World) (ho : Cv.onE y r.month r.kind r.wk r.n = 0) (h1 : 0 ≤ r.at_) (h2 : r.at_ ≤ 172800) :
  Calls Tryz.prog 128 #[qd r, .int .i64 y] w fun e w' => e = .returned (Ag (Sx.gU r y)) ∧ Below w.heap.size w w' := by
 obtain ⟨_, _, _, _, t1, t2⟩ := Cv.uz ho
 have HO := hid ho
 have ET : Hid (Sx.gU r y = ⟨Cv.tgt y r.month r.kind r.wk r.n * 86400 + r.at_, r.clock, r.save, r.letter⟩) := rfl
 obtain ⟨D, hD⟩ : ∃ D, Cv.tgt y r.month r.kind r.wk r.n = D := ⟨_, rfl⟩
 rw [hD] at ET t1 t2
 have HD := hid hD
 clear ho hD
 have XV := hid (aH (aC w (aG r) 40) (.cells #[.int .i64 0, .int .i64 0, .int .i64 0, .string ⟨#[]⟩] 120))
 have TV : Hid (ag ((w.alloc (.cells (aG r).toArray 40)).alloc (.cells #[.int .i64 0, .int .i64 0, .int .i64 0, .string ⟨#[]⟩] 120)) (w.heap.size + 1) [.int .i64 0, .int .i64 0, .int .i64 0, .string ⟨#[]⟩]) := by
  have := aC (w.alloc (.cells (aG r).toArray 40)) [.int .i64 0, .int .i64 0, .int .i64 0, .string ⟨#[]⟩] 120
  rw [World.size_alloc] at this
  exact this
 have BV := hid (((q4B w.heap.size w).alloc (Nat.le_refl _) (.cells (aG r).toArray 40)).alloc (by simp) (.cells #[.int .i64 0, .int .i64 0, .int .i64 0, .string ⟨#[]⟩] 120))
 go_enter Tryz.func128, Tryz.ntmps128
 go_wp2_with fail
 refine (Lj _ _ _ _ _ _ HO.out).mono ?_
 rintro e w1 ⟨a, b, d, rfl, hv, hnum, hb⟩
 have X1 := hid (aH (ah XV.out hb) (.cells #[.int .i64 a, .int .i64 b, .int .i64 d] 63))
 have T1 := hid (aH (ah TV.out hb) (.cells #[.int .i64 a, .int .i64 b, .int .i64 d] 63))
 have B0 : Below w.heap.size w w1 := BV.out.trans (hb.mono BV.out.size)
 have B1 := hid (B0.alloc B0.size (.cells #[.int .i64 a, .int .i64 b, .int .i64 d] 63))
 have HV := hid hv
 have HN : Hid (Cv.num a b d = D) := by show _ = _; rw [hnum]; exact HD.out
 clear hb XV TV BV B0 hv hnum
 go_wp2_with fail
 refine (yB _ _ _ _ HV.out).mono ?_
 rintro e w2 ⟨rfl, hb⟩
 have X2 := hid (ah X1.out hb)
 have T2 := hid (ah T1.out hb)
 have B2 : Hid (Below w.heap.size w w2) := B1.out.trans (hb.mono B1.out.size)
 rw [HN.out]
 clear hb X1 T1 B1
 obtain ⟨x7, _⟩ := aa X2.out 7 rfl
 obtain ⟨x8, _⟩ := aa X2.out 8 rfl
 obtain ⟨x9, _⟩ := aa X2.out 9 rfl
 obtain ⟨x10, _⟩ := aa X2.out 10 rfl
 obtain ⟨⟨t0, tf0⟩, ⟨t1', tf1⟩, ⟨t2', tf2⟩, ⟨t3', tf3⟩, -⟩ := cp4 T2.out
 have sx := X2.out.1
 have st := T2.out.1
 go_wp2
 refine bodyPost_ret (v := Ag ⟨D * 86400 + r.at_, r.clock, r.save, r.letter⟩) (by simp [results, Tryz.results128, go_sem, *]) rfl ⟨by rw [ET.out], ?_⟩
 exact aB (aB (aB (aB B2.out (Nat.le_succ _) _) (Nat.le_succ _) _) (Nat.le_succ _) _) (Nat.le_succ _) _

theorem Ia (p t : Sx.Tn) (shift : Int) (w : World) (h1 : -64800 ≤ shift) (h2 : shift ≤ 64800) (s1 : 0 ≤ p.save) (s2 : p.save ≤ 10800) (b1 : -1000000000000 ≤ t.stands) (b2 : t.stands ≤ 1000000000000) :
  Calls Tryz.prog 69 #[qh p t, .int .i64 shift] w fun e w' => e = .returned (H7 (Sx.dX shift p.save t)) ∧ Below w.heap.size w w' := by
 obtain ⟨A, hA⟩ : ∃ A, (Sx.dX shift p.save t).at_ = A := ⟨_, rfl⟩
 have HA : Hid (A = (if t.clock = 3 then t.stands else t.stands - shift) - (if t.clock = 1 then p.save else 0)) := by show _ = _; rw [← hA]; rfl
 have ET : Hid (Sx.dX shift p.save t = ⟨A, t.save, t.letter⟩) := by show _ = _; rw [← hA]; rfl
 clear hA
 by_cases c3 : t.clock = 3
 ·have n3 : (t.clock != 3) = false := by simp [c3]
  have n1 : (t.clock == 1) = false := by simp [c3]
  have HA2 : Hid (t.stands = A) := by show _ = _; rw [HA.out]; simp [c3]
  clear c3
  go_enter Tryz.func69, Tryz.ntmps69
  go_wp2
  rw [HA2.out]
  refine bodyPost_ret (v := H7 ⟨A, t.save, t.letter⟩) (by simp [results, Tryz.results69, go_sem, *]) rfl ⟨by rw [ET.out], ?_⟩
  repeat (first | exact q4B _ _ | refine Below.alloc ?_ (by simp) _)
 have n3 : (t.clock != 3) = true := by simp [c3]
 by_cases c1 : t.clock = 1
 ·have n1 : (t.clock == 1) = true := by simp [c1]
  have HA2 : Hid (t.stands - shift - p.save = A) := by show _ = _; rw [HA.out]; simp [c1]
  clear c1 c3
  go_enter Tryz.func69, Tryz.ntmps69
  go_wp2
  rw [HA2.out]
  refine bodyPost_ret (v := H7 ⟨A, t.save, t.letter⟩) (by simp [results, Tryz.results69, go_sem, *]) rfl ⟨by rw [ET.out], ?_⟩
  repeat (first | exact q4B _ _ | refine Below.alloc ?_ (by simp) _)
 ·have n1 : (t.clock == 1) = false := by simp [c1]
  have HA2 : Hid (t.stands - shift = A) := by show _ = _; rw [HA.out]; simp [c1, c3]
  clear c1 c3
  go_enter Tryz.func69, Tryz.ntmps69
  go_wp2
  rw [HA2.out]
  refine bodyPost_ret (v := H7 ⟨A, t.save, t.letter⟩) (by simp [results, Tryz.results69, go_sem, *]) rfl ⟨by rw [ET.out], ?_⟩
  repeat (first | exact q4B _ _ | refine Below.alloc ?_ (by simp) _)

theorem Li (n : Int) (w : World) : Calls Tryz.prog 174 #[.int .i64 n] w fun e w' => e = .returned (.bool false) ∧ w' = w := by
 go_enter Tryz.func174, Tryz.ntmps174
 go_wp2
 go_ret
 exact ⟨by simp, rfl⟩
def OA (a b : Int) : Int := if a < b then -1 else if b < a then 1 else 0
theorem EZ (a b : Int) (w : World) : Calls Tryz.prog 126 #[.int .i64 a, .int .i64 b] w fun e w' => e = .returned (.int .i64 (OA a b)) ∧ w' = w := by
 by_cases h1 : a < b
 ·go_enter Tryz.func126, Tryz.ntmps126
  go_wp2_with (go_at_call 174; refine (Li _ _).mono ?_; rintro e w1 ⟨rfl, rfl⟩)
  go_ret
  exact ⟨ai (by simp [OA, h1]), rfl⟩
 ·by_cases h2 : b < a
  all_goals
   go_enter Tryz.func126, Tryz.ntmps126
   go_wp2_with (go_at_call 174; refine (Li _ _).mono ?_; rintro e w1 ⟨rfl, rfl⟩)
   go_ret
   exact ⟨ai (by unfold OA; (repeat split) <;> omega), rfl⟩
end
section
open Go.RowKit Go.Shelf

structure AZ (T : TypeId) (Bs : Nat) (W W' : World) : Prop where
 size : W.heap.size ≤ W'.heap.size
 cells : ∀ (k : Nat) (cs : Array Value) (t : TypeId), W.heap[k]? = some (.cells cs t) → t ≠ T → k ≠ Bs → W'.heap[k]? = some (.cells cs t)
theorem DN {T : TypeId} {Bs : Nat} {A B C : World} (h : AZ T Bs A B) (k : AZ T Bs B C) : AZ T Bs A C :=
 ⟨Nat.le_trans h.size k.size, fun i cs t a b c => k.cells i cs t (h.cells i cs t a b c) b c⟩
theorem Lf {T : TypeId} {Bs : Nat} {w : World} (W : World) (l : Nat) (o o' : Obj) (_ : w.heap.size ≤ l) (h : W.heap[l]? = some o) (hc : o.isCells = false) (_ : o.isWalk = false) : AZ T Bs W (W.putObj l o') := by
 have hg := grownBy_putObj' W l o'
 refine ⟨hg.size, fun k cs t a _ _ => ?_⟩
 have hk : k < W.heap.size := (q4A.1 a).1
 rw [hg.block k hk (by intro q; cases q; rw [h] at a; cases a; simp [Obj.isCells] at hc)]
 exact a
end
section
open Go.RowKit Go.Shelf

def dx {β : Type} (B : Nat) (I : β → World → Prop) : Prop :=
 ∀ s W W' row, I s W → W.grownBy W' row → (∀ r, row = some r → B ≤ r ∧ (r = B + 2 ∨ ∃ o : Obj, W.heap[r]? = some o ∧ o.isCells = false)) → I s W'
theorem dx.own {β : Type} {B : Nat} {I : β → World → Prop} (h : dx B I) : OwnFrom B I :=
 fun s W W' row hs hg hr => h s W W' row hs hg fun r e => ⟨(hr r e).1, .inr (hr r e).2⟩
theorem dx.and {β : Type} {B : Nat} {I J : β → World → Prop} (h : dx B I) (k : dx B J) : dx B (fun s W => I s W ∧ J s W) :=
 fun s W W' row hs hg hr => ⟨h s W W' row hs.1 hg hr, k s W W' row hs.2 hg hr⟩
theorem gu {β : Type} {n₀ B : Nat} {w₀ : World} (hn : n₀ ≤ w₀.heap.size) (hB : n₀ ≤ B) : dx B (fun (_ : β) W => Below n₀ w₀ W) :=
 fun _ _ _ _ hs hg hr => hs.grown hg (Nat.le_trans hn hs.size) (fun k e => Nat.le_trans hB (hr k e).1)
def xG {β : Type} (B : Nat) (J : β → World → Prop) : Prop :=
 ∀ s W W' row, J s W → W.grownBy W' row → (∀ r, row = some r → B ≤ r ∧ (r = B ∨ ∃ o : Obj, W.heap[r]? = some o ∧ o.isWalk = true)) → J s W'
def SeqC {α : Type} (F : Fence) (n : Nat) (P : Program) (g : Nat) (lb : Array Value) (encs : α → Array Value) (Kp : World → World → Prop) (S Sp : List α → Prop) (w : World) : Prop :=
 ∀ (l : Nat) (J Jx : List α → World → Prop) (W : World), Below w.heap.size w W → xG W.heap.size J → xG W.heap.size Jx →
  (∀ pre x W1, J pre W1 → Sp (pre ++ [x]) → YieldAt F (n - 1) P l (encs x) W1 fun e W' =>
   (e = .returned (.bool true) ∧ J (pre ++ [x]) W' ∧ Kp W1 W') ∨ (e = .returned (.bool false) ∧ Jx (pre ++ [x]) W')) →
  J [] W →
  CallsIn F n P g (#[.func (.yield l) #[] #[]] ++ lb) W fun e W' => (∃ v, e = .returned v) ∧ ((∃ xs, S xs ∧ J xs W') ∨ (∃ pre, Sp pre ∧ Jx pre W'))

theorem jF {α : Type} {F : Fence} {n : Nat} {P : Program} {g : Operand} {ps : Array Tmp} {assign body : Code} {Q : Exit → Act → World → Prop} {a : Act} {w : World}
  (hro : F.round = none) (h1 : 1 ≤ n) {gf : Nat} {lb : Array Value} (hg : a.eval g = .func (.func gf) #[] lb) (hFg : F.fn gf) (eg : ∀ args w, (callFunc gf args).run P w = .ok (.enter gf args) w)
  {encs : α → Array Value} {Kp : World → World → Prop} {S Sp : List α → Prop} {w0 : World} (hseq : SeqC F (n - 1) P gf lb encs Kp S Sp w0)
  (hKt : ∀ {A B C : World}, Kp A B → Kp B C → Kp A C) (hKb : ∀ (W : World) (l : Nat) (o o' : Obj), w.heap.size ≤ l → W.heap[l]? = some o → o.isCells = false → o.isWalk = false → Kp W (W.putObj l o'))
  (hb0 : Below w0.heap.size w0 w) (hps : ∀ x, (encs x).size = ps.size)
  (I : List α → World → Prop) (Ix : Code → List α → World → Prop) (hI : dx w.heap.size I) (hIx : ∀ c, dx w.heap.size (Ix c)) (h0 : I [] w)
  (Ax : α → Act → World → Prop) (hAx : ∀ x a', OwnFrom w.heap.size (fun (_ : Unit) W => Ax x a' W))
  (hassign : ∀ (l : Nat) (pre : List α) (x : α) (W : World) (K : Act → World → Prop), I pre W → w.heap.size + 2 ≤ W.heap.size → (∀ a' W', KeepsFrom w.heap.size W W' → Kp W W' → I pre W' → Ax x a' W' → K a' W') →
   assign.wpIn (F.inRound l) (n - 1 - 1) P (Exit.then K (fun _ _ _ => False)) { tmps := (ps.zip (encs x)).foldl (fun t (p, v) => t.setIfInBounds p v) a.tmps, defers := [] } W)
  (hbody : ∀ (l : Nat) (pre : List α) (x : α) (a' : Act) (W : World), w.heap.size ≤ l → (∃ r, W.heap[l]? = some (.loop r)) → I pre W → Ax x a' W → Sp (pre ++ [x]) → w.heap.size + 2 ≤ W.heap.size →
   body.wpIn (F.inRound l) (n - 1 - 1) P (ownPostG w.heap.size Kp I Ix (pre ++ [x]) W) a' W)
  (hdone : ∀ (D : Nat) (xs : List α) (W : World), w.heap.size ≤ D → S xs → I xs W → W.heap[D]? = some (.deferred (some [])) → Q .normal { a with defers := { target := .collected D, args := #[] } :: a.defers } W)
  (hstop : ∀ (D : Nat) (c : Code) (pre : List α) (W : World), w.heap.size ≤ D → Sp pre → Ix c pre W → W.heap[D]? = some (.deferred (some [])) → c.wpIn F n P Q { a with defers := { target := .collected D, args := #[] } :: a.defers } W) :
  (Code.rangeFunc g ps assign body).wpIn F n P Q a w := by
 refine wpIn_rangeFunc fun fn hfn => ?_
 rw [hro]
 have oI := hI.own
 have oIx := fun c => (hIx c).own
 obtain ⟨D, hD⟩ : ∃ D, w.heap.size = D := ⟨_, rfl⟩
 obtain ⟨rc, hrc⟩ : ∃ rc : LoopState → Option Code → Loop, rc = fun st pe => { state := st, pending := pe, fn, tmps := a.tmps, params := ps, assign, body, defers := D } := ⟨_, rfl⟩
 obtain ⟨V, hV⟩ : ∃ V, (w.alloc (.deferred (some []))).alloc (.loop (rc .ready none)) = V := ⟨_, rfl⟩
 have sV : V.heap.size = D + 2 := by rw [← hV]; simp [hD]
 have vL : V.heap[D + 1]? = some (.loop (rc .ready none)) := by
  have := World.alloc_heap_new (w.alloc (.deferred (some []))) (.loop (rc .ready none))
  rw [World.size_alloc, hD, hV] at this; exact this
 have vD : V.heap[D]? = some (.deferred (some [])) := by
  rw [← hV, Below.heap_alloc _ _ _ (by simp [hD]), ← hD]; exact World.alloc_heap_new w _
 have vI : I [] V := by rw [← hV]; exact oI.alloc _ (oI.alloc _ h0)
 have vB : Below w0.heap.size w0 V := by
  rw [← hV]; exact hb0.trans ((((q4B _ w).alloc (Nat.le_refl _) _).alloc (by simp) _).mono hb0.size)
 rw [hD] at hKb oI oIx hAx hassign hbody hdone hstop hI hIx
 refine ⟨D + 1, [{ target := .collected D, args := #[] }], V, { target := .fn (.func gf) lb, args := #[.func (.yield (D + 1)) #[] #[]] }, V, gf, #[.func (.yield (D + 1)) #[] #[]] ++ lb, V, ?_, ?_, ?_, ?_, fun _ => h1, ?_⟩
 ·rw [← hV, hrc, ← hD]; exact run_enterLoop_outer _ _ _ _ _
 ·simp only [resolve, hg]; simp [go_sem]
 ·intro f' hf'; simp [Target.leads] at hf'; subst hf'; exact hFg
 ·simp [invoke, go_sem, eg]
 /- what stands between two rounds: the caller's own, and the two blocks that the loop laid -/
 have far : ∀ {A B : World} {row : Option Nat} {k : Nat} {o : Obj}, A.grownBy B row → (∀ r, row = some r → V.heap.size ≤ r ∧ (r = V.heap.size ∨ ∃ o : Obj, A.heap[r]? = some o ∧ o.isWalk = true)) → k < D + 2 → A.heap[k]? = some o → B.heap[k]? = some o :=
  fun hg' hr hk ho => (hg'.block _ (q4A.1 ho).1 (fun e => by have := (hr _ e.symm).1; omega)).trans ho
 have near : ∀ {A : World} {row : Option Nat}, (∀ r, row = some r → V.heap.size ≤ r ∧ (r = V.heap.size ∨ ∃ o : Obj, A.heap[r]? = some o ∧ o.isWalk = true)) → ∀ r, row = some r → D ≤ r ∧ (r = D + 2 ∨ ∃ o : Obj, A.heap[r]? = some o ∧ o.isCells = false) :=
  fun hr r e => by
   obtain ⟨q, q2⟩ := hr r e
   refine ⟨by omega, q2.imp (fun h => by omega) (fun ⟨o, ho, hw⟩ => ⟨o, ho, Obj.not_cells_of_walk hw⟩)⟩
 refine (hseq (D + 1)
  (fun pre W => I pre W ∧ W.heap[D + 1]? = some (.loop (rc .ready none)) ∧ W.heap[D]? = some (.deferred (some [])))
  (fun pre W => ∃ c, Ix c pre W ∧ W.heap[D + 1]? = some (.loop (rc .done (some c))) ∧ W.heap[D]? = some (.deferred (some [])))
  V vB
  (fun s A B row hs hg' hr => ⟨hI s A B row hs.1 hg' (near hr), far hg' hr (by omega) hs.2.1, far hg' hr (by omega) hs.2.2⟩)
  (fun s A B row hs hg' hr => by
   obtain ⟨c, hc, hl, hk⟩ := hs
   exact ⟨c, hIx c s A B row hc hg' (near hr), far hg' hr (by omega) hl, far hg' hr (by omega) hk⟩)
  ?_ ⟨vI, vL, vD⟩).mono ?_
 ·rintro pre x W ⟨hi, hl, hk⟩ hlen
  have hlt : D + 1 < W.heap.size := (q4A.1 hl).1
  have hy := run_yield (P := P) (args := encs x) hl (by rw [hrc]; exact hps x)
  rw [hrc] at hy
  refine ⟨fn, _, assign, body, hy, roundIn_of_wpIn hfn (hassign _ pre x W _ hi (by omega) ?_)⟩
  clear hy
  intro a' X kX pX iX aX
  have xl := kX.same _ _ (by omega) hl rfl
  have xk := kX.same _ _ (Nat.le_refl _) hk rfl
  have xs : D + 1 < X.heap.size := (q4A.1 xl).1
  obtain ⟨Y, hY⟩ : ∃ Y, X.putObj (D + 1) (.loop { rc .ready none with state := .busy }) = Y := ⟨_, rfl⟩
  refine ⟨Y, by rw [← hY]; exact run_beginRound xl (by rw [hrc]), ?_⟩
  have yl : Y.heap[D + 1]? = some (.loop { rc .ready none with state := .busy }) := by rw [← hY]; exact World.putObj_heap_same xs
  have yk : Y.heap[D]? = some (.deferred (some [])) := by rw [← hY]; exact (World.putObj_heap_other (by omega)).trans xk
  have ys : D + 1 < Y.heap.size := (q4A.1 yl).1
  have yp : Kp X Y := by rw [← hY]; exact hKb _ _ _ _ (by omega) xl rfl rfl
  have yI : I pre Y := by rw [← hY]; exact oI.putObj _ iX (by omega) xl rfl
  have yA : Ax x a' Y := by rw [← hY]; exact (hAx x a').putObj (s := ()) _ aX (by omega) xl rfl
  refine wpIn_mono (hbody _ pre x a' Y (by omega) ⟨_, yl⟩ yI yA hlen (by omega)) ?_
  /- how a round ends -/
  have fin : ∀ (jump : Option Code) (Z : World), KeepsFrom D Y Z →
    (Instr.endRound (D + 1) jump).run P Z = .ok (.bool jump.isNone) (Z.putObj (D + 1) (.loop (rc (if jump.isNone then .ready else .done) jump))) ∧
    Z.heap[D + 1]? = some (.loop { rc .ready none with state := .busy }) ∧
    (Z.putObj (D + 1) (.loop (rc (if jump.isNone then .ready else .done) jump))).heap[D + 1]? = some (.loop (rc (if jump.isNone then .ready else .done) jump)) ∧
    (Z.putObj (D + 1) (.loop (rc (if jump.isNone then .ready else .done) jump))).heap[D]? = some (.deferred (some [])) := fun jump Z hz => by
   have zl := hz.same _ _ (by omega) yl rfl
   have e := run_endRound (P := P) jump zl
   rw [hrc] at e zl ⊢
   exact ⟨e, zl, World.putObj_heap_same (q4A.1 zl).1, (World.putObj_heap_other (by omega)).trans (hz.same _ _ (Nat.le_refl _) yk rfl)⟩
  have out : ∀ (p : Value → World → Prop) (c : Code) (Z : World), KeepsFrom D Y Z → Ix c (pre ++ [x]) Z → ∃ e Z', (Instr.endRound (D + 1) (some c)).run P Z = .ok e Z' ∧ (p e Z' ∨ Ending.returned e = .returned (.bool false) ∧ ∃ c, Ix c (pre ++ [x]) Z' ∧ Z'.heap[D + 1]? = some (.loop (rc .done (some c))) ∧ Z'.heap[D]? = some (.deferred (some []))) := fun p c Z hz hi3 => by
   obtain ⟨hr, zl, zl2, zk2⟩ := fin (some c) Z hz
   exact ⟨_, _, hr, .inr ⟨rfl, c, (oIx c).putObj _ hi3 (by omega) zl rfl, zl2, zk2⟩⟩
  rintro e a3 Z hp
  cases e with
  | normal =>
    obtain ⟨hz, hkp, hi3⟩ := hp
    obtain ⟨hr, zl, zl2, zk2⟩ := fin none Z hz
    exact ⟨_, _, hr, .inl ⟨rfl, ⟨oI.putObj _ hi3 (by omega) zl rfl, zl2, zk2⟩, hKt pX (hKt (hKt yp hkp) (hKb _ _ _ _ (by omega) zl rfl rfl))⟩⟩
  | ret => exact out (fun e Z' => Ending.returned e = .returned (.bool true) ∧ _) _ Z hp.1 hp.2
  | exit id => exact out (fun e Z' => Ending.returned e = .returned (.bool true) ∧ _) _ Z hp.1 hp.2
  | goto t => exact out (fun e Z' => Ending.returned e = .returned (.bool true) ∧ _) _ Z hp.1 hp.2
  | panic ch => exact hp.elim
  | outgrown => exact hp.elim
 ·rintro e X ⟨⟨v, rfl⟩, (⟨ys, hS, hi, hl, hk⟩ | ⟨pre, hSp, c, hi, hl, hk⟩)⟩
  ·exact ⟨none, _, by have := run_endLoop (P := P) hl (by rw [hrc]; simp); rw [hrc] at this; exact this, hdone _ ys _ (Nat.le_refl _) hS (oI.putObj _ hi (by omega) hl rfl) ((World.putObj_heap_other (by omega)).trans hk)⟩
  ·exact ⟨some c, _, by have := run_endLoop (P := P) hl (by rw [hrc]; simp); rw [hrc] at this; exact this, hstop _ c pre _ (Nat.le_refl _) hSp ((oIx c).putObj _ hi (by omega) hl rfl) ((World.putObj_heap_other (by omega)).trans hk)⟩
end
section
open Go.RowKit Go.Shelf
attribute [local go_sem] Oper.semAt_some

theorem uR {rs : List Sx.Rl} {name : Tx.Bs} {i k : Nat} {r : Sx.Rl} (h : rs[i]? = some r) (hn : (r.name == name) = true) (hk : k ≤ Sx.many r) : (Sx.turnsOf (rs.take i) name ++ Sx.iJ r k) <+: Sx.turnsOf rs name := by
 have e := Sx.oM (name := name) h
 rw [hn, if_pos rfl] at e
 have p1 : Sx.iJ r k <+: Sx.ko r := by
  rw [← Sx.xu]
  unfold Sx.iJ
  refine ⟨((List.range (Sx.many r)).drop k).map (fun (j : Nat) => Sx.gU r (r.frm + (j : Int))), ?_⟩
  rw [← List.map_append]
  congr 1
  have : (List.range (Sx.many r)).take k = List.range k := by rw [List.take_range, Nat.min_eq_left hk]
  rw [← this]; exact List.take_append_drop _ _
 have p2 : Sx.turnsOf (rs.take (i + 1)) name <+: Sx.turnsOf rs name := by
  have : rs = rs.take (i + 1) ++ rs.drop (i + 1) := (List.take_append_drop _ _).symm
  refine ⟨Sx.turnsOf (rs.drop (i + 1)) name, ?_⟩
  conv => rhs; rw [this]
  unfold Sx.turnsOf
  rw [List.filter_append, List.flatMap_append]
 refine List.IsPrefix.trans ?_ p2
 rw [e]
 obtain ⟨t, ht⟩ := p1
 exact ⟨t, by rw [List.append_assoc, ht]⟩
theorem Q6 {rs : List Sx.Rl} {name : Tx.Bs} {i k : Nat} {r : Sx.Rl} (h : rs[i]? = some r) (hn : (r.name == name) = true) (hk : k < Sx.many r) : (Sx.turnsOf (rs.take i) name ++ Sx.iJ r k).length < (Sx.turnsOf rs name).length := by
 have := (uR h hn (k := k + 1) (by omega)).length_le
 rw [Sx.oO] at this
 simp at this ⊢
 omega
def Kp (n₀ : Nat) (T : TypeId) (Bs : Nat) (W W' : World) : Prop := Below n₀ W W' ∧ AZ T Bs W W'
theorem Ob (n l Bl Bn Bs : Nat) (hn : 1 ≤ n) (rs : List Sx.Rl) (name : Tx.Bs) (ra : Option Addr) (rcap : Nat) (W0 W : World) (h : bN W0 (.slice ra rs.length rcap) rs) (hok : ∀ r ∈ rs, Sx.fV r) (hrs : rs.length ≤ 40)
  (cl : W0.cell? ⟨Bl, 0, none⟩ = some (.slice ra rs.length rcap)) (cn : W0.cell? ⟨Bn, 0, none⟩ = some (af name)) (hBl : Bl < W0.heap.size) (hBn : Bn < W0.heap.size) (hBs : Bs < W.heap.size) (hW : Below W0.heap.size W0 W)
  (J Jx : List Sx.Tn → World → Prop) (hJ : AbidesFrom W.heap.size J)
  (hY : ∀ pre x W1, J pre W1 → pre.length < (Sx.turnsOf rs name).length → YieldAt Fence.wide (n - 1) Tryz.prog l #[Ag x] W1 fun e W' => (e = .returned (.bool true) ∧ J (pre ++ [x]) W' ∧ Kp W0.heap.size 120 Bs W1 W') ∨ (e = .returned (.bool false) ∧ Jx (pre ++ [x]) W'))
  (h0 : J [] W) :
  CallsIn Fence.wide n Tryz.prog 127 #[.func (.yield l) #[] #[], .pointer (some ⟨Bl, 0, none⟩), .pointer (some ⟨Bn, 0, none⟩)] W fun e W' => (∃ v, e = .returned v) ∧ ((∃ ys, ys = Sx.turnsOf rs name ∧ J ys W') ∨ (∃ pre, pre <+: Sx.turnsOf rs name ∧ Jx pre W')) := by
 have HY := hid hY
 have HJ := hid hJ
 have H := hid h
 have HOK := hid hok
 have cl1 := (hW.cell (p := ⟨Bl, 0, none⟩) hBl).trans cl
 have HCN := hid cn
 clear hY hJ h hok cl cn
 refine callsIn_of_wp Tryz.func127 rfl trivial ?_ rfl
 simp only [Tryz.ntmps127, List.size_toArray, List.length_cons, List.length_nil, Nat.reduceAdd, Nat.reduceSub, Array.replicate_succ, Array.replicate_zero, List.push_toArray, List.append_toArray, List.nil_append, List.cons_append]
 gi_wp2
 gi_loopw [9] (fun a wr => ∃ i : Nat, i ≤ rs.length ∧ a = .int .i64 i ∧ Hid (J (Sx.turnsOf (rs.take i) name) wr) ∧ Hid (Below W0.heap.size W0 wr) ∧ Hid (W.heap.size ≤ wr.heap.size)) (fun a _ => rs.length - (intOf a).toNat)
 case atStart => exact ⟨0, Nat.zero_le _, rfl, h0, hW, Nat.le_refl _⟩
 case round =>
  obtain ⟨i, hi, rfl, JS, B0, SZ⟩ := hrel
  by_cases hlt : i < rs.length
  case neg =>
   have e : rs.take i = rs := List.take_of_length_le (by omega)
   rw [e] at JS
   gi_wp2
   go_end0
   exact ⟨⟨_, rfl⟩, .inl ⟨_, rfl, JS.out⟩⟩
  obtain ⟨r, hx⟩ : ∃ r, rs[i]? = some r := ⟨_, q4G hlt⟩
  obtain ⟨rb, ro, rfl, hrb, hc⟩ := aN (au H.out B0.out) hx
  obtain ⟨c0, c1, c2, c3, c4, c5, c6, c7, c8, c9, c10⟩ := oh hc
  have HX := hid hx
  have ok := HOK.out r (List.mem_of_getElem? hx)
  have cn1 : wr.cell? ⟨Bn, 0, none⟩ = some (af name) := (B0.out.cell (p := ⟨Bn, 0, none⟩) hBn).trans HCN.out
  have sBn : Bn < wr.heap.size := q4N hBn B0.out.size
  clear hc hx
  cases hnm : (r.name == name)
  ·have hnm' : (r.name != name) = true := by simp [bne, hnm]
   have JN : Hid (J (Sx.turnsOf (rs.take (i + 1)) name) (wr.alloc (.cells (aG r).toArray 40))) := by
    show J _ _
    rw [Sx.oM HX.out, hnm, if_neg (by decide), List.append_nil]
    exact HJ.out _ _ _ none JS.out (World.grownBy_alloc wr _ none) (fun r e => by cases e)
   have BN := hid (B0.out.alloc B0.out.size (.cells (aG r).toArray 40))
   have SN : Hid (W.heap.size ≤ (wr.alloc (.cells (aG r).toArray 40)).heap.size) := by show _ ≤ _; have := SZ.out; simp; omega
   gi_wp2
   go_roundw
   case rel => exact ⟨i + 1, by omega, by go_num, JN, BN, SN⟩
   case measure => simp [intOf]; omega
  ·have hnm' : (r.name != name) = false := by simp [bne, hnm]
   have HNM := hid hnm
   have J1 : Hid (J (Sx.turnsOf (rs.take i) name ++ Sx.iJ r 0) (wr.alloc (.cells (aG r).toArray 40))) := by
    show J _ _
    simp only [Sx.iJ, List.range_zero, List.map_nil, List.append_nil]
    exact HJ.out _ _ _ none JS.out (World.grownBy_alloc wr _ none) (fun r e => by cases e)
   have B1 := hid (B0.out.alloc B0.out.size (.cells (aG r).toArray 40))
   have S1 : Hid (W.heap.size ≤ (wr.alloc (.cells (aG r).toArray 40)).heap.size) := by show _ ≤ _; have := SZ.out; simp; omega
   have K1 : Hid ((wr.alloc (.cells (aG r).toArray 40)).heap[wr.heap.size]? = some (.cells (aG r).toArray 40)) := World.alloc_heap_new wr _
   have hRs : Hid (Bs ≠ wr.heap.size) := by show _ ≠ _; have := SZ.out; omega
   have HOKR := hid ok
   have X1 := hid (aC wr (aG r) 40)
   obtain ⟨f1, f2, f3, _, _, fa, _, _⟩ := ok
   have hmany : Hid ((Sx.many r : Int) = r.to - r.frm + 1) := by show _ = _; simp [Sx.many]; omega
   gi_wp2
   obtain ⟨Rb, hRb⟩ : ∃ Rb, wr.heap.size = Rb := ⟨_, rfl⟩
   obtain ⟨V, hV⟩ : ∃ V, wr.alloc (.cells (aG r).toArray 40) = V := ⟨_, rfl⟩
   rw [show wr.alloc (.cells #[af r.name, .int .i64 r.frm, .int .i64 r.to, .int .i64 r.month, .int .i64 r.kind, .int .i64 r.wk, .int .i64 r.n, .int .i64 r.at_, .int .i64 r.clock, .int .i64 r.save, af r.letter] 40) = V from hV, hRb]
   rw [hV] at J1 B1 S1 K1 X1
   rw [hRb] at K1 hRs X1
   clear hV c0 c1 c2 c3 c4 c5 c6 c7 c8 c9 c10 hrb JS B0 cn1 sBn SZ
   gi_loopw [6] (fun y wq => ∃ k : Nat, k ≤ Sx.many r ∧ y = .int .i64 (r.frm + (k : Int)) ∧ Hid (J (Sx.turnsOf (rs.take i) name ++ Sx.iJ r k) wq) ∧ Hid (Below W0.heap.size W0 wq) ∧ Hid (wq.heap[Rb]? = some (.cells (aG r).toArray 40)) ∧ Hid (ag wq Rb (aG r)) ∧ Hid (W.heap.size ≤ wq.heap.size)) (fun y _ => (r.to + 1 - intOf y).toNat)
   case atStart => exact ⟨0, Nat.zero_le _, by simp, J1, B1, K1, X1, S1⟩
   case round =>
    clear J1 B1 K1 S1 X1
    obtain ⟨k, hk, rfl, J1, B1, K1, X1, S1⟩ := hrel
    have sR := X1.out.1
    obtain ⟨x0, _⟩ := aa X1.out 0 rfl
    obtain ⟨x1, _⟩ := aa X1.out 1 rfl
    obtain ⟨x2, _⟩ := aa X1.out 2 rfl
    obtain ⟨x3, _⟩ := aa X1.out 3 rfl
    obtain ⟨x4, _⟩ := aa X1.out 4 rfl
    obtain ⟨x5, _⟩ := aa X1.out 5 rfl
    obtain ⟨x6, _⟩ := aa X1.out 6 rfl
    obtain ⟨x7, _⟩ := aa X1.out 7 rfl
    obtain ⟨x8, _⟩ := aa X1.out 8 rfl
    obtain ⟨x9, _⟩ := aa X1.out 9 rfl
    obtain ⟨x10, _⟩ := aa X1.out 10 rfl
    by_cases hlk : k < Sx.many r
    case neg =>
     have hke : k = Sx.many r := by omega
     have hgt : ¬ r.frm + (k : Int) ≤ r.to := by have := hmany.out; omega
     have JN : Hid (J (Sx.turnsOf (rs.take (i + 1)) name) wr) := by
      have := J1.out
      rw [hke, Sx.xu] at this
      show J _ _
      rw [Sx.oM HX.out, HNM.out, if_pos rfl]
      exact this
     gi_wp2
     go_roundw
     case rel => exact ⟨i + 1, by omega, by go_num, JN, B1, S1⟩
     case measure => simp [intOf]; omega
    have hle : r.frm + (k : Int) ≤ r.to := by have := hmany.out; omega
    have OY := hid (Sx.uA HOKR.out (y := r.frm + (k : Int)) (by omega) (by omega))
    have HC := hid (Kw r (r.frm + (k : Int)) wr OY.out.1 fa.1 fa.2)
    obtain ⟨T, hT⟩ : ∃ T, Sx.gU r (r.frm + (k : Int)) = T := ⟨_, rfl⟩
    rw [hT] at HC
    have HT := hid hT
    have HLT := hid (Q6 HX.out HNM.out hlk)
    clear hT
    gi_wp2_with (refine ⟨trivial, ?_⟩; gi_at_call 128; refine (callsIn_wide.2 HC.out).mono ?_; rintro e w1 ⟨rfl, hb⟩; have J2 := HJ.out _ _ _ none J1.out (below_grown hb) (fun r e => by cases e); obtain ⟨fn, tmps, assign, body, hy, hR⟩ := HY.out _ T w1 J2 HLT.out)
    refine hR.mono ?_
    have KB := K1.out
    have B2 : Below W0.heap.size W0 w1 := B1.out.trans (hb.mono B1.out.size)
    have X2 := ah X1.out hb
    have K2 : w1.heap[Rb]? = some (.cells (aG r).toArray 40) := by rw [hb.block Rb sR]; exact KB
    have S2 : W.heap.size ≤ w1.heap.size := Nat.le_trans S1.out hb.size
    rintro e W3 (⟨rfl, hJ3, hk3⟩ | ⟨rfl, hJx3⟩)
    ·have JN : Hid (J (Sx.turnsOf (rs.take i) name ++ Sx.iJ r (k + 1)) W3) := by
      show J _ _
      rw [Sx.oO, HT.out, ← List.append_assoc]
      exact hJ3
     have BN : Hid (Below W0.heap.size W0 W3) := B2.trans hk3.1
     have KN : Hid (W3.heap[Rb]? = some (.cells (aG r).toArray 40)) := hk3.2.cells Rb _ _ K2 (by decide) (Ne.symm hRs.out)
     have XN : Hid (ag W3 Rb (aG r)) := jw X2 (q4N X2.1 hk3.2.size) (by rw [KN.out, K2])
     have SN : Hid (W.heap.size ≤ W3.heap.size) := Nat.le_trans S2 hk3.2.size
     clear hk3 hJ3 B2 X2 K2 S2 hb hR hy J2 KB J1 B1 K1 X1 S1
     gi_wp2
     go_roundw
     case rel => exact ⟨k + 1, by omega, by go_num, JN, BN, KN, XN, SN⟩
     case measure => simp [intOf]; omega
    ·have PX : Hid ((Sx.turnsOf (rs.take i) name ++ Sx.iJ r k ++ [T]) <+: Sx.turnsOf rs name) := by
      have := uR HX.out HNM.out (k := k + 1) (by omega)
      rw [Sx.oO, HT.out, ← List.append_assoc] at this
      exact this
     gi_wp2
     refine bodyPost_ret (results_none rfl _ _ _) rfl ?_
     exact ⟨⟨_, rfl⟩, .inr ⟨_, PX.out, hJx3⟩⟩
end
section
open Go.RowKit Go.Shelf
attribute [local go_sem] Oper.semAt_some

namespace Sx
def ago : Tn := ⟨-1099511627776, 0, 0, []⟩
def dh : Tn → List Tn → List (Tn × Tn)
 | _, [] => []
 | p, t :: r => (p, t) :: dh t r
def bY (l : List Tn) : List (Tn × Tn) := dh ago l
def lastT (p : Tn) (l : List Tn) : Tn := (l.getLast?).getD p
theorem nD : ∀ (l : List Tn) (p t : Tn), dh p (l ++ [t]) = dh p l ++ [(lastT p l, t)]
 | [], p, t => rfl
 | u :: r, p, t => by
   simp only [List.cons_append, dh, nD r u t, lastT, List.getLast?_cons]
   cases r.getLast? <;> rfl
theorem mM : ∀ (l : List Tn) (p : Tn), (dh p l).length = l.length
 | [], p => rfl
 | u :: r, p => by simp [dh, mM r u]
theorem dQ {α : Type} {l : List α} {i : Nat} {t : α} (h : l[i]? = some t) : l.take (i + 1) = l.take i ++ [t] := by
 rw [List.take_add_one, h]; rfl
theorem Kg {l : List Tn} {i : Nat} {t : Tn} (h : l[i]? = some t) : bY (l.take (i + 1)) = bY (l.take i) ++ [(lastT ago (l.take i), t)] := by
 unfold bY; rw [dQ h, nD]
theorem Mv {l : List Tn} {i : Nat} {t : Tn} (h : l[i]? = some t) : lastT ago (l.take (i + 1)) = t := by
 rw [dQ h]; simp [lastT]
theorem nE : ∀ (a b : List Tn) (p : Tn), dh p a <+: dh p (a ++ b)
 | [], b, p => by simp [dh]
 | u :: r, b, p => by
   simp only [List.cons_append, dh]
   obtain ⟨t, ht⟩ := nE r b u
   exact ⟨t, by simp [ht]⟩
theorem En (l : List Tn) (i : Nat) : bY (l.take i) <+: bY l := by
 have := nE (l.take i) (l.drop i) ago
 rwa [List.take_append_drop] at this
end Sx
def kU := Rd 4 dw
def xH := Rd 3 dF
theorem Sd {w : World} {b o i : Nat} {t : Sx.Tn} (h : ∀ k u, (dw t)[k]? = some u → w.cell? ⟨b, o + i * 4 + k, none⟩ = some u) :
  w.cell? ⟨b, o + i * 4, none⟩ = some (.int .i64 t.stands) ∧ w.cell? ⟨b, o + i * 4 + 1, none⟩ = some (.int .i64 t.clock) ∧ w.cell? ⟨b, o + i * 4 + 2, none⟩ = some (.int .i64 t.save) ∧ w.cell? ⟨b, o + i * 4 + 3, none⟩ = some (af t.letter) :=
 ⟨h 0 _ rfl, h 1 _ rfl, h 2 _ rfl, h 3 _ rfl⟩
theorem aj {W : World} {b : Nat} {vs : List Value} {t : TypeId} (h : W.heap[b]? = some (.cells vs.toArray t (0, 0))) : ag W b vs := by
 refine ⟨(q4A.1 h).1, fun k v hv => ?_⟩
 simp [World.cell?, World.frozen?, h, hv]
/- four cells of a block written one by one -/
theorem put4 {W : World} {b : Nat} {t : TypeId} {c0 c1 c2 c3 : Value} (v0 v1 v2 v3 : Value) (h : W.heap[b]? = some (.cells #[c0, c1, c2, c3] t)) :
  ((((W.setCell ⟨b, 0, none⟩ v0).setCell ⟨b, 1, none⟩ v1).setCell ⟨b, 2, none⟩ v2).setCell ⟨b, 3, none⟩ v3).heap[b]? = some (.cells #[v0, v1, v2, v3] t) := by
 obtain ⟨hlt, e⟩ := q4A.1 h
 simp [World.setCell, Array.getElem?_modify, h]
theorem TL (W : World) (b : Nat) (v0 v1 v2 v3 : Value) : W.grownBy ((((W.setCell ⟨b, 0, none⟩ v0).setCell ⟨b, 1, none⟩ v1).setCell ⟨b, 2, none⟩ v2).setCell ⟨b, 3, none⟩ v3) (some b) := by
 refine ⟨rfl, rfl, rfl, by simp, fun k hk hn => ?_⟩
 have hne : k ≠ b := fun e => hn (by rw [e])
 rw [Below.heap_setCell _ _ _ _ hne, Below.heap_setCell _ _ _ _ hne, Below.heap_setCell _ _ _ _ hne, Below.heap_setCell _ _ _ _ hne]

theorem NU (n l Bo Bs : Nat) (hn : 1 ≤ n) (ts : List Sx.Tn) (ra : Option Addr) (rcap : Nat) (W0 W : World) (h : kU W0 (.slice ra ts.length rcap) ts) (hts : ts.length ≤ 10000)
  (cl : W.cell? ⟨Bo, 0, none⟩ = some (.slice ra ts.length rcap)) (hBo : Bo < W.heap.size) (hBs : Bs < W.heap.size) (hW : Below W0.heap.size W0 W)
  (J Jx : List (Sx.Tn × Sx.Tn) → World → Prop) (hJ : xG W.heap.size J)
  (hY : ∀ pre x W1, J pre W1 → pre ++ [x] <+: Sx.bY ts → YieldAt Fence.wide (n - 1) Tryz.prog l #[qh x.1 x.2] W1 fun e W' => (e = .returned (.bool true) ∧ J (pre ++ [x]) W' ∧ Kp W0.heap.size 72 Bs W1 W') ∨ (e = .returned (.bool false) ∧ Jx (pre ++ [x]) W'))
  (h0 : J [] W) :
  CallsIn Fence.wide n Tryz.prog 131 #[.func (.yield l) #[] #[], .pointer (some ⟨Bo, 0, none⟩)] W fun e W' => (∃ v, e = .returned v) ∧ ((∃ ys, ys = Sx.bY ts ∧ J ys W') ∨ (∃ pre, pre <+: Sx.bY ts ∧ Jx pre W')) := by
 have HY := hid hY
 have HJ := hid hJ
 have H := hid h
 have cl1 := cl
 have sBo : Bo < W.heap.size := hBo
 have J0 : Hid (J (Sx.bY (ts.take 0)) (W.alloc (.cells (dw Sx.ago).toArray 120))) := hJ _ _ _ none h0 (World.grownBy_alloc W _ none) (fun r e => by cases e)
 have B0 := hid (hW.alloc hW.size (.cells (dw Sx.ago).toArray 120))
 have F0 : Hid ((W.alloc (.cells (dw Sx.ago).toArray 120)).heap[W.heap.size]? = some (.cells (dw (Sx.lastT Sx.ago (ts.take 0))).toArray 120)) := World.alloc_heap_new W _
 have S0 : Hid (W.heap.size < (W.alloc (.cells (dw Sx.ago).toArray 120)).heap.size) := by show _ < _; simp
 have hsB : Hid (Bs ≠ W.heap.size ∧ W0.heap.size ≤ W.heap.size) := ⟨by omega, hW.size⟩
 have BsL := hid hBs
 clear hY hJ h cl h0
 refine callsIn_of_wp Tryz.func131 rfl trivial ?_ rfl
 simp only [Tryz.ntmps131, List.size_toArray, List.length_cons, List.length_nil, Nat.reduceAdd, Nat.reduceSub, Array.replicate_succ, Array.replicate_zero, List.push_toArray, List.append_toArray, List.nil_append, List.cons_append]
 gi_wp2
 obtain ⟨Fb, hFb⟩ : ∃ Fb, W.heap.size = Fb := ⟨_, rfl⟩
 rw [hFb] at HJ F0 S0 hsB BsL ⊢
 obtain ⟨V, hV⟩ : ∃ V, W.alloc (.cells (dw Sx.ago).toArray 120) = V := ⟨_, rfl⟩
 rw [show W.alloc (.cells #[.int .i64 (-1099511627776), .int .i64 0, .int .i64 0, .string ⟨#[]⟩] 120) = V from hV]
 rw [hV] at J0 B0 F0 S0
 clear hV hFb hW hBs cl1 sBo
 gi_loopw [9] (fun a wr => ∃ i : Nat, i ≤ ts.length ∧ a = .int .i64 i ∧ Hid (J (Sx.bY (ts.take i)) wr) ∧ Hid (Below W0.heap.size W0 wr) ∧ Hid (wr.heap[Fb]? = some (.cells (dw (Sx.lastT Sx.ago (ts.take i))).toArray 120)) ∧ Hid (Fb < wr.heap.size)) (fun a _ => ts.length - (intOf a).toNat)
 case atStart => exact ⟨0, Nat.zero_le _, rfl, J0, B0, F0, S0⟩
 case round =>
  clear J0 B0 F0 S0
  obtain ⟨i, hi, rfl, JS, B0, F0, SZ⟩ := hrel
  by_cases hlt : i < ts.length
  case neg =>
   have e : ts.take i = ts := List.take_of_length_le (by omega)
   rw [e] at JS
   gi_wp2
   go_end0
   exact ⟨⟨_, rfl⟩, .inl ⟨_, rfl, JS.out⟩⟩
  obtain ⟨t, hx⟩ : ∃ t, ts[i]? = some t := ⟨_, q4G hlt⟩
  obtain ⟨rb, ro, rfl, hrb, hc⟩ := aN (au H.out B0.out) hx
  obtain ⟨c0, c1, c2, c3⟩ := Sd hc
  have HX := hid hx
  have HL := hid (Sx.Kg hx)
  have HN := hid (Sx.Mv hx)
  obtain ⟨p, hp⟩ : ∃ p, Sx.lastT Sx.ago (ts.take i) = p := ⟨_, rfl⟩
  rw [hp] at F0 HL
  have CF := aj F0.out
  obtain ⟨⟨f0, z0⟩, ⟨f1, z1⟩, ⟨f2, z2⟩, ⟨f3, z3⟩, -⟩ := cp4 CF
  have sF := SZ.out
  have J2 : Hid (J (Sx.bY (ts.take i)) (wr.alloc (.cells (dw t).toArray 120))) := HJ.out _ _ _ none JS.out (World.grownBy_alloc wr _ none) (fun r e => by cases e)
  have B2 := hid (B0.out.alloc B0.out.size (.cells (dw t).toArray 120))
  have PX : Hid ((Sx.bY (ts.take i) ++ [(p, t)]) <+: Sx.bY ts) := by
   show _ <+: _
   rw [← HL.out]
   exact Sx.En ts (i + 1)
  clear hc hx hp CF
  obtain ⟨fn, tmps, assign, body, hy, hR⟩ := HY.out _ (p, t) (wr.alloc (.cells #[.int .i64 t.stands, .int .i64 t.clock, .int .i64 t.save, af t.letter] 120)) J2.out PX.out
  dsimp only at hy
  have HR := hid hR
  have K2 : Hid ((wr.alloc (.cells (dw t).toArray 120)).heap[wr.heap.size]? = some (.cells (dw t).toArray 120)) := World.alloc_heap_new wr _
  have F2 : Hid ((wr.alloc (.cells (dw t).toArray 120)).heap[Fb]? = some (.cells (dw p).toArray 120)) := by show _ = _; rw [Below.heap_alloc _ _ _ sF]; exact F0.out
  have hT : Hid (Bs ≠ wr.heap.size ∧ W0.heap.size ≤ wr.heap.size ∧ Fb < wr.heap.size) := ⟨by have := hsB.out; have := BsL.out; omega, B0.out.size, SZ.out⟩
  clear hR
  gi_wp2
  refine HR.out.mono ?_
  clear HR hy f0 f1 f2 f3 z0 z1 z2 z3 c0 c1 c2 c3 hrb F0 JS B0 SZ sF J2
  obtain ⟨Tb, hTb⟩ : ∃ Tb, wr.heap.size = Tb := ⟨_, rfl⟩
  obtain ⟨X, hX⟩ : ∃ X, wr.alloc (.cells (dw t).toArray 120) = X := ⟨_, rfl⟩
  rw [show wr.alloc (.cells #[.int .i64 t.stands, .int .i64 t.clock, .int .i64 t.save, af t.letter] 120) = X from hX]
  rw [hX] at K2 F2 B2
  rw [hTb] at K2 hT ⊢
  clear hX hTb
  rintro e W3 (⟨rfl, hJ3, hk3⟩ | ⟨rfl, hJx3⟩)
  ·have F3 : W3.heap[Fb]? = some (.cells (dw p).toArray 120) := hk3.2.cells Fb _ _ F2.out (by decide) (Ne.symm hsB.out.1)
   have T3 : W3.heap[Tb]? = some (.cells (dw t).toArray 120) := hk3.2.cells Tb _ _ K2.out (by decide) (Ne.symm hT.out.1)
   have B3 : Below W0.heap.size W0 W3 := B2.out.trans hk3.1
   have s3 : Fb < W3.heap.size := (q4A.1 F3).1
   have st3 : Tb < W3.heap.size := (q4A.1 T3).1
   obtain ⟨⟨f0, z0⟩, ⟨f1, z1⟩, ⟨f2, z2⟩, ⟨f3, z3⟩, -⟩ := cp4 (aj F3)
   obtain ⟨⟨c0, _⟩, ⟨c1, _⟩, ⟨c2, _⟩, ⟨c3, _⟩, -⟩ := cp4 (aj T3)
   have G := TL W3 Fb (.int .i64 t.stands) (.int .i64 t.clock) (.int .i64 t.save) (af t.letter)
   have JN : Hid (J (Sx.bY (ts.take (i + 1))) ((((W3.setCell ⟨Fb, 0, none⟩ (.int .i64 t.stands)).setCell ⟨Fb, 1, none⟩ (.int .i64 t.clock)).setCell ⟨Fb, 2, none⟩ (.int .i64 t.save)).setCell ⟨Fb, 3, none⟩ (af t.letter))) := by
    show J _ _
    rw [HL.out]
    exact HJ.out _ _ _ _ hJ3 G (fun r e => by cases e; exact ⟨Nat.le_refl _, .inl rfl⟩)
   have BN := hid (B3.grown G B3.size (fun k e => by cases e; exact hsB.out.2))
   have FN : Hid (((((W3.setCell ⟨Fb, 0, none⟩ (.int .i64 t.stands)).setCell ⟨Fb, 1, none⟩ (.int .i64 t.clock)).setCell ⟨Fb, 2, none⟩ (.int .i64 t.save)).setCell ⟨Fb, 3, none⟩ (af t.letter)).heap[Fb]? = some (.cells (dw (Sx.lastT Sx.ago (ts.take (i + 1)))).toArray 120)) := by
    show _ = _
    rw [HN.out]
    exact put4 _ _ _ _ F3
   have SN : Hid (Fb < ((((W3.setCell ⟨Fb, 0, none⟩ (.int .i64 t.stands)).setCell ⟨Fb, 1, none⟩ (.int .i64 t.clock)).setCell ⟨Fb, 2, none⟩ (.int .i64 t.save)).setCell ⟨Fb, 3, none⟩ (af t.letter)).heap.size) := q4N s3 G.size
   clear hk3 hJ3 B3 G F3 T3 F2 K2 B2
   gi_wp2
   go_roundw
   case rel => exact ⟨i + 1, by omega, by go_num, JN, BN, FN, SN⟩
   case measure => simp [intOf]; omega
  ·gi_wp2
   refine bodyPost_ret (results_none rfl _ _ _) rfl ?_
   exact ⟨⟨_, rfl⟩, .inr ⟨_, PX.out, hJx3⟩⟩
theorem xe (n Bo Bs : Nat) (hn : 1 ≤ n) (ts : List Sx.Tn) (ra : Option Addr) (rcap : Nat) (W0 w : World) (h : kU W0 (.slice ra ts.length rcap) ts) (hts : ts.length ≤ 10000)
  (cl : w.cell? ⟨Bo, 0, none⟩ = some (.slice ra ts.length rcap)) (hBo : Bo < w.heap.size) (hBs : Bs < w.heap.size) (hW : Below W0.heap.size W0 w) :
  SeqC Fence.wide n Tryz.prog 131 #[.pointer (some ⟨Bo, 0, none⟩)] (fun x : Sx.Tn × Sx.Tn => #[qh x.1 x.2]) (Kp W0.heap.size 72 Bs) (fun ys => ys = Sx.bY ts) (fun pre => pre <+: Sx.bY ts) w :=
 fun l J Jx W hW1 hJ hJx hY h0 => NU n l Bo Bs hn ts ra rcap W0 W h hts ((hW1.cell (p := ⟨Bo, 0, none⟩) hBo).trans cl) (q4N hBo hW1.size) (q4N hBs hW1.size) (hW.trans (hW1.mono hW.size)) J Jx hJ hY h0
end
section
open Go.RowKit Go.Shelf
attribute [local go_sem] Oper.semAt_some

namespace Sx
def close (x : Tn × Tn) : Bool := decide (x.2.stands - x.1.stands < 172800)
theorem oV : ∀ (l : List Tn) (p : Tn), (dh p l).any close = !cB p.stands l
 | [], p => rfl
 | t :: r, p => by
   simp only [dh, List.any_cons, oV r t, cB, close]
   cases cB t.stands r <;> by_cases h : 172800 ≤ t.stands - p.stands <;> simp [h] <;> omega
theorem EW {l : List Tn} (h : ∀ t ∈ l, -1000000000000 ≤ t.stands) : (bY l).any close = !apart l := by
 match l, h with
 | [], _ => rfl
 | t :: r, h =>
   have h1 := h t (by simp)
   simp only [bY, dh, List.any_cons, oV, apart, close, ago]
   rw [decide_eq_false (by omega)]
   rfl
end Sx
def kT (x : Sx.Tn × Sx.Tn) : List Value := [.int .i64 x.1.stands, .int .i64 x.1.clock, .int .i64 x.1.save, af x.1.letter, .int .i64 x.2.stands, .int .i64 x.2.clock, .int .i64 x.2.save, af x.2.letter]
def noT : Sx.Tn := ⟨0, 0, 0, []⟩
def noS : Sx.Tn × Sx.Tn := (noT, noT)
theorem qO (ra : Option Addr) (n rcap : Nat) (w : World) :
  Calls Tryz.prog 68 #[.slice ra n rcap] w fun e w' => e = .returned (.func (.func 131) #[] #[.pointer (some ⟨w.heap.size, 0, none⟩)]) ∧ w' = w.alloc (.cells #[.slice ra n rcap] 110) := by
 go_enter Tryz.func68, Tryz.ntmps68
 go_wp2
 go_ret
 exact ⟨rfl, rfl⟩
theorem IJ (x : Sx.Tn × Sx.Tn) (w : World) (h1 : -2000000000000 ≤ x.1.stands) (h2 : x.1.stands ≤ 2000000000000) (h3 : -2000000000000 ≤ x.2.stands) (h4 : x.2.stands ≤ 2000000000000) :
  Calls Tryz.prog 130 #[qh x.1 x.2] w fun e w' => e = .returned (.bool (Sx.close x)) ∧ Below w.heap.size w w' := by
 obtain ⟨p, t⟩ := x
 dsimp only at h1 h2 h3 h4 ⊢
 have EC : Hid (Sx.close (p, t) = decide (t.stands - p.stands < 172800)) := rfl
 go_enter Tryz.func130, Tryz.ntmps130
 go_wp2
 go_ret
 exact ⟨by rw [EC.out]; rfl, (q4B _ _).alloc (Nat.le_refl _) _⟩
theorem bu {β : Type} {B k : Nat} {o : Obj} (h : k < B) : dx B (fun (_ : β) W => W.heap[k]? = some o) :=
 fun _ W W' row hs hg hr => (hg.block k (q4A.1 hs).1 (fun e => by have := (hr k e.symm).1; omega)).trans hs
theorem bU {β : Type} {B : Nat} (p : β → Prop) : dx B (fun s (_ : World) => p s) := fun _ _ _ _ hs _ _ => hs
theorem SQ {n₀ Bs : Nat} {T : TypeId} {A B C : World} (h : Kp n₀ T Bs A B) (k : Kp n₀ T Bs B C) : Kp n₀ T Bs A C := ⟨h.1.trans k.1, DN h.2 k.2⟩
theorem SI {n₀ Bs : Nat} {T : TypeId} {w : World} (hn : n₀ ≤ w.heap.size) (W : World) (l : Nat) (o o' : Obj) (a : w.heap.size ≤ l) (b : W.heap[l]? = some o) (c : o.isCells = false) (d : o.isWalk = false) : Kp n₀ T Bs W (W.putObj l o') :=
 ⟨belowK_b hn W l o o' a b c d, Lf (w := w) W l o o' a b c d⟩
theorem xL {n₀ Bs : Nat} {T : TypeId} {W W' : World} (hb : Below W.heap.size W W') (hn : n₀ ≤ W.heap.size) : Kp n₀ T Bs W W' :=
 ⟨hb.mono hn, hb.size, fun k cs t a _ _ => by rw [hb.block k (q4A.1 a).1]; exact a⟩
theorem dI {W W' : World} (hb : Below W.heap.size W W') : KeepsOthers W W' :=
 ⟨hb.size, fun k o hk _ => (hb.block k (q4A.1 hk).1).trans hk⟩
theorem xN {β γ : Type} {B : Nat} {I : γ → β → World → Prop} (h : ∀ x, dx B (I x)) : dx B (fun s W => ∃ x, I x s W) :=
 fun s W W' row ⟨x, hs⟩ hg hr => ⟨x, h x s W W' row hs hg hr⟩
theorem vV : ∀ (l : List Sx.Tn) (p : Sx.Tn) (x : Sx.Tn × Sx.Tn), x ∈ Sx.dh p l → (x.1 = p ∨ x.1 ∈ l) ∧ x.2 ∈ l
 | [], p, x, h => by simp [Sx.dh] at h
 | t :: r, p, x, h => by
   simp only [Sx.dh, List.mem_cons] at h
   rcases h with rfl | h
   ·exact ⟨.inl rfl, by simp⟩
   ·have := vV r t x h
    exact ⟨.inr (by rcases this.1 with e | e <;> simp [e]), by simp [this.2]⟩
theorem iw {α : Type} {pre l : List α} {x : α} (h : pre ++ [x] <+: l) : x ∈ l := h.subset (by simp)
theorem ax {n : Nat} {A B : World} (h : Below n A B) {k : Nat} (hk : n ≤ k) (c : Nat) (v : Value) : Below n A (B.setCell ⟨k, c, none⟩ v) := aB h hk v
theorem eG {W : World} {b : Nat} {t : TypeId} {cs : Array Value} (h : W.heap[b]? = some (.cells cs t)) (i : Nat) (v : Value) : (W.setCell ⟨b, i, none⟩ v).heap[b]? = some (.cells (cs.setIfInBounds i v) t) := by
 obtain ⟨hlt, e⟩ := q4A.1 h
 simp [World.setCell, Array.getElem?_modify, h]
theorem put8 {W : World} {b : Nat} {t : TypeId} {c0 c1 c2 c3 c4 c5 c6 c7 : Value} (v0 v1 v2 v3 v4 v5 v6 v7 : Value) (h : W.heap[b]? = some (.cells #[c0, c1, c2, c3, c4, c5, c6, c7] t)) :
  ((((((((W.setCell ⟨b, 0, none⟩ v0).setCell ⟨b, 1, none⟩ v1).setCell ⟨b, 2, none⟩ v2).setCell ⟨b, 3, none⟩ v3).setCell ⟨b, 4, none⟩ v4).setCell ⟨b, 5, none⟩ v5).setCell ⟨b, 6, none⟩ v6).setCell ⟨b, 7, none⟩ v7).heap[b]? = some (.cells #[v0, v1, v2, v3, v4, v5, v6, v7] t) := by
 have e := eG (eG (eG (eG (eG (eG (eG (eG h 0 v0) 1 v1) 2 v2) 3 v3) 4 v4) 5 v5) 6 v6) 7 v7
 simp only [List.setIfInBounds_toArray, List.set_cons_zero, List.set_cons_succ] at e
 exact e
theorem xE {W : World} {b : Nat} {t : TypeId} {c0 : Value} (v0 : Value) (h : W.heap[b]? = some (.cells #[c0] t)) : (W.setCell ⟨b, 0, none⟩ v0).heap[b]? = some (.cells #[v0] t) := by
 obtain ⟨hlt, e⟩ := q4A.1 h
 simp [World.setCell, Array.getElem?_modify, h]
theorem grown_put {W W' : World} {b : Nat} (h : W.grownBy W' (some b)) (i : Nat) (v : Value) : W.grownBy (W'.setCell ⟨b, i, none⟩ v) (some b) :=
 ⟨h.os, h.tape, h.output, by simpa using h.size, fun k hk hn => (Below.heap_setCell _ _ _ _ (fun e => hn (by rw [e]))).trans (h.block k hk hn)⟩
theorem nR (W : World) (b : Nat) : W.grownBy W (some b) := ⟨rfl, rfl, rfl, Nat.le_refl _, fun _ _ _ => rfl⟩
theorem Pp (W : World) (b : Nat) (v0 v1 v2 v3 v4 v5 v6 v7 : Value) : W.grownBy ((((((((W.setCell ⟨b, 0, none⟩ v0).setCell ⟨b, 1, none⟩ v1).setCell ⟨b, 2, none⟩ v2).setCell ⟨b, 3, none⟩ v3).setCell ⟨b, 4, none⟩ v4).setCell ⟨b, 5, none⟩ v5).setCell ⟨b, 6, none⟩ v6).setCell ⟨b, 7, none⟩ v7) (some b) :=
 grown_put (grown_put (grown_put (grown_put (grown_put (grown_put (grown_put (grown_put (nR W b) 0 v0) 1 v1) 2 v2) 3 v3) 4 v4) 5 v5) 6 v6) 7 v7
theorem fQ {W W' : World} {b : Nat} {cs : Array Value} {t : TypeId} (hg : W.grownBy W' (some b)) (h : W.heap[b]? = some (.cells cs t)) : KeepsOthers W W' :=
 KeepsOthers.of_grownBy hg (fun j o e ho => by cases e; rw [h] at ho; cases ho; rfl)
theorem BH {w W : World} {N D : Nat} {a : Act} {x : Sx.Tn × Sx.Tn} {b : Bool} (hN : w.heap.size = N) (h4 : a.tmps.getD 4 undef = .pointer (some ⟨N + 1, 0, none⟩)) (h5 : a.tmps.getD 5 undef = .pointer (some ⟨N + 1 + 1, 0, none⟩)) (hd : a.defers = [{ target := .collected D, args := #[] }])
  (i1 : W.heap[N + 1]? = some (.cells (kT x).toArray 122)) (i2 : W.heap[N + 1 + 1]? = some (.cells #[.bool b] 4)) (hD : N + 1 + 1 < D) (hK : W.heap[D]? = some (.deferred (some []))) (hB : Below w.heap.size w W) :
  bodyPostM Fence.wide 4 Tryz.prog Tryz.f175 (fun e w' => ∃ p t : Sx.Tn, e = .returned (.tuple #[qh p t, .bool b]) ∧ Below w.heap.size w w') .ret a W := by
 obtain ⟨tm, df⟩ := a
 dsimp only at h4 h5 hd
 subst hd
 rw [Array.getD_eq_getD_getElem?] at h4 h5
 have hX := belowK_b (w := w) (Nat.le_refl _) W D _ (.deferred none) (by omega) hK rfl rfl
 have j1 : (W.putObj D (.deferred none)).heap[N + 1]? = some (.cells (kT x).toArray 122) := (World.putObj_heap_other (by omega)).trans i1
 have j2 : (W.putObj D (.deferred none)).heap[N + 1 + 1]? = some (.cells #[.bool b] 4) := (World.putObj_heap_other (by omega)).trans i2
 refine ⟨by simp, .inl ⟨_, _, rfl, run_takeDeferred hK, ?_⟩⟩
 have BX := hB.trans hX
 generalize W.putObj D (.deferred none) = X at j1 j2 BX ⊢
 obtain ⟨⟨y0, _⟩, ⟨y1, _⟩, ⟨y2, _⟩, ⟨y3, _⟩, ⟨y4, _⟩, ⟨y5, _⟩, ⟨y6, _⟩, ⟨y7, _⟩, -⟩ := cp8 (aj j1)
 have b0 := (aa (aj (vs := [.bool b]) j2) 0 rfl).1
 clear j1 j2 i1 i2 hK hB hX
 refine ⟨.tuple #[qh x.1 x.2, .bool b], ?_, x.1, x.2, rfl, BX⟩
 simp [results, Tryz.results175, go_sem, *]
theorem AV (Bo : Nat) (ts : List Sx.Tn) (ra : Option Addr) (rcap : Nat) (w : World) (h : kU w (.slice ra ts.length rcap) ts) (hts : ts.length ≤ 10000) (hbd : ∀ t ∈ ts, -1000000000000 ≤ t.stands ∧ t.stands ≤ 1000000000000)
  (cl : w.cell? ⟨Bo, 0, none⟩ = some (.slice ra ts.length rcap)) (hBo : Bo < w.heap.size) :
  Calls Tryz.prog 175 #[.func (.func 131) #[] #[.pointer (some ⟨Bo, 0, none⟩)], .func (.func 130) #[] #[]] w
   fun e w' => ∃ p t : Sx.Tn, e = .returned (.tuple #[qh p t, .bool ((Sx.bY ts).any Sx.close)]) ∧ Below w.heap.size w w' := by
 refine (callsIn_wide (n := 4)).1 ?_
 refine callsIn_of_wp_marks Tryz.func175 rfl trivial ?_ rfl
 simp only [Tryz.ntmps175, List.size_toArray, List.length_cons, List.length_nil, Nat.reduceAdd, Nat.reduceSub, Array.replicate_succ, Array.replicate_zero, List.push_toArray, List.append_toArray, List.nil_append, List.cons_append]
 gi_wp2
 obtain ⟨N, hN⟩ : ∃ N, w.heap.size = N := ⟨_, rfl⟩
 obtain ⟨V, hV⟩ : ∃ V, (((w.alloc (.cells #[.func (.func 130) #[] #[]] 195)).alloc (.cells (kT noS).toArray 122)).alloc (.cells #[.bool false] 4)) = V := ⟨_, rfl⟩
 rw [show (((w.alloc (.cells #[.func (.func 130) #[] #[]] 195)).alloc (.cells #[.int .i64 0, .int .i64 0, .int .i64 0, .string ⟨#[]⟩, .int .i64 0, .int .i64 0, .int .i64 0, .string ⟨#[]⟩] 122)).alloc (.cells #[.bool false] 4)) = V from hV]
 have vS : V.heap.size = N + 3 := by rw [← hV, ← hN]; simp
 have v0 : V.heap[N]? = some (.cells #[.func (.func 130) #[] #[]] 195) := by
  rw [← hV, Below.heap_alloc _ _ _ (by simp; omega), Below.heap_alloc _ _ _ (by simp; omega), ← hN]; exact World.alloc_heap_new w _
 have v1 : V.heap[N + 1]? = some (.cells (kT noS).toArray 122) := by
  rw [← hV, Below.heap_alloc _ _ _ (by simp; omega), ← hN]
  have := World.alloc_heap_new (w.alloc (.cells #[.func (.func 130) #[] #[]] 195)) (.cells (kT noS).toArray 122)
  rwa [World.size_alloc] at this
 have v2 : V.heap[N + 1 + 1]? = some (.cells #[.bool false] 4) := by
  rw [← hV, ← hN]
  have := World.alloc_heap_new ((w.alloc (.cells #[.func (.func 130) #[] #[]] 195)).alloc (.cells (kT noS).toArray 122)) (.cells #[.bool false] 4)
  rwa [World.size_alloc, World.size_alloc] at this
 have vB : Below w.heap.size w V := by
  rw [← hV]; exact (((q4B _ w).alloc (Nat.le_refl _) _).alloc (by simp) _).alloc (by simp; omega) _
 rw [hN]
 refine jF rfl (by omega) (gf := 131) (lb := #[.pointer (some ⟨Bo, 0, none⟩)]) rfl trivial (enters_of Tryz.func131 (by kernel_rfl) rfl)
  (xe 3 Bo N (by omega) ts ra rcap w _ h hts ((vB.cell (p := ⟨Bo, 0, none⟩) hBo).trans cl) (q4N hBo vB.size) (by omega) vB) SQ (SI (by omega)) (q4B _ _) (fun _ => rfl)
  (fun pre W => (W.heap[N]? = some (.cells #[.func (.func 130) #[] #[]] 195) ∧ W.heap[N + 1]? = some (.cells (kT noS).toArray 122) ∧ W.heap[N + 1 + 1]? = some (.cells #[.bool false] 4)) ∧ Below w.heap.size w W ∧ pre.any Sx.close = false)
  (fun c pre W => c = .ret ∧ (∃ x, W.heap[N + 1]? = some (.cells (kT x).toArray 122)) ∧ W.heap[N + 1 + 1]? = some (.cells #[.bool true] 4) ∧ Below w.heap.size w W ∧ pre.any Sx.close = true)
  (dx.and (dx.and (bu (by omega)) (dx.and (bu (by omega)) (bu (by omega)))) (dx.and (gu (Nat.le_refl _) (by omega)) (bU _)))
  (fun c => dx.and (bU _) (dx.and (xN fun x => bu (by omega)) (dx.and (bu (by omega)) (dx.and (gu (Nat.le_refl _) (by omega)) (bU _)))))
  ⟨⟨v0, v1, v2⟩, vB, rfl⟩
  (fun x a' W => ∃ Bx, N + 1 + 1 < Bx ∧ W.heap[Bx]? = some (.cells (kT x).toArray 122 (0, 0)) ∧ a' = { tmps := #[.func (.func 131) #[] #[.pointer (some ⟨Bo, 0, none⟩)], .func (.func 130) #[] #[], undef, .pointer (some ⟨N, 0, none⟩), .pointer (some ⟨N + 1, 0, none⟩), .pointer (some ⟨N + 1 + 1, 0, none⟩), .pointer (some ⟨Bx, 0, none⟩), undef, .func (.func 131) #[] #[.pointer (some ⟨Bo, 0, none⟩)], qh x.1 x.2, undef, undef, undef, undef, undef], defers := [] })
  ?hAx ?assign ?body ?done ?stop
 case hAx =>
  rintro x a' _ X Y row ⟨Bx, q1, q2, q3⟩ hg hr
  refine ⟨Bx, q1, ?_, q3⟩
  rw [hg.block Bx (q4A.1 q2).1 (fun e => by obtain ⟨_, o, ho, hc⟩ := hr Bx e.symm; rw [q2] at ho; cases ho; simp [Obj.isCells] at hc)]
  exact q2
 case assign =>
  rintro l pre ⟨p, t⟩ W K ⟨⟨i0, i1, i2⟩, iB, iP⟩ sz hK
  rw [vS] at sz
  have KB := hid ((q4B W.heap.size W).alloc (Nat.le_refl _) (.cells (kT (p, t)).toArray 122))
  have R := hid (hK { tmps := #[.func (.func 131) #[] #[.pointer (some ⟨Bo, 0, none⟩)], .func (.func 130) #[] #[], undef, .pointer (some ⟨N, 0, none⟩), .pointer (some ⟨N + 1, 0, none⟩), .pointer (some ⟨N + 1 + 1, 0, none⟩), .pointer (some ⟨W.heap.size, 0, none⟩), undef, .func (.func 131) #[] #[.pointer (some ⟨Bo, 0, none⟩)], qh p t, undef, undef, undef, undef, undef], defers := [] } (W.alloc (.cells (kT (p, t)).toArray 122)) ((KeepsOthers.alloc _ _).from _) (xL KB.out iB.size)
   ⟨⟨(KB.out.block _ (q4A.1 i0).1).trans i0, (KB.out.block _ (q4A.1 i1).1).trans i1, (KB.out.block _ (q4A.1 i2).1).trans i2⟩, iB.alloc iB.size _, iP⟩ ⟨W.heap.size, by omega, World.alloc_heap_new W _, rfl⟩)
  clear hK i0 i1 i2
  gi_wp2
  exact R.out
 case body =>
  rintro l pre ⟨p, t⟩ a' W hl ⟨r, hr⟩ ⟨⟨i0, i1, i2⟩, iB, iP⟩ ⟨Bx, hBx, hX, rfl⟩ hpx sz
  have hm := vV ts Sx.ago (p, t) (iw hpx)
  dsimp only at hm
  have hb1 : -2000000000000 ≤ p.stands ∧ p.stands ≤ 2000000000000 := by
   rcases hm.1 with rfl | e
   ·simp [Sx.ago]
   ·have := hbd _ e; omega
  have hb2 := hbd _ hm.2
  have HC := hid (IJ (p, t) W hb1.1 hb1.2 (by dsimp only; omega) (by dsimp only; omega))
  obtain ⟨⟨x0, _⟩, ⟨x1, _⟩, ⟨x2, _⟩, ⟨x3, _⟩, ⟨x4, _⟩, ⟨x5, _⟩, ⟨x6, _⟩, ⟨x7, _⟩, -⟩ := cp8 (aj hX)
  have f0 := (aa (aj (vs := [.func (.func 130) #[] #[]]) i0) 0 rfl).1
  have sx := (q4A.1 hX).1
  have s0 := (q4A.1 i0).1
  have HX := hid hX
  have I0 := hid i0
  have I1 := hid i1
  have I2 := hid i2
  have IB := hid iB
  clear hm hb1 hb2 hX i0 i1 i2 iB hr hpx
  dsimp only at HC
  obtain ⟨C, hC⟩ : ∃ C, Sx.close (p, t) = C := ⟨_, rfl⟩
  rw [hC] at HC
  have HCC := hid hC
  have IP := hid iP
  have SV : Hid (V.heap.size = N + 3 ∧ w.heap.size = N) := ⟨vS, hN⟩
  clear hC iP
  cases C
  case false =>
   gi_wp2_with (refine ⟨trivial, ?_⟩; gi_at_call 130; refine (CallsIn.inRound l (callsIn_wide.2 HC.out)).mono ?_; rintro e w1 ⟨rfl, hb⟩)
   refine ⟨(dI hb).from _, xL hb IB.out.size, ⟨(hb.block _ (q4A.1 I0.out).1).trans I0.out, (hb.block _ (q4A.1 I1.out).1).trans I1.out, (hb.block _ (q4A.1 I2.out).1).trans I2.out⟩, IB.out.trans (hb.mono IB.out.size), ?_⟩
   rw [List.any_append, IP.out]; simp [HCC.out]
  case true =>
   gi_wp2_with (refine ⟨trivial, ?_⟩; gi_at_call 130; refine (CallsIn.inRound l (callsIn_wide.2 HC.out)).mono ?_; rintro e w1 ⟨rfl, hb⟩; have HB := hid hb; have CX := ah (aj HX.out) hb; obtain ⟨y0, _⟩ := aa CX 0 rfl; obtain ⟨y1, _⟩ := aa CX 1 rfl; obtain ⟨y2, _⟩ := aa CX 2 rfl; obtain ⟨y3, _⟩ := aa CX 3 rfl; obtain ⟨y4, _⟩ := aa CX 4 rfl; obtain ⟨y5, _⟩ := aa CX 5 rfl; obtain ⟨y6, _⟩ := aa CX 6 rfl; obtain ⟨y7, _⟩ := aa CX 7 rfl; have CR := ah (aj I1.out) hb; obtain ⟨r0, q0⟩ := aa CR 0 rfl; obtain ⟨r1, q1⟩ := aa CR 1 rfl; obtain ⟨r2, q2⟩ := aa CR 2 rfl; obtain ⟨r3, q3⟩ := aa CR 3 rfl; obtain ⟨r4, q4⟩ := aa CR 4 rfl; obtain ⟨r5, q5⟩ := aa CR 5 rfl; obtain ⟨r6, q6⟩ := aa CR 6 rfl; obtain ⟨r7, q7⟩ := aa CR 7 rfl; have CB := ah (aj (vs := [.bool false]) I2.out) hb; obtain ⟨b0, b1⟩ := aa CB 0 rfl; have sR := CR.1; have sB := CB.1; clear hb CX CR CB)
   have G1 := Pp w1 (N + 1) (.int .i64 p.stands) (.int .i64 p.clock) (.int .i64 p.save) (af p.letter) (.int .i64 t.stands) (.int .i64 t.clock) (.int .i64 t.save) (af t.letter)
   have hb := HB.out
   have e1 := (hb.block _ (q4A.1 I1.out).1).trans I1.out
   have e2 := (hb.block _ (q4A.1 I2.out).1).trans I2.out
   have p1 := put8 (.int .i64 p.stands) (.int .i64 p.clock) (.int .i64 p.save) (af p.letter) (.int .i64 t.stands) (.int .i64 t.clock) (.int .i64 t.save) (af t.letter) e1
   have p2 := (G1.block (N + 1 + 1) (q4A.1 e2).1 (by simp)).trans e2
   have p3 := xE (.bool true) p2
   have G2 := grownBy_setCell' ((((((((w1.setCell ⟨N + 1, 0, none⟩ (.int .i64 p.stands)).setCell ⟨N + 1, 1, none⟩ (.int .i64 p.clock)).setCell ⟨N + 1, 2, none⟩ (.int .i64 p.save)).setCell ⟨N + 1, 3, none⟩ (af p.letter)).setCell ⟨N + 1, 4, none⟩ (.int .i64 t.stands)).setCell ⟨N + 1, 5, none⟩ (.int .i64 t.clock)).setCell ⟨N + 1, 6, none⟩ (.int .i64 t.save)).setCell ⟨N + 1, 7, none⟩ (af t.letter)) (N + 1 + 1) (.bool true)
   have B1 := IB.out.trans (hb.mono IB.out.size)
   have B2 := B1.grown G1 B1.size (fun k e => by cases e; have := SV.out; omega)
   have B3 := B2.grown G2 B2.size (fun k e => by cases e; have := SV.out; omega)
   refine ⟨(((dI hb).trans (fQ G1 e1)).trans (fQ G2 p2)).from _, rfl, ⟨(p, t), ?_⟩, p3, B3, ?_⟩
   ·exact (G2.block (N + 1) (q4A.1 p1).1 (by simp)).trans p1
   ·rw [List.any_append]; simp [HCC.out]
 case done =>
  rintro D ys W hD rfl ⟨⟨i0, i1, i2⟩, iB, iP⟩ hK
  rw [vS] at hD
  have hD0 : N + 1 + 1 < D := by omega
  have CR := aj i1
  have CB := aj (vs := [.bool false]) i2
  obtain ⟨⟨r0, q0⟩, ⟨r1, q1⟩, ⟨r2, q2⟩, ⟨r3, q3⟩, ⟨r4, q4⟩, ⟨r5, q5⟩, ⟨r6, q6⟩, ⟨r7, q7⟩, -⟩ := cp8 CR
  obtain ⟨b0, b1⟩ := aa CB 0 rfl
  have sR := CR.1
  have sB := CB.1
  have HK := hid hK
  have IB := hid iB
  have IP := hid iP
  have I1 := hid i1
  have I2 := hid i2
  clear i0 i1 i2 CR CB hK iB iP v0 v1 v2 vB hV vS h hbd cl
  gi_wp2
  have G0 := World.grownBy_alloc W (.cells (kT noS).toArray 122) none
  have G1 := Pp W (N + 1) (.int .i64 0) (.int .i64 0) (.int .i64 0) (.string ⟨#[]⟩) (.int .i64 0) (.int .i64 0) (.int .i64 0) (.string ⟨#[]⟩)
  have p1 := put8 (.int .i64 0) (.int .i64 0) (.int .i64 0) (.string ⟨#[]⟩) (.int .i64 0) (.int .i64 0) (.int .i64 0) (.string ⟨#[]⟩) I1.out
  have p2 := (G1.block (N + 1 + 1) (q4A.1 I2.out).1 (by simp)).trans I2.out
  have p3 := xE (.bool false) p2
  have G2 := grownBy_setCell' ((((((((W.setCell ⟨N + 1, 0, none⟩ (.int .i64 0)).setCell ⟨N + 1, 1, none⟩ (.int .i64 0)).setCell ⟨N + 1, 2, none⟩ (.int .i64 0)).setCell ⟨N + 1, 3, none⟩ (.string ⟨#[]⟩)).setCell ⟨N + 1, 4, none⟩ (.int .i64 0)).setCell ⟨N + 1, 5, none⟩ (.int .i64 0)).setCell ⟨N + 1, 6, none⟩ (.int .i64 0)).setCell ⟨N + 1, 7, none⟩ (.string ⟨#[]⟩)) (N + 1 + 1) (.bool false)
  have p4 := (G2.block (N + 1) (q4A.1 p1).1 (by simp)).trans p1
  have d1 := (G1.block D (q4A.1 HK.out).1 (by simp; omega)).trans HK.out
  have d2 := (G2.block D (q4A.1 d1).1 (by simp; omega)).trans d1
  have B2 := IB.out.grown G1 IB.out.size (fun k e => by cases e; omega)
  have B3 := B2.grown G2 B2.size (fun k e => by cases e; omega)
  have B4 := B3.alloc B3.size (.cells (kT noS).toArray 122)
  rw [show (Sx.bY ts).any Sx.close = false from IP.out]
  exact BH (x := noS) hN rfl rfl rfl ((Below.heap_alloc _ _ _ (q4A.1 p4).1).trans p4) ((Below.heap_alloc _ _ _ (q4A.1 p3).1).trans p3) hD0 ((Below.heap_alloc _ _ _ (q4A.1 d2).1).trans d2) B4
 case stop =>
  rintro D c pre W hD hpre ⟨rfl, ⟨x, i1⟩, i2, iB, iP⟩ hK
  rw [vS] at hD
  have hA : (Sx.bY ts).any Sx.close = true := by
   obtain ⟨r, hr⟩ := hpre
   rw [← hr, List.any_append, iP]; rfl
  have E := hid (BH (a := { tmps := #[.func (.func 131) #[] #[.pointer (some ⟨Bo, 0, none⟩)], .func (.func 130) #[] #[], undef, .pointer (some ⟨N, 0, none⟩), .pointer (some ⟨N + 1, 0, none⟩), .pointer (some ⟨N + 1 + 1, 0, none⟩), undef, undef, .func (.func 131) #[] #[.pointer (some ⟨Bo, 0, none⟩)], undef, undef, undef, undef, undef, undef], defers := [{ target := .collected D, args := #[] }] }) hN rfl rfl rfl i1 i2 (show N + 1 + 1 < D by omega) hK iB)
  have HA := hid hA
  clear v0 v1 v2 vB hV vS h hbd cl i1 i2 hK iB iP hA
  gi_wp2
  rw [HA.out]
  exact E.out
theorem GU (Bo : Nat) (ts : List Sx.Tn) (ra : Option Addr) (rcap : Nat) (w : World) (h : kU w (.slice ra ts.length rcap) ts) (hts : ts.length ≤ 10000) (hbd : ∀ t ∈ ts, -1000000000000 ≤ t.stands ∧ t.stands ≤ 1000000000000)
  (cl : w.cell? ⟨Bo, 0, none⟩ = some (.slice ra ts.length rcap)) (hBo : Bo < w.heap.size) :
  Calls Tryz.prog 129 #[.func (.func 131) #[] #[.pointer (some ⟨Bo, 0, none⟩)], .func (.func 130) #[] #[]] w
   fun e w' => e = .returned (.bool ((Sx.bY ts).any Sx.close)) ∧ Below w.heap.size w w' := by
 have C := hid (AV Bo ts ra rcap w h hts hbd cl hBo)
 clear h hbd cl
 go_enter Tryz.func129, Tryz.ntmps129
 go_wp2_with fail
 refine C.out.mono ?_
 rintro e w1 ⟨p, t, rfl, hb⟩
 have HB := hid hb
 clear hb
 go_wp2
 go_ret
 exact ⟨rfl, HB.out.alloc HB.out.size _⟩
/- what is wrong with turns in order -/
def kg (ts : List Sx.Tn) : Int := if ts.isEmpty = true then 5 else if (Sx.bY ts).any Sx.close = true then 4 else if 1000 < ts.length then 2 else 0
theorem pE (ts : List Sx.Tn) (v : Value) (w : World) (h : kU w v ts) (hts : ts.length ≤ 10000) (hbd : ∀ t ∈ ts, -1000000000000 ≤ t.stands ∧ t.stands ≤ 1000000000000) :
  Calls Tryz.prog 67 #[v] w fun e w' => e = .returned (.int .i64 (kg ts)) ∧ Below w.heap.size w w' := by
 obtain ⟨ra, rcap, rfl⟩ := bQ h
 by_cases he : ts = []
 ·subst he
  have hz : Hid (kg [] = 5) := rfl
  clear h hts hbd
  go_enter Tryz.func67, Tryz.ntmps67
  go_wp2
  go_ret
  exact ⟨ai hz.out.symm, q4B _ _⟩
 have hl : ts.length ≠ 0 := fun q => he (List.length_eq_zero_iff.1 q)
 have hl0 : (ts.length == 0) = false := by simp [he]
 have hz : (((ts.length : Int)) == 0) = false := by simp; exact he
 have B1 := hid ((q4B w.heap.size w).alloc (Nat.le_refl _) (.cells #[.slice ra ts.length rcap] 110))
 have C := hid (GU w.heap.size ts ra rcap (w.alloc (.cells #[.slice ra ts.length rcap] 110)) (au h B1.out) hts hbd (aa (aC w [.slice ra ts.length rcap] 110) 0 rfl).1 (by simp))
 obtain ⟨A, hA⟩ : ∃ A, (Sx.bY ts).any Sx.close = A := ⟨_, rfl⟩
 have HE : Hid (kg ts = if A = true then 4 else if 1000 < ts.length then 2 else 0) := by
  show _ = _
  unfold kg
  rw [if_neg (by simp [he]), hA]
 rw [hA] at C
 clear h hbd hA
 cases A
 case true =>
  go_enter Tryz.func67, Tryz.ntmps67
  go_wp2_with (first | (go_at_call 68; refine (qO _ _ _ _).mono ?_; rintro e w1 ⟨rfl, rfl⟩) | (go_at_call 129; refine C.out.mono ?_; rintro e w1 ⟨rfl, hb⟩))
  go_ret
  exact ⟨ai (by rw [HE.out]; rfl), B1.out.trans (hb.mono B1.out.size)⟩
 case false =>
  by_cases hm : 1000 < ts.length
  ·have HE2 : Hid (kg ts = 2) := by show _ = _; rw [HE.out, if_neg (by decide), if_pos hm]
   go_enter Tryz.func67, Tryz.ntmps67
   go_wp2_with (first | (go_at_call 68; refine (qO _ _ _ _).mono ?_; rintro e w1 ⟨rfl, rfl⟩) | (go_at_call 129; refine C.out.mono ?_; rintro e w1 ⟨rfl, hb⟩))
   go_ret
   exact ⟨ai HE2.out.symm, B1.out.trans (hb.mono B1.out.size)⟩
  ·have HE2 : Hid (kg ts = 0) := by show _ = _; rw [HE.out, if_neg (by decide), if_neg hm]
   go_enter Tryz.func67, Tryz.ntmps67
   go_wp2_with (first | (go_at_call 68; refine (qO _ _ _ _).mono ?_; rintro e w1 ⟨rfl, rfl⟩) | (go_at_call 129; refine C.out.mono ?_; rintro e w1 ⟨rfl, hb⟩))
   go_ret
   exact ⟨ai HE2.out.symm, B1.out.trans (hb.mono B1.out.size)⟩
end
section
open Go.RowKit
theorem Gp {w : World} {B g cap n z : Nat} {e : TypeId} {xs : List Value} (h : w.ownsRow B e z (.slice (some ⟨g, 0, none⟩) n cap) n xs) {j : Nat} (u : Value) : (w.setCell ⟨g, j, none⟩ u).ownsRow B e z (.slice (some ⟨g, 0, none⟩) n cap) n (xs.set j u) := by
 obtain ⟨h1, h2⟩ := h
 refine ⟨by rw [List.length_set]; exact h1, ?_⟩
 rcases h2 with ⟨q, _⟩ | ⟨g', cap', cur, hv, hg, hh, r1, r2, r3, r4⟩
 ·cases q
 ·simp only [Value.slice.injEq, Option.some.injEq, Addr.mk.injEq] at hv
  obtain ⟨⟨rfl, _, _⟩, _, rfl⟩ := hv
  refine .inr ⟨g, cap, cur.setIfInBounds j u, rfl, hg, eG hh j u, r1, r2, by simpa using r3, ?_⟩
  rw [Array.toList_setIfInBounds, List.take_set, r4]
abbrev setRow (w : World) (g o : Nat) (cs : List Value) : World := w.setCells g o cs
def QG : List Value → Nat → List Value → List Value
 | xs, _, [] => xs
 | xs, o, u :: r => QG (xs.set o u) (o + 1) r
theorem zB {B g cap n z : Nat} {e : TypeId} : ∀ (cs : List Value) {w : World} {o : Nat} {xs : List Value}, w.ownsRow B e z (.slice (some ⟨g, 0, none⟩) n cap) n xs → (setRow w g o cs).ownsRow B e z (.slice (some ⟨g, 0, none⟩) n cap) n (QG xs o cs)
 | [], _, _, _, h => h
 | u :: r, w, o, xs, h => zB r (Gp h u)
theorem below_setRow {N g : Nat} {A : World} (hg : N ≤ g) : ∀ (cs : List Value) {w : World} {o : Nat}, Below N A w → Below N A (setRow w g o cs)
 | [], _, _, h => h
 | u :: r, w, o, h => below_setRow hg r (ax h hg o u)
theorem vg {X g : Nat} {vs : List Value} (hX : ¬ X = g) : ∀ (cs : List Value) {w : World} {o : Nat}, ag w X vs → ag (setRow w g o cs) X vs
 | [], _, _, h => h
 | u :: r, w, o, h => vg hX r (bz h hX)
theorem GV : ∀ (C P A Q : List Value), A.length = C.length → QG (P ++ A ++ Q) P.length C = P ++ C ++ Q
 | [], P, [], Q, _ => rfl
 | [], P, a :: A, Q, h => by simp at h
 | c :: C, P, [], Q, h => by simp at h
 | c :: C, P, a :: A, Q, h => by
   have e : (P ++ (a :: A) ++ Q).set P.length c = (P ++ [c]) ++ A ++ Q := by
    rw [List.append_assoc, List.set_append_right _ _ (Nat.le_refl _), Nat.sub_self]
    simp
   show QG ((P ++ (a :: A) ++ Q).set P.length c) (P.length + 1) C = _
   rw [e, show P.length + 1 = (P ++ [c]).length by simp, GV C (P ++ [c]) A Q (by simpa using h)]
   simp
theorem vE {α : Type} {z : Nat} {cells : α → List Value} (hz : ∀ a, (cells a).length = z) : ∀ l : List α, (l.flatMap cells).length = l.length * z
 | [] => by simp
 | a :: r => by rw [List.flatMap_cons, List.length_append, hz, vE hz r, List.length_cons, Nat.succ_mul]; omega
theorem NJ {α : Type} {z : Nat} {cells : α → List Value} (hz : ∀ a, (cells a).length = z) {l : List α} {k : Nat} (x : α) (hk : k < l.length) : QG (l.flatMap cells) (k * z) (cells x) = (l.set k x).flatMap cells := by
 have e : l = l.take k ++ l[k] :: l.drop (k + 1) := by rw [← List.drop_eq_getElem_cons hk, List.take_append_drop]
 have lk : (l.take k).length = k := by rw [List.length_take]; omega
 have e2 : l.set k x = l.take k ++ x :: l.drop (k + 1) := List.set_eq_take_append_cons_drop.trans (by rw [if_pos hk])
 have e3 : l.flatMap cells = (l.take k).flatMap cells ++ cells l[k] ++ (l.drop (k + 1)).flatMap cells := by
  conv => lhs; rw [e]
  rw [List.flatMap_append, List.flatMap_cons, List.append_assoc]
 rw [e2, e3, List.flatMap_append, List.flatMap_cons]
 have lz : k * z = ((l.take k).flatMap cells).length := by rw [vE hz, lk]
 rw [lz, GV _ _ _ _ (by rw [hz, hz])]
 simp
theorem Gq {α : Type} {B g cap n z : Nat} {e : TypeId} {cells : α → List Value} (hz : ∀ a, (cells a).length = z) {w : World} {l : List α} (h : w.ownsRow B e z (.slice (some ⟨g, 0, none⟩) n cap) n (l.flatMap cells)) {k : Nat} (x : α) (hk : k < l.length) :
  (setRow w g (k * z) (cells x)).ownsRow B e z (.slice (some ⟨g, 0, none⟩) n cap) n ((l.set k x).flatMap cells) := by
 rw [← NJ hz x hk]; exact zB _ h
/- turns with their rules -/
def bf (p : Sx.Trn) : List Value := .int .i64 p.1 :: aG p.2
theorem oK (p : Sx.Trn) : (bf p).length = 12 := rfl
def OwnTrn (w : World) (B : Nat) (v : Value) (l : List Sx.Trn) : Prop := w.ownsRow B 189 12 v l.length (l.flatMap bf)
theorem nY {W w' : World} {B : Nat} {v : Value} {l : List Sx.Trn} (h : OwnTrn W B v l) (hb : Below W.heap.size W w') : OwnTrn w' B v l := aJ h hb
theorem zz (w : World) (B : Nat) : OwnTrn w B (.slice none 0 0) [] := World.ownsRow_nil _ _ _ _
theorem qI {w : World} {B : Nat} {v : Value} {l : List Sx.Trn} (h : OwnTrn w B v l) : Rd 12 bf w v l := jD (fun _ => rfl) h
theorem Gl {w : World} {B g cap : Nat} {l : List Sx.Trn} {k : Nat} {t x : Sx.Trn} (hx : l[k]? = some x) (h : OwnTrn w B (.slice (some ⟨g, 0, none⟩) (l.length + 1) cap) (Sx.putAt l (k + 1) t)) :
  OwnTrn (setRow (setRow w g ((k + 1) * 12) (bf x)) g (k * 12) (bf t)) B (.slice (some ⟨g, 0, none⟩) (l.length + 1) cap) (Sx.putAt l k t) := by
 have hk : k < l.length := (q4L.1 hx).1
 have hl := Sx.jr l (k + 1) t
 unfold OwnTrn at h ⊢
 rw [hl] at h
 rw [Sx.jr, ← Sx.JM hx]
 exact Gq oK (Gq oK h x (by omega)) t (by rw [List.length_set]; omega)
theorem oL (p : Sx.Trn) : ∀ u ∈ bf p, u.oneCell' = true := by
 intro u hu
 simp only [bf, aG, List.mem_cons, List.not_mem_nil, or_false] at hu
 rcases hu with rfl | rfl | rfl | rfl | rfl | rfl | rfl | rfl | rfl | rfl | rfl | rfl <;> rfl
theorem Tryz.Rz : (Tryz.prog.info? 189).map (fun i => (i.zero, i.size, i.bytes)) = some (some (.agg #[.int .i64 0, .string ⟨#[]⟩, .int .i64 0, .int .i64 0, .int .i64 0, .int .i64 0, .int .i64 0, .int .i64 0, .int .i64 0, .int .i64 0, .int .i64 0, .string ⟨#[]⟩]), 12, 112) := by kernel_rfl
/- a block of so many cells, which a row of more than one element can't be -/
def Blk (w : World) (b : Nat) (e : TypeId) (z : Nat) : Prop := ∃ cs : Array Value, cs.size = z ∧ w.heap[b]? = some (.cells cs e (0, 0))
theorem KP (w : World) (vs : List Value) (e : TypeId) : Blk (w.alloc (.cells vs.toArray e)) w.heap.size e vs.length := ⟨vs.toArray, by simp, heap_alloc_new _ _⟩
theorem Bb {w w' : World} {b : Nat} {e : TypeId} {z : Nat} (h : Blk w b e z) (hb : Below w.heap.size w w') : Blk w' b e z := by
 obtain ⟨cs, h1, h2⟩ := h
 exact ⟨cs, h1, (hb.block b (q4A.1 h2).1).trans h2⟩
theorem Rk {w : World} {b : Nat} {e : TypeId} {z : Nat} (h : Blk w b e z) (o : Nat) (u : Value) : Blk (w.setCell ⟨b, o, none⟩ u) b e z := by
 obtain ⟨cs, h1, h2⟩ := h
 exact ⟨cs.setIfInBounds o u, by simpa using h1, eG h2 o u⟩
theorem rV {b : Nat} {e : TypeId} {z : Nat} : ∀ (cs : List Value) {w : World} {o : Nat}, Blk w b e z → Blk (setRow w b o cs) b e z
 | [], _, _, h => h
 | u :: r, w, o, h => rV r (Rk h o u)
theorem Ng {w : World} {B b n z : Nat} {e e' : TypeId} {v : Value} {xs : List Value} (h : w.ownsRow B e z v (n + 2) xs) (hb : Blk w b e' z) (hz : 0 < z) : v.ownBlock ≠ some b := by
 intro q
 rcases h.2 with ⟨rfl, _⟩ | ⟨g, cap, cur, rfl, _, hh, h1, _, h2, _⟩
 ·simp [Value.ownBlock] at q
 ·simp [Value.ownBlock] at q
  subst q
  obtain ⟨cs, h3, h4⟩ := hb
  rw [hh] at h4
  simp at h4
  obtain ⟨rfl, _⟩ := h4
  rw [h2] at h3
  have : 2 * z ≤ cap * z := Nat.mul_le_mul_right z (by omega)
  omega
/- times of one's own -/
def oQ (w : World) (B : Nat) (v : Value) (l : List Sx.Tm) : Prop := w.ownsRow B 72 3 v l.length (l.flatMap dF)
theorem Qn {w : World} {B : Nat} {v : Value} {l : List Sx.Tm} (h : oQ w B v l) : xH w v l := jD (fun _ => rfl) h
theorem vM (w : World) (B : Nat) : oQ w B (.slice none 0 0) [] := World.ownsRow_nil _ _ _ _
theorem vZ (x : Sx.Tm) : ∀ u ∈ dF x, u.oneCell' = true := by
 intro u hu; simp only [dF, List.mem_cons, List.not_mem_nil, or_false] at hu; rcases hu with rfl | rfl | rfl <;> rfl
theorem Tryz.TP : (Tryz.prog.info? 72).map (fun i => (i.zero, i.size, i.bytes)) = some (some (.agg #[.int .i64 0, .int .i64 0, .string ⟨#[]⟩]), 3, 32) := by kernel_rfl
def EI (rs : List Sx.Rl) (name : Tx.Bs) (shift : Int) (w : World) (e : Ending) (w' : World) : Prop :=
 ∃ v, e = .returned (.tuple #[v, .int .i64 (Sx.aY rs name shift)]) ∧ oQ w' w.heap.size v (Sx.times rs name shift) ∧ Below w.heap.size w w'
theorem qQ {rs : List Sx.Rl} {name : Tx.Bs} {shift E : Int} {w w' : World} (hE : Sx.aY rs name shift = E) (h : E ≠ 0) (hb : Below w.heap.size w w') : EI rs name shift w (.returned (.tuple #[.slice none 0 0, .int .i64 E])) w' := by
 refine ⟨_, by rw [hE], ?_, hb⟩
 have : Sx.times rs name shift = [] := by unfold Sx.times; rw [if_neg (by rw [hE]; exact h)]
 rw [this]; exact vM _ _
theorem SE {rs : List Sx.Rl} {name : Tx.Bs} {shift : Int} {w w' : World} {v : Value} {l : List Sx.Tm} (hE : Sx.aY rs name shift = 0) (hl : Sx.times rs name shift = l) (ho : oQ w' w.heap.size v l) (hb : Below w.heap.size w w') : EI rs name shift w (.returned (.tuple #[v, .int .i64 0])) w' :=
 ⟨v, by rw [hE], hl ▸ ho, hb⟩
theorem EQ {w : World} {X : Nat} {vs : List Value} (h : ag w X vs) : w.there X 0 vs.length := fun j hj => by
 obtain ⟨a, b⟩ := h.2 j _ (q4G hj)
 rw [Nat.zero_add]
 exact ⟨by rw [a]; rfl, b⟩
theorem Bd {X : Nat} : ∀ (cs pre old : List Value) {w : World}, old.length = cs.length → ag w X (pre ++ old) → ag (w.setCells X pre.length cs) X (pre ++ cs)
 | [], pre, [], w, _, h => h
 | [], pre, o :: old, w, hl, h => by simp at hl
 | c :: cs, pre, [], w, hl, h => by simp at hl
 | c :: cs, pre, o :: old, w, hl, h => by
   have h1 := aS h pre.length c (by simp)
   have e : (pre ++ o :: old).set pre.length c = (pre ++ [c]) ++ old := by
    rw [List.set_append_right _ _ (Nat.le_refl _), Nat.sub_self]; simp
   rw [e] at h1
   have h2 := Bd cs (pre ++ [c]) old (by simpa using hl) h1
   rw [List.length_append] at h2
   have e2 : (pre ++ [c]) ++ cs = pre ++ c :: cs := by simp
   rw [e2] at h2
   exact h2
theorem Be {w : World} {X : Nat} {vs cs : List Value} (h : ag w X vs) (hl : vs.length = cs.length) : ag (w.setCells X 0 cs) X cs := by
 have := Bd cs [] vs hl (by simpa using h)
 simpa using this
theorem Cm {w : World} {B g cap n z : Nat} {e : TypeId} {xs : List Value} (h : w.ownsRow B e z (.slice (some ⟨g, 0, none⟩) n cap) n xs) {o k : Nat} (hk : o + k ≤ xs.length) : w.there g o k := fun j hj => by
 rcases h.2 with ⟨q, _⟩ | ⟨g', cap', cur, hv, hg, hh, r1, r2, r3, r4⟩
 ·cases q
 ·simp only [Value.slice.injEq, Option.some.injEq, Addr.mk.injEq] at hv
  obtain ⟨⟨rfl, _, _⟩, _, rfl⟩ := hv
  have hl := h.1
  have hc : o + j < cur.size := by
   have : n * z ≤ cap * z := Nat.mul_le_mul_right z r1
   omega
  constructor
  ·simp [World.cell?, hh, hc]
  ·simp [World.frozen?, hh]
theorem Ck {α : Type} {w : World} {g cap n z : Nat} {cells : α → List Value} {l : List α} (h : Rd z cells w (.slice (some ⟨g, 0, none⟩) n cap) l) {k : Nat} {x : α} (hx : l[k]? = some x) : w.rangeAt g (k * z) (cells x) := by
 obtain ⟨b, o, e, hb, hc⟩ := aN h hx
 simp only [Option.some.injEq, Addr.mk.injEq] at e
 obtain ⟨rfl, rfl, _⟩ := e
 intro j v hv
 have := hc j v hv
 rw [Nat.zero_add] at this
 exact this
theorem D5 {w : World} {B n1 n2 z1 z2 : Nat} {e1 e2 : TypeId} {v1 v2 : Value} {x1 x2 : List Value} (h1 : w.ownsRow B e1 z1 v1 n1 x1) (h2 : w.ownsRow B e2 z2 v2 n2 x2) (he : e1 ≠ e2) : v1.ownBlock = none ∨ v1.ownBlock ≠ v2.ownBlock := by
 rcases h1.2 with ⟨rfl, _⟩ | ⟨g, cap, cur, rfl, _, hh, _⟩
 ·exact .inl rfl
 ·right
  rcases h2.2 with ⟨rfl, _⟩ | ⟨g', cap', cur', rfl, _, hh', _⟩
  ·intro q; simp [Value.ownBlock] at q
  ·intro q
   simp [Value.ownBlock] at q
   subst q
   rw [hh] at hh'
   simp at hh'
   exact he hh'.2
theorem QZ {N Z : Nat} {w9 : World} {P : List Sx.Trn} {v : Value} (hnil : P = [] → v = .slice none 0 0) (ho : OwnTrn w9 N v P) (hN : N ≤ w9.heap.size) (hNZ : N ≤ Z) (hZ : Z < w9.heap.size) :
  ∃ Bs, N ≤ Bs ∧ Bs ≤ w9.heap.size ∧ OwnTrn w9 Bs v P ∧ (P = [] → Z < Bs) := by
 by_cases h : P = []
 ·have := hnil h
  subst h
  subst this
  exact ⟨Z + 1, by omega, by omega, zz _ _, fun _ => by omega⟩
 ·exact ⟨N, Nat.le_refl _, hN, ho, fun q => absurd q h⟩
theorem Ri {N Z Bs : Nat} {P : List Sx.Trn} {p : Sx.Trn} {v v' : Value} {w w9 w10 : World} {o : Obj} {cs : List Value} (hNB : N ≤ Bs) (ho : OwnTrn w9 Bs v P) (hnil : P = [] → Z < Bs) (hOZ : ∀ g, v.ownBlock = some g → g < Z) (hZ : ag w9 Z cs) (hB : Blk w9 Z 189 12)
  (hb : Below N w w9) (hNs : N ≤ w9.heap.size) (hown : w10.ownsRow Bs 189 12 v' (P.length + 1) (P.flatMap bf ++ bf p)) (hg : (w9.alloc o).grownBy w10 v.ownBlock) :
  ∃ g cap, v' = .slice (some ⟨g, 0, none⟩) (P.length + 1) cap ∧ N ≤ g ∧ ¬ Z = g ∧ OwnTrn w10 N v' (P ++ [p]) ∧ ag w10 Z cs ∧ Below N w w10 := by
 have hZo : v.ownBlock ≠ some Z := fun q => by have := hOZ Z q; omega
 have hB9 : Blk (w9.alloc o) Z 189 12 := Bb hB ((q4B _ _).alloc (Nat.le_refl _) o)
 have hB10 : Blk w10 Z 189 12 := by
  obtain ⟨c, h1, h2⟩ := hB9
  exact ⟨c, h1, (hg.block Z (q4A.1 h2).1 fun q => hZo q.symm).trans h2⟩
 obtain ⟨g, cap, rfl⟩ := ownsRow_succ hown
 have hg1 := hown.lt g rfl
 refine ⟨g, cap, rfl, by omega, ?_, ?_, ?_, ?_⟩
 ·by_cases h : P = []
  ·have := hnil h; omega
  ·intro q
   subst q
   obtain ⟨a, l, rfl⟩ := List.exists_cons_of_ne_nil h
   exact Ng (n := l.length) (by simpa using hown) hB10 (by omega) rfl
 ·have := dC hown hNB
  unfold OwnTrn
  simpa using this
 ·exact ca_grownO (aH hZ _) hg (fun k hk => by
   intro q; subst q; exact hZo hk)
 ·exact Below.grown (hb.alloc hNs _) hg (by simp; omega) (fun k hk => by have := (ho.lt k hk).1; omega)
theorem Nl {w : World} {B g cap : Nat} {P : List Sx.Trn} {p : Sx.Trn} (h : OwnTrn w B (.slice (some ⟨g, 0, none⟩) (P.length + 1) cap) (P ++ [p])) : OwnTrn w B (.slice (some ⟨g, 0, none⟩) (P.length + 1) cap) (Sx.putAt P P.length p) := by
 rw [Sx.Nk]; exact h
theorem qB {w : World} {X : Nat} {vs : List Value} (h : ag w X vs) : ag w.drew X vs := h
theorem CY {w : World} {B g n cap k : Nat} {l : List Sx.Trn} (h : OwnTrn w B (.slice (some ⟨g, 0, none⟩) n cap) l) (hl : l.length = n) (hk : k < l.length) : w.there g (k * 12) 12 := by
 subst hl
 exact Cm h (by rw [vE oK]; omega)
/- a row is as it was behind an append to one of another kind -/
theorem qJ {w w9 : World} {B n1 n2 z1 z2 : Nat} {e1 e2 : TypeId} {v1 v2 : Value} {x1 x2 : List Value} {o : Obj} (h1 : w.ownsRow B e1 z1 v1 n1 x1) (h2 : w.ownsRow B e2 z2 v2 n2 x2) (he : e1 ≠ e2) (hg : (w.alloc o).grownBy w9 v2.ownBlock) : w9.ownsRow B e1 z1 v1 n1 x1 :=
 (h1.alloc o).kept hg (D5 h1 h2 he)
theorem ve {N : Nat} {w wr w9 : World} {v v1 v' : Value} {out : List Sx.Tm} {P : List Sx.Trn} {t : Sx.Tm} {o : Obj} (ht : oQ wr N v out) (hw : OwnTrn wr N v1 P) (hb : Below N w wr) (hNs : N ≤ wr.heap.size)
  (hown : w9.ownsRow N 72 3 v' (out.length + 1) (out.flatMap dF ++ dF t)) (hg : (wr.alloc o).grownBy w9 v.ownBlock) : oQ w9 N v' (out ++ [t]) ∧ OwnTrn w9 N v1 P ∧ Below N w w9 := by
 refine ⟨?_, qJ hw ht (by decide) hg, Below.grown (hb.alloc hNs _) hg (by simp; omega) (fun k hk => by have := (ht.lt k hk).1; omega)⟩
 unfold oQ
 simpa using hown
end
namespace Sx
open Tx (Bs)

def pct : Bs := [37, 115]
def slash : Bs := [47]
theorem kI (a c : UInt8) (l r : Bs) : List.isPrefixOf (a :: l) (c :: r) = (a == c && List.isPrefixOf l r) := rfl
/- by cutting; f: nothing is ahead -/
def xz (f : Bool) (s : Bs) : Bool :=
 if (Lib.cut s pct).2.2 = true then aU (Lib.cut s pct).1 && aU (Lib.cut s pct).2.1
 else if (Lib.cut s slash).2.2 = true then (!f || !(Lib.cut s slash).1.isEmpty) && !(Lib.cut s slash).2.1.isEmpty && aU (Lib.cut s slash).1 && aU (Lib.cut s slash).2.1
 else aU s
theorem xJ (sub : Bs) (h : sub.isEmpty = false) : Lib.cut [] sub = ([], [], false) := by simp [Lib.cut, Lib.index, h]
theorem tO {c : UInt8} {r sub : Bs} (h : sub.isPrefixOf (c :: r) = true) : Lib.cut (c :: r) sub = ([], (c :: r).drop sub.length, true) := by
 have e : Lib.index (c :: r) sub = 0 := by simp [Lib.index, h]
 simp [Lib.cut, e]
theorem pG {c : UInt8} {r sub : Bs} (h : sub.isPrefixOf (c :: r) = false) : Lib.cut (c :: r) sub = (c :: (Lib.cut r sub).1, (Lib.cut r sub).2.1, (Lib.cut r sub).2.2) := by
 have g := Lib.index_ge r sub
 have e : Lib.index (c :: r) sub = if Lib.index r sub == -1 then -1 else Lib.index r sub + 1 := by simp [Lib.index, h]
 unfold Lib.cut
 rw [e]
 by_cases q : Lib.index r sub = -1
 ·simp [q]
 ·have q' : 0 ≤ Lib.index r sub := by omega
  have q3 : (Lib.index r sub == -1) = false := by simpa using q
  rw [q3]
  simp only [Bool.false_eq_true, if_false]
  rw [if_pos (by omega), if_pos q']
  have e1 : (Lib.index r sub + 1).toNat = (Lib.index r sub).toNat + 1 := by omega
  rw [e1]
  simp [Nat.add_right_comm]
theorem zL : dK 37 = false := by decide
theorem Gu : dK 47 = false := by decide
theorem Ni : dK 115 = true := by decide
theorem BO : ∀ (s : Bs) (f : Bool), dH f s = some 0 ↔ aU s = true
 | [], f => by simp [dH, aU]
 | c :: r, f => by
   have ih := BO r false
   unfold dH
   by_cases h1 : c = 47
   ·subst h1
    rw [if_pos rfl]
    have : aU (47 :: r) = false := by simp [aU, Gu]
    rw [this]
    split
    ·simp
    ·cases dH false r <;> simp
   ·rw [if_neg h1]
    by_cases h2 : c = 37
    ·subst h2
     rw [if_pos rfl]
     have : aU (37 :: r) = false := by simp [aU, zL]
     rw [this]
     split
     ·cases dH false r <;> simp
     ·simp
    ·rw [if_neg h2]
     by_cases h3 : dK c = true
     ·rw [if_pos h3, ih]; simp [aU, h3]
     ·rw [if_neg h3]; simp [aU, h3]
theorem yL (r : Bs) : few ((dH false r).map (· + 1)) = aU r := by
 have h := BO r false
 cases q : dH false r with
 | none =>
   rw [q] at h
   cases k : aU r with
   | false => rfl
   | true => simp [k] at h
 | some m =>
   rw [q] at h
   cases k : aU r with
   | false =>
     simp [k] at h
     simp [few]; omega
   | true =>
     simp [k] at h
     simp [few, h]
theorem Ro {s sub : Bs} {c : UInt8} (hs : sub = c :: sub.drop 1) (h : (Lib.cut s sub).2.2 = true) : c ∈ s := by
 induction s with
 | nil =>
   rw [xJ sub (by rw [hs]; rfl)] at h
   simp at h
 | cons d r ih =>
   cases q : sub.isPrefixOf (d :: r) with
   | true =>
     rw [hs] at q
     simp at q
     simp [q.1]
   | false =>
     rw [pG q] at h
     simp [ih h]
theorem Nj {s : Bs} {c : UInt8} (hc : dK c = false) (h : c ∈ s) : aU s = false := by
 unfold aU
 rw [List.all_eq_false]
 exact ⟨c, h, by simp [hc]⟩
theorem La : ∀ (s : Bs) (f : Bool), few (dH f s) = xz f s
 | [], f => by simp [dH, few, xz, xJ, pct, slash, aU]
 | c :: r, f => by
   have ih := La r false
   by_cases h1 : c = 47
   ·subst h1
    have p1 : pct.isPrefixOf (47 :: r) = false := by rw [pct, kI, show ((37 : UInt8) == 47) = false by decide]; rfl
    have p2 : slash.isPrefixOf (47 :: r) = true := by rw [slash, kI]; rfl
    unfold dH xz
    rw [if_pos rfl, pG p1, tO p2]
    simp only [List.drop_succ_cons, slash, List.length_cons, List.length_nil, List.drop_zero, List.isEmpty_nil, Bool.not_true, Bool.or_false, if_true]
    have hh : aU (47 :: (Lib.cut r pct).1) = false := by simp [aU, Gu]
    rw [hh]
    by_cases q : (Lib.cut r pct).2.2 = true
    ·have hp := Nj zL (Ro (c := 37) (by rfl) q)
     rw [if_pos q]
     split
     ·simp [few]
     ·rw [yL, hp]; rfl
    ·rw [if_neg q]
     by_cases k : f = true ∨ r = []
     ·rw [if_pos k]
      rcases k with rfl | rfl <;> simp [few]
     ·rw [if_neg k, yL]
      have k1 : f = false := by cases f <;> simp at k ⊢
      have k2 : r ≠ [] := fun e => k (.inr e)
      have k3 : r.isEmpty = false := by cases r <;> simp at k2 ⊢
      simp [k1, k3, aU]
   ·have p2 : slash.isPrefixOf (c :: r) = false := by rw [slash, kI, show ((47 : UInt8) == c) = false by simpa using Ne.symm h1]; rfl
    by_cases h2 : c = 37
    ·subst h2
     by_cases h3 : r.head? = some 115
     ·obtain ⟨r', rfl⟩ : ∃ r', r = 115 :: r' := by cases r <;> simp at h3 ⊢; exact h3
      have p1 : pct.isPrefixOf (37 :: 115 :: r') = true := by rw [pct, kI, kI]; rfl
      unfold dH xz
      rw [if_neg h1, if_pos rfl, if_pos h3, yL, tO p1, if_pos rfl]
      simp [pct, aU, Ni]
     ·have p1 : pct.isPrefixOf (37 :: r) = false := by
       cases r with
       | nil => rfl
       | cons d r' =>
         have h4 : d ≠ 115 := by simpa using h3
         rw [pct, kI, kI, show ((115 : UInt8) == d) = false by simpa using Ne.symm h4]; rfl
      unfold dH xz
      rw [if_neg h1, if_pos rfl, if_neg h3, pG p1, pG p2]
      have hh : ∀ l : Bs, aU (37 :: l) = false := fun l => by simp [aU, zL]
      simp [hh, few]
    ·have p1 : pct.isPrefixOf (c :: r) = false := by rw [pct, kI, show ((37 : UInt8) == c) = false by simpa using Ne.symm h2]; rfl
     have hh : ∀ l : Bs, aU (c :: l) = (dK c && aU l) := fun l => by simp [aU]
     have e : few (dH f (c :: r)) = (dK c && few (dH false r)) := by
      have e0 : dH f (c :: r) = if dK c = true then dH false r else none := by conv => lhs; unfold dH; rw [if_neg h1, if_neg h2]
      rw [e0]
      cases dK c with
      | false => rfl
      | true => rw [if_pos rfl, Bool.true_and]
     rw [e, ih]
     unfold xz
     rw [pG p1, pG p2]
     simp only [hh, List.isEmpty_cons, Bool.not_false, Bool.or_true, Bool.true_and]
     split
     ·simp [Bool.and_assoc]
     ·split
      ·simp [Bool.and_assoc, Bool.and_left_comm]
      ·rfl
theorem yS (s : Bs) : cZ s = (!s.isEmpty && decide (s.length ≤ 24) && xz true s) := by unfold cZ; rw [La]
end Sx
section
open Go.RowKit

theorem JK (c : UInt8) (w : World) :
  Calls Tryz.prog 204 #[.int .u8 (c.toNat : Int)] w fun e w' => e = .returned (.bool (Sx.dK c)) ∧ w' = w := by
 have HN : Hid (Sx.dK c = (Sx.gP c || Sx.fZ c || c == 43 || c == 45)) := rfl
 cases h1 : Sx.gP c
 case true =>
  have H1 := hid h1
  clear h1
  go_enter Tryz.func204, Tryz.ntmps204
  go_wp2_with (go_at_call 191; refine (fo _ _ H1.out).mono ?_; rintro e w1 ⟨rfl, rfl⟩)
  go_ret
  exact ⟨az (by rw [HN.out, H1.out]; rfl), rfl⟩
 case false =>
  have H1 := hid h1
  clear h1
  cases h2 : Sx.fZ c
  case true =>
   have H2 := hid h2
   clear h2
   go_enter Tryz.func204, Tryz.ntmps204
   go_wp2_with (first | (go_at_call 191; refine (fo _ _ H1.out).mono ?_; rintro e w1 ⟨rfl, rfl⟩) | (go_at_call 194; refine (ny _ _ H2.out).mono ?_; rintro e w1 ⟨rfl, rfl⟩))
   go_ret
   exact ⟨az (by rw [HN.out, H1.out, H2.out]; rfl), rfl⟩
  case false =>
   have H2 := hid h2
   clear h2
   cases h3 : (c == 43)
   case true =>
    have e3 : ((c.toNat : Int) == 43) = true := (iy c 43).trans h3
    have H3 := hid h3
    clear h3
    go_enter Tryz.func204, Tryz.ntmps204
    go_wp2_with (first | (go_at_call 191; refine (fo _ _ H1.out).mono ?_; rintro e w1 ⟨rfl, rfl⟩) | (go_at_call 194; refine (ny _ _ H2.out).mono ?_; rintro e w1 ⟨rfl, rfl⟩))
    go_ret
    exact ⟨az (by rw [HN.out, H1.out, H2.out, H3.out]; rfl), rfl⟩
   case false =>
    have e3 : ((c.toNat : Int) == 43) = false := (iy c 43).trans h3
    have H3 := hid h3
    clear h3
    cases h4 : (c == 45)
    all_goals
     have e4 := (iy c 45).trans h4
     change ((c.toNat : Int) == 45) = _ at e4
     have H4 := hid h4
     clear h4
     go_enter Tryz.func204, Tryz.ntmps204
     go_wp2_with (first | (go_at_call 191; refine (fo _ _ H1.out).mono ?_; rintro e w1 ⟨rfl, rfl⟩) | (go_at_call 194; refine (ny _ _ H2.out).mono ?_; rintro e w1 ⟨rfl, rfl⟩))
     go_ret
     exact ⟨az (by rw [HN.out, H1.out, H2.out, H3.out, H4.out]; rfl), rfl⟩
theorem Cq (c : UInt8) (w : World) {b : Bool} (h : Sx.dK c = b) :
  Calls Tryz.prog 204 #[.int .u8 (c.toNat : Int)] w fun e w' => e = .returned (.bool b) ∧ w' = w := by subst h; exact JK c w

theorem AY (s : ByteArray) (w : World) (hs : s.size ≤ maxLen) :
  Calls Tryz.prog 210 #[.string s, .func (.func 204) #[] #[]] w fun e w' => (∃ n : Int, e = .returned (.int .i64 n) ∧ (n == (s.size : Int)) = Sx.aU s.data.toList) ∧ w' = w := by
 unfold maxLen at hs
 have HG : Hid (Sx.aU s.data.toList = s.data.toList.all Sx.dK) := rfl
 have eg : ∀ args w, (callFunc 204 args).run Tryz.prog w = .ok (.enter 204 args) w := enters_of Tryz.func204 (by kernel_rfl) rfl
 go_enter Tryz.func210, Tryz.ntmps210
 go_wp2_with fail
 go_loop [8] (fun a => ∃ k : Nat, k ≤ s.size ∧ a = .int .i64 k ∧ Hid ((s.data.toList.take k).all Sx.dK = true)) (fun a => s.size - (intOf a).toNat)
 case atStart => exact ⟨0, by omega, rfl, by show _ = _; simp⟩
 case round =>
  obtain ⟨k, hk, rfl, HA⟩ := hrel
  by_cases hlt : k < s.size
  ·obtain ⟨c, hc⟩ : ∃ c, s[k] = c := ⟨_, rfl⟩
   have HC := hid hc
   cases h1 : Sx.dK c
   case true =>
    have H1 := hid h1
    clear h1
    go_wp2_with (go_at_call 204; refine (Cq _ _ H1.out).mono ?_; rintro e w1 ⟨rfl, rfl⟩)
    go_round
    case rel => exact ⟨k + 1, by omega, by go_num, eP s _ k hlt HA.out (by rw [HC.out, H1.out])⟩
    case measure => simp [intOf]; omega
   case false =>
    have H1 := hid h1
    clear h1
    go_wp2_with (go_at_call 204; refine (Cq _ _ H1.out).mono ?_; rintro e w1 ⟨rfl, rfl⟩)
    go_ret
    exact ⟨⟨_, rfl, by rw [HG.out, rU s _ k hlt (by rw [HC.out, H1.out])]; simp; omega⟩, rfl⟩
  ·go_wp2
   go_ret
   exact ⟨⟨_, rfl, by rw [HG.out, nJ s _ k (by omega) HA.out]; simp⟩, rfl⟩
theorem zh (s : ByteArray) (w : World) (hs : s.size ≤ maxLen) :
  Calls Tryz.prog 192 #[.string s, .func (.func 204) #[] #[]] w fun e w' => e = .returned (.bool (decide (s.size ≤ 24) && Sx.aU s.data.toList)) ∧ w' = w := by
 have HS := hid (AY s w hs)
 clear hs
 obtain ⟨b, hb⟩ : ∃ b, Sx.aU s.data.toList = b := ⟨_, rfl⟩
 rw [hb] at HS ⊢
 clear hb
 by_cases h : s.size ≤ 24
 ·go_enter Tryz.func192, Tryz.ntmps192
  go_wp2_with (go_at_call 210; refine HS.out.mono ?_; rintro e w1 ⟨⟨n, rfl, hn⟩, rfl⟩)
  go_ret
  exact ⟨az (by simp [h]), rfl⟩
 ·go_enter Tryz.func192, Tryz.ntmps192
  go_wp2_with fail
  go_ret
  exact ⟨az (by simp [h]), rfl⟩
theorem AQ (s : ByteArray) (w : World) (hs : s.size ≤ maxLen) {b : Bool} (h : (decide (s.size ≤ 24) && Sx.aU s.data.toList) = b) :
  Calls Tryz.prog 192 #[.string s, .func (.func 204) #[] #[]] w fun e w' => e = .returned (.bool b) ∧ w' = w := by subst h; exact zh s w hs
theorem Co (s : ByteArray) (w : World) (hs : s.size ≤ maxLen) {b : Bool} (h : (decide (s.size ≤ 24) && Sx.aU s.data.toList) = b) :
  Calls Tryz.prog 178 #[.string s] w fun e w' => e = .returned (.bool b) ∧ w' = w := by
 have HS := hid (AQ s w hs h)
 clear h hs
 go_enter Tryz.func178, Tryz.ntmps178
 go_wp2_with (go_at_call 192; refine HS.out.mono ?_; rintro e w1 ⟨rfl, rfl⟩)
 go_ret
 exact ⟨rfl, rfl⟩
end
end Go.Proofs.YtkhlkohlccndgaaGreat
namespace Go.Proofs
open Go.Shelf
def Tryz.FM : Go.Shelf.Ren := ⟨fun | 145 => 162 | 220 => 198 | 219 => 212 | 217 => 211 | 225 => 233 | 224 => 234 | 267 => 235 | 266 => 232 | 314 => 244 | n => n, fun | 9 => 9 | 4 => 4 | 59 => 219 | 3 => 3 | 5 => 5 | 46 => 230 | 146 => 274 | 51 => 258 | n => n, fun | 1 => 0 | n => n⟩
theorem Tryz.RG : Go.Proofs.Lays.n145 Tryz.prog Tryz.FM := {
 mixed := by kernel_rfl
 f145 := Tryz.func162.trans (congrArg some (by kernel_rfl))
 f217 := Tryz.func211.trans (congrArg some (by kernel_rfl))
 f219 := Tryz.func212.trans (congrArg some (by kernel_rfl))
 f220 := Tryz.func198.trans (congrArg some (by kernel_rfl))
 f224 := Tryz.func234.trans (congrArg some (by kernel_rfl))
 f225 := Tryz.func233.trans (congrArg some (by kernel_rfl))
 f266 := Tryz.func232.trans (congrArg some (by kernel_rfl))
 f267 := Tryz.func235.trans (congrArg some (by kernel_rfl))
 f314 := Tryz.func244.trans (congrArg some (by kernel_rfl))
 t3 := Tryz.underlying3
 a3 := Tryz.isAgg3
 z3 := Tryz.sizeOf3
 v3 := Tryz.zeroValue3
 t4 := Tryz.underlying4
 a4 := Tryz.isAgg4
 z4 := Tryz.sizeOf4
 v4 := Tryz.zeroValue4
 t5 := Tryz.underlying5
 a5 := Tryz.isAgg5
 z5 := Tryz.sizeOf5
 v5 := Tryz.zeroValue5
 t9 := Tryz.underlying9
 a9 := Tryz.isAgg9
 z9 := Tryz.sizeOf9
 v9 := Tryz.zeroValue9
 t46 := Tryz.underlying230
 a46 := Tryz.isAgg230
 z46 := Tryz.sizeOf230
 v46 := Tryz.zeroValue230
 t51 := Tryz.underlying258
 a51 := Tryz.isAgg258
 z51 := Tryz.sizeOf258
 v51 := Tryz.zeroValue258
 t59 := Tryz.underlying219
 a59 := Tryz.isAgg219
 z59 := Tryz.sizeOf219
 v59 := Tryz.zeroValue219
 t146 := Tryz.underlying274
 a146 := Tryz.isAgg274
 z146 := Tryz.sizeOf274
 v146 := Tryz.zeroValue274
 g1 := by kernel_rfl }
open Go.RowKit Go.Lib in
/-- strings.Cut: "Cut slices s around the first instance of sep, returning the text before and after sep. The found result reports whether sep appears in s. If sep does not appear in s, cut returns s, "", false.": IT RETURNS 'Lib.cut s sep'; the world is as it was but for the count of draws. (LAID: no walk: one application.) -/
theorem Tryz.strings_Cut (s sep : ByteArray) (m : Int) (w : World) (hs : s.size < 4294967281) (hm : w.cell? ⟨0, 0, none⟩ = some (.int .i64 m)) :
  Calls Tryz.prog 162 #[.string s, .string sep] w fun e w' => e = .returned (.tuple #[.string ⟨(Lib.cut s.data.toList sep.data.toList).1.toArray⟩, .string ⟨(Lib.cut s.data.toList sep.data.toList).2.1.toArray⟩, .bool (Lib.cut s.data.toList sep.data.toList).2.2]) ∧ ∃ n, w' = w.drewN n := Any.strings_Cut Tryz.RG s sep m w hs hm
end Go.Proofs
namespace Go.Proofs.YtkhlkohlccndgaaGreat
section
open Go.RowKit

theorem IA (w : World) (n : Nat) : Below w.heap.size w (w.drewN n) := ⟨rfl, rfl, rfl, Nat.le_refl _, fun _ _ => rfl⟩
theorem xI (l sep : Tx.Bs) (m : Int) (w : World) (hs : l.length < 4294967281) (hm : w.cell? ⟨0, 0, none⟩ = some (.int .i64 m)) :
  Calls Tryz.prog 162 #[af l, af sep] w fun e w' => e = .returned (.tuple #[af (Lib.cut l sep).1, af (Lib.cut l sep).2.1, .bool (Lib.cut l sep).2.2]) ∧ ∃ n, w' = w.drewN n := by
 have h := Tryz.strings_Cut ⟨l.toArray⟩ ⟨sep.toArray⟩ m w (by simpa [ByteArray.size] using hs) hm
 exact h
theorem j4 (l : Tx.Bs) (w : World) (hs : l.length ≤ 24) {b : Bool} (h : Sx.aU l = b) : Calls Tryz.prog 178 #[af l] w fun e w' => e = .returned (.bool b) ∧ w' = w :=
 Co ⟨l.toArray⟩ w (by simp [ByteArray.size, maxLen]; omega) (by rw [← h]; simp [ByteArray.size, hs])
theorem Dm (l sep : Tx.Bs) : (Lib.cut l sep).1.length ≤ l.length ∧ (Lib.cut l sep).2.1.length ≤ l.length := by
 unfold Lib.cut
 split
 ·exact ⟨by simp; omega, by simp⟩
 ·exact ⟨Nat.le_refl _, by simp⟩
theorem zJ (l : Tx.Bs) (m : Int) (w : World) (hs : l.length ≤ maxLen) (hm : w.cell? ⟨0, 0, none⟩ = some (.int .i64 m)) {b : Bool} (h : Sx.cZ l = b) :
  Calls Tryz.prog 196 #[af l] w fun e w' => e = .returned (.bool b) ∧ ∃ n, w' = w.drewN n := by
 rw [Sx.yS] at h
 cases he : l.isEmpty
 case true =>
  have HB : Hid (b = false) := by show _ = _; rw [← h, he]; rfl
  clear h hm
  go_enter Tryz.func196, Tryz.ntmps196
  go_wp2_with fail
  go_ret
  exact ⟨az (by rw [HB.out]), 0, rfl⟩
 by_cases h24 : l.length ≤ 24
 case neg =>
  have HB : Hid (b = false) := by show _ = _; rw [← h, decide_eq_false h24]; simp
  clear h hm
  go_enter Tryz.func196, Tryz.ntmps196
  go_wp2_with fail
  go_ret
  exact ⟨az (by rw [HB.out]), 0, rfl⟩
 have HB : Hid (Sx.xz true l = b) := by show _ = _; rw [← h, he, decide_eq_true h24]; rfl
 have C1 := hid (xI l [37, 115] m w (by omega) hm)
 have C2 := hid (fun n => xI l [47] m (w.drewN n) (by omega) hm)
 have L1 := Dm l [37, 115]
 have L2 := Dm l [47]
 unfold Sx.xz Sx.pct Sx.slash at HB
 have HB1 : Hid ((if (Lib.cut l [37, 115]).2.2 = true then Sx.aU (Lib.cut l [37, 115]).1 && Sx.aU (Lib.cut l [37, 115]).2.1 else if (Lib.cut l [47]).2.2 = true then !(Lib.cut l [47]).1.isEmpty && !(Lib.cut l [47]).2.1.isEmpty && Sx.aU (Lib.cut l [47]).1 && Sx.aU (Lib.cut l [47]).2.1 else Sx.aU l) = b) := by
  show _ = _; rw [← HB.out]; simp
 clear HB h hm
 obtain ⟨c1, hc1⟩ : ∃ c, Lib.cut l [37, 115] = c := ⟨_, rfl⟩
 obtain ⟨c2, hc2⟩ : ∃ c, Lib.cut l [47] = c := ⟨_, rfl⟩
 rw [hc1] at L1 C1 HB1
 rw [hc2] at L2 C2 HB1
 clear hc1 hc2
 obtain ⟨a1, a2, ao⟩ := c1
 obtain ⟨b1, b2, bo⟩ := c2
 dsimp only at L1 L2 C1 C2 HB1
 have HL := hid L1
 have HL2 := hid L2
 have H24 := hid h24
 clear L1 L2
 cases ao
 case true =>
  simp only [if_true] at HB1
  cases h1 : Sx.aU a1
  case false =>
   have HBB : Hid (b = false) := by show _ = _; rw [← HB1.out, h1]; rfl
   have HA := hid (fun w' => j4 a1 w' (by have := HL.out; have := H24.out; omega) h1)
   clear HB1 h1
   go_enter Tryz.func196, Tryz.ntmps196
   go_wp2_with fail
   refine C1.out.mono ?_
   rintro e w1 ⟨rfl, n, rfl⟩
   go_wp2_with (go_at_call 178; refine (HA.out _).mono ?_; rintro e w2 ⟨rfl, rfl⟩)
   go_ret
   exact ⟨az (by rw [HBB.out]), n, rfl⟩
  case true =>
   have HBB : Hid (Sx.aU a2 = b) := by show _ = _; rw [← HB1.out, h1]; simp
   have HA := hid (fun w' => j4 a1 w' (by have := HL.out; have := H24.out; omega) h1)
   have HA2 := hid (fun w' => j4 a2 w' (by have := HL.out; have := H24.out; omega) HBB.out)
   clear HB1 h1
   go_enter Tryz.func196, Tryz.ntmps196
   go_wp2_with fail
   refine C1.out.mono ?_
   rintro e w1 ⟨rfl, n, rfl⟩
   go_wp2_with (go_at_call 178; (first | (with_reducible refine (HA.out _).mono ?_) | (with_reducible refine (HA2.out _).mono ?_)); rintro e w2 ⟨rfl, rfl⟩)
   go_ret
   exact ⟨rfl, n, rfl⟩
 simp only [Bool.false_eq_true, if_false] at HB1
 cases bo
 case false =>
  simp only [Bool.false_eq_true, if_false] at HB1
  have HA := hid (fun w' => j4 l w' H24.out HB1.out)
  go_enter Tryz.func196, Tryz.ntmps196
  go_wp2_with fail
  refine C1.out.mono ?_
  rintro e w1 ⟨rfl, n, rfl⟩
  go_wp2_with fail
  refine (C2.out n).mono ?_
  rintro e w2 ⟨rfl, n2, rfl⟩
  go_wp2_with (go_at_call 178; refine (HA.out _).mono ?_; rintro e w2 ⟨rfl, rfl⟩)
  go_ret
  exact ⟨rfl, n + n2, rfl⟩
 simp only [if_true] at HB1
 cases e1 : b1.isEmpty
 case true =>
  have HBB : Hid (b = false) := by show _ = _; rw [← HB1.out, e1]; rfl
  clear HB1
  go_enter Tryz.func196, Tryz.ntmps196
  go_wp2_with fail
  refine C1.out.mono ?_
  rintro e w1 ⟨rfl, n, rfl⟩
  go_wp2_with fail
  refine (C2.out n).mono ?_
  rintro e w2 ⟨rfl, n2, rfl⟩
  go_wp2
  go_ret
  exact ⟨az (by rw [HBB.out]), n + n2, rfl⟩
 cases e2 : b2.isEmpty
 case true =>
  have HBB : Hid (b = false) := by show _ = _; rw [← HB1.out, e1, e2]; rfl
  clear HB1
  go_enter Tryz.func196, Tryz.ntmps196
  go_wp2_with fail
  refine C1.out.mono ?_
  rintro e w1 ⟨rfl, n, rfl⟩
  go_wp2_with fail
  refine (C2.out n).mono ?_
  rintro e w2 ⟨rfl, n2, rfl⟩
  go_wp2
  go_ret
  exact ⟨az (by rw [HBB.out]), n + n2, rfl⟩
 have HB2 : Hid ((Sx.aU b1 && Sx.aU b2) = b) := by show _ = _; rw [← HB1.out, e1, e2]; simp
 clear HB1
 cases h1 : Sx.aU b1
 case false =>
  have HBB : Hid (b = false) := by show _ = _; rw [← HB2.out, h1]; rfl
  have HA := hid (fun w' => j4 b1 w' (by have := HL2.out; have := H24.out; omega) h1)
  clear HB2 h1
  go_enter Tryz.func196, Tryz.ntmps196
  go_wp2_with fail
  refine C1.out.mono ?_
  rintro e w1 ⟨rfl, n, rfl⟩
  go_wp2_with fail
  refine (C2.out n).mono ?_
  rintro e w2 ⟨rfl, n2, rfl⟩
  go_wp2_with (go_at_call 178; refine (HA.out _).mono ?_; rintro e w2 ⟨rfl, rfl⟩)
  go_ret
  exact ⟨az (by rw [HBB.out]), n + n2, rfl⟩
 case true =>
  have HBB : Hid (Sx.aU b2 = b) := by show _ = _; rw [← HB2.out, h1]; simp
  have HA := hid (fun w' => j4 b1 w' (by have := HL2.out; have := H24.out; omega) h1)
  have HA2 := hid (fun w' => j4 b2 w' (by have := HL2.out; have := H24.out; omega) HBB.out)
  clear HB2 h1
  go_enter Tryz.func196, Tryz.ntmps196
  go_wp2_with fail
  refine C1.out.mono ?_
  rintro e w1 ⟨rfl, n, rfl⟩
  go_wp2_with fail
  refine (C2.out n).mono ?_
  rintro e w2 ⟨rfl, n2, rfl⟩
  go_wp2_with (go_at_call 178; (first | (with_reducible refine (HA.out _).mono ?_) | (with_reducible refine (HA2.out _).mono ?_)); rintro e w2 ⟨rfl, rfl⟩)
  go_ret
  exact ⟨rfl, n + n2, rfl⟩
end
section
open Go.RowKit
attribute [local go_sem ↓] Go.wp_at_zero Go.wp_at_succ

theorem Rt {sh sv uy um ud ua uc : Int} {rl fm : Tx.Bs} : Sx.rW ⟨sh, rl, sv, fm, false, uy, um, ud, ua, uc⟩ = Sx.aA id [if Cv.iK uy um ud = true then 0 else 3, uE (Sx.inB ua 0 172800) 3, uE (uc == 2 || uc == 3) 7] := by
 simp only [Sx.rW, Sx.aA, id, uE, Bool.false_eq_true, if_false]
 cases Cv.iK uy um ud <;> cases Sx.inB ua 0 172800 <;> by_cases h2 : uc = 2 <;> by_cases h3 : uc = 3 <;> simp [h2, h3]
theorem zC (sh sv uy um ud ua uc : Int) (rl fm : Tx.Bs) (w : World) :
  Calls Tryz.prog 197 #[iF ⟨sh, rl, sv, fm, true, uy, um, ud, ua, uc⟩] w fun e w' => e = .returned (.int .i64 (Sx.rW ⟨sh, rl, sv, fm, true, uy, um, ud, ua, uc⟩)) ∧ Below w.heap.size w w' := by
 have HE : Hid (Sx.rW ⟨sh, rl, sv, fm, true, uy, um, ud, ua, uc⟩ = uE (Sx.Ai ⟨sh, rl, sv, fm, true, uy, um, ud, ua, uc⟩) 1) := by
  show _ = _; simp only [Sx.rW, uE, if_true]
 have BV := hid ((q4B w.heap.size w).alloc (Nat.le_refl _) (.cells (ay ⟨sh, rl, sv, fm, true, uy, um, ud, ua, uc⟩).toArray 67))
 have HU : Hid (Sx.Ai ⟨sh, rl, sv, fm, true, uy, um, ud, ua, uc⟩ = decide (uy = 0 ∧ um = 0 ∧ ud = 0 ∧ ua = 0 ∧ uc = 0)) := rfl
 have h6 : ¬ uy = 0 ∨ (uy = 0 ∧ ¬ um = 0) ∨ (uy = 0 ∧ um = 0 ∧ ¬ ud = 0) ∨ (uy = 0 ∧ um = 0 ∧ ud = 0 ∧ ¬ ua = 0) ∨ (uy = 0 ∧ um = 0 ∧ ud = 0 ∧ ua = 0 ∧ ¬ uc = 0) ∨ (uy = 0 ∧ um = 0 ∧ ud = 0 ∧ ua = 0 ∧ uc = 0) := by omega
 rcases h6 with h | ⟨rfl, h⟩ | ⟨rfl, rfl, h⟩ | ⟨rfl, rfl, rfl, h⟩ | ⟨rfl, rfl, rfl, rfl, h⟩ | ⟨rfl, rfl, rfl, rfl, rfl⟩
 all_goals
  go_enter Tryz.func197, Tryz.ntmps197
  go_wp2_with (go_at_call 150; refine (aD _ _ _).mono ?_; rintro e w1 ⟨rfl, rfl⟩)
  go_ret
  refine ⟨ai ?_, BV.out⟩
  rw [HE.out, HU.out]
  simp [*]
theorem OJ (y m d : Int) (w : World) {E : Int} (h : (if Cv.iK y m d = true then 0 else 3) = E) :
  Calls Tryz.prog 40 #[.agg #[.int .i64 y, .int .i64 m, .int .i64 d]] w fun e w' => (∃ n, e = .returned (.tuple #[.int .i64 n, .int .i64 E])) ∧ Below w.heap.size w w' := by
 cases q : Cv.iK y m d
 ·rw [q] at h
  refine (Rq y m d w q).mono ?_
  rintro e w1 ⟨rfl, hb⟩
  exact ⟨⟨0, by rw [← h]; rfl⟩, hb⟩
 ·rw [q] at h
  refine (yB y m d w q).mono ?_
  rintro e w1 ⟨rfl, hb⟩
  exact ⟨⟨_, by rw [← h]; rfl⟩, hb⟩
theorem zD (sh sv uy um ud ua uc : Int) (rl fm : Tx.Bs) (w : World) :
  Calls Tryz.prog 197 #[iF ⟨sh, rl, sv, fm, false, uy, um, ud, ua, uc⟩] w fun e w' => e = .returned (.int .i64 (Sx.rW ⟨sh, rl, sv, fm, false, uy, um, ud, ua, uc⟩)) ∧ Below w.heap.size w w' := by
 rw [Rt]
 obtain ⟨O, hO⟩ : ∃ O, (if Cv.iK uy um ud = true then (0 : Int) else 3) = O := ⟨_, rfl⟩
 obtain ⟨A, hA⟩ : ∃ A, Sx.inB ua 0 172800 = A := ⟨_, rfl⟩
 rw [hO, hA]
 have HO := hid hO
 have HA := hid hA
 clear hO hA
 have XV := hid (aC w (ay ⟨sh, rl, sv, fm, false, uy, um, ud, ua, uc⟩) 67)
 have BV := hid ((q4B w.heap.size w).alloc (Nat.le_refl _) (.cells (ay ⟨sh, rl, sv, fm, false, uy, um, ud, ua, uc⟩).toArray 67))
 obtain ⟨B, hB⟩ : ∃ B, w.heap.size = B := ⟨_, rfl⟩
 have HB := hid hB
 rw [hB] at XV
 clear hB
 have h3 : uc = 2 ∨ (¬ uc = 2 ∧ uc = 3) ∨ (¬ uc = 2 ∧ ¬ uc = 3) := by omega
 go_enter Tryz.func197, Tryz.ntmps197
 go_wp2_with fail
 refine (OJ _ _ _ _ HO.out).mono ?_
 rintro e w1 ⟨⟨dn, rfl⟩, hb⟩
 have X1 := hid (ah XV.out hb)
 have B1 : Hid (Below w.heap.size w w1) := BV.out.trans (hb.mono BV.out.size)
 clear hb XV BV
 go_upto_region 4 with fail
 rw [HB.out]
 obtain ⟨x8, _⟩ := aa X1.out 8 rfl
 obtain ⟨x9, _⟩ := aa X1.out 9 rfl
 have sx := X1.out.1
 rcases h3 with rfl | ⟨h2, rfl⟩ | ⟨h2, h3⟩
 ·have CN : Hid (ag (w1.alloc (.cells ([O, uE A 3, uE true 7].map (Value.int .i64)).toArray 28)).drew w1.heap.size ([O, uE A 3, uE true 7].map (Value.int .i64))) := aC w1 _ _
  have BN0 := B1.out.alloc B1.out.size (.cells ([O, uE A 3, uE true 7].map (Value.int .i64)).toArray 28)
  have BN : Hid (Below w.heap.size w (w1.alloc (.cells ([O, uE A 3, uE true 7].map (Value.int .i64)).toArray 28)).drew) := ⟨BN0.os, BN0.tape, BN0.output, BN0.size, BN0.block⟩
  clear BN0
  have e2 : ((2 : Int) == 2 || (2 : Int) == 3) = true := by simp
  have e2 := hid e2
  refine wp_region_held_drew (S := fun w' => w'.cell? ⟨B, 8, none⟩ = some (.int .i64 ua) ∧ w'.cell? ⟨B, 9, none⟩ = some (.int .i64 2)) (by kernel_rfl) ?_ (fun hHeld => ?_)
  ·go_keep
  refine tkA 0 rfl ?_
  refine tkA 1 rfl ?_
  refine tkA 2 rfl ?_
  refine tkA 3 rfl ?_
  refine tkA 6 rfl ?_
  refine tkA 7 rfl ?_
  refine tkA 8 rfl ?_
  refine tkA 9 rfl ?_
  refine rdH 4 rfl fun K hK => ?_
  go_simp
  refine (bi ua 0 172800 _ HA.out).mono ?_
  rintro e w2 ⟨rfl, rfl⟩
  refine hK.out _ _ ?_ (fun hHeld => ?_)
  ·go_keep
  clear hK K
  try simp only [Act.put, j]
  refine rdH 5 rfl fun K hK => ?_
  go_simp
  refine (aD _ _ _).mono ?_
  rintro e w2 ⟨rfl, rfl⟩
  refine hK.out _ _ ?_ (fun hHeld => ?_)
  ·go_keep
  clear hK K
  try simp only [Act.put, j]
  refine tkA 10 rfl ?_
  refine tkD 11 rfl ?_
  refine tkD 12 rfl ?_
  refine tkD 13 rfl ?_
  refine tkD 14 rfl ?_
  refine tkA 15 rfl ?_
  refine rdH 16 rfl fun K hK => ?_
  go_simp
  refine (aD _ _ _).mono ?_
  rintro e w2 ⟨rfl, rfl⟩
  refine hK.out _ _ ?_ (fun hHeld => ?_)
  ·go_keep
  clear hK K
  try simp only [Act.put, j]
  refine rdH 17 rfl fun K hK => ?_
  go_simp
  refine hK.out _ _ ?_ (fun hHeld => ?_)
  ·go_keep
  clear hK K
  try simp only [Act.put, j]
  refine rdH 18 rfl fun K hK => ?_
  go_simp
  refine (jX [O, uE A 3, uE true 7] w1.heap.size 3 _ CN.out (by simp)).mono ?_
  rintro e w2 ⟨rfl, rfl⟩
  refine hK.out _ _ ?_ (fun hHeld => ?_)
  ·go_keep
  clear hK K
  try simp only [Act.put, j]
  refine tkA 19 rfl ?_
  refine wpAnyH_done (by kernel_rfl) ?_ _
  go_wp2
  go_ret
  exact ⟨ai (by first | rfl | rw [e2.out]), BN.out⟩
 ·have CN : Hid (ag (w1.alloc (.cells ([O, uE A 3, uE true 7].map (Value.int .i64)).toArray 28)).drew w1.heap.size ([O, uE A 3, uE true 7].map (Value.int .i64))) := aC w1 _ _
  have BN0 := B1.out.alloc B1.out.size (.cells ([O, uE A 3, uE true 7].map (Value.int .i64)).toArray 28)
  have BN : Hid (Below w.heap.size w (w1.alloc (.cells ([O, uE A 3, uE true 7].map (Value.int .i64)).toArray 28)).drew) := ⟨BN0.os, BN0.tape, BN0.output, BN0.size, BN0.block⟩
  clear BN0
  have e2 : ((3 : Int) == 2 || (3 : Int) == 3) = true := by simp
  have e2 := hid e2
  have d2 : ((3 : Int) == 2) = false := by simp
  refine wp_region_held_drew (S := fun w' => w'.cell? ⟨B, 8, none⟩ = some (.int .i64 ua) ∧ w'.cell? ⟨B, 9, none⟩ = some (.int .i64 3)) (by kernel_rfl) ?_ (fun hHeld => ?_)
  ·go_keep
  refine tkA 0 rfl ?_
  refine tkA 1 rfl ?_
  refine tkA 2 rfl ?_
  refine tkA 3 rfl ?_
  refine tkA 6 rfl ?_
  refine tkA 7 rfl ?_
  refine tkA 8 rfl ?_
  refine tkA 9 rfl ?_
  refine rdH 4 rfl fun K hK => ?_
  go_simp
  refine (bi ua 0 172800 _ HA.out).mono ?_
  rintro e w2 ⟨rfl, rfl⟩
  refine hK.out _ _ ?_ (fun hHeld => ?_)
  ·go_keep
  clear hK K
  try simp only [Act.put, j]
  refine rdH 5 rfl fun K hK => ?_
  go_simp
  refine (aD _ _ _).mono ?_
  rintro e w2 ⟨rfl, rfl⟩
  refine hK.out _ _ ?_ (fun hHeld => ?_)
  ·go_keep
  clear hK K
  try simp only [Act.put, j]
  refine tkA 10 rfl ?_
  refine tkA 11 rfl ?_
  refine tkA 12 rfl ?_
  refine tkA 13 rfl ?_
  refine tkA 14 rfl ?_
  refine tkA 15 rfl ?_
  refine rdH 16 rfl fun K hK => ?_
  go_simp
  refine (aD _ _ _).mono ?_
  rintro e w2 ⟨rfl, rfl⟩
  refine hK.out _ _ ?_ (fun hHeld => ?_)
  ·go_keep
  clear hK K
  try simp only [Act.put, j]
  refine rdH 17 rfl fun K hK => ?_
  go_simp
  refine hK.out _ _ ?_ (fun hHeld => ?_)
  ·go_keep
  clear hK K
  try simp only [Act.put, j]
  refine rdH 18 rfl fun K hK => ?_
  go_simp
  refine (jX [O, uE A 3, uE true 7] w1.heap.size 3 _ CN.out (by simp)).mono ?_
  rintro e w2 ⟨rfl, rfl⟩
  refine hK.out _ _ ?_ (fun hHeld => ?_)
  ·go_keep
  clear hK K
  try simp only [Act.put, j]
  refine tkA 19 rfl ?_
  refine wpAnyH_done (by kernel_rfl) ?_ _
  go_wp2
  go_ret
  exact ⟨ai (by first | rfl | rw [e2.out]), BN.out⟩
 ·have CN : Hid (ag (w1.alloc (.cells ([O, uE A 3, uE false 7].map (Value.int .i64)).toArray 28)).drew w1.heap.size ([O, uE A 3, uE false 7].map (Value.int .i64))) := aC w1 _ _
  have BN0 := B1.out.alloc B1.out.size (.cells ([O, uE A 3, uE false 7].map (Value.int .i64)).toArray 28)
  have BN : Hid (Below w.heap.size w (w1.alloc (.cells ([O, uE A 3, uE false 7].map (Value.int .i64)).toArray 28)).drew) := ⟨BN0.os, BN0.tape, BN0.output, BN0.size, BN0.block⟩
  clear BN0
  have e2 : ((uc : Int) == 2 || (uc : Int) == 3) = false := by simp [h2, h3]
  have e2 := hid e2
  have d2 : ((uc : Int) == 2) = false := by simp [h2]
  have d3 : ((uc : Int) == 3) = false := by simp [h3]
  refine wp_region_held_drew (S := fun w' => w'.cell? ⟨B, 8, none⟩ = some (.int .i64 ua) ∧ w'.cell? ⟨B, 9, none⟩ = some (.int .i64 uc)) (by kernel_rfl) ?_ (fun hHeld => ?_)
  ·go_keep
  refine tkA 0 rfl ?_
  refine tkA 1 rfl ?_
  refine tkA 2 rfl ?_
  refine tkA 3 rfl ?_
  refine tkA 6 rfl ?_
  refine tkA 7 rfl ?_
  refine tkA 8 rfl ?_
  refine tkA 9 rfl ?_
  refine rdH 4 rfl fun K hK => ?_
  go_simp
  refine (bi ua 0 172800 _ HA.out).mono ?_
  rintro e w2 ⟨rfl, rfl⟩
  refine hK.out _ _ ?_ (fun hHeld => ?_)
  ·go_keep
  clear hK K
  try simp only [Act.put, j]
  refine rdH 5 rfl fun K hK => ?_
  go_simp
  refine (aD _ _ _).mono ?_
  rintro e w2 ⟨rfl, rfl⟩
  refine hK.out _ _ ?_ (fun hHeld => ?_)
  ·go_keep
  clear hK K
  try simp only [Act.put, j]
  refine tkA 10 rfl ?_
  refine tkA 11 rfl ?_
  refine tkA 12 rfl ?_
  refine tkA 13 rfl ?_
  refine tkA 14 rfl ?_
  refine tkA 15 rfl ?_
  refine rdH 16 rfl fun K hK => ?_
  go_simp
  refine (aD _ _ _).mono ?_
  rintro e w2 ⟨rfl, rfl⟩
  refine hK.out _ _ ?_ (fun hHeld => ?_)
  ·go_keep
  clear hK K
  try simp only [Act.put, j]
  refine rdH 17 rfl fun K hK => ?_
  go_simp
  refine hK.out _ _ ?_ (fun hHeld => ?_)
  ·go_keep
  clear hK K
  try simp only [Act.put, j]
  refine rdH 18 rfl fun K hK => ?_
  go_simp
  refine (jX [O, uE A 3, uE false 7] w1.heap.size 3 _ CN.out (by simp)).mono ?_
  rintro e w2 ⟨rfl, rfl⟩
  refine hK.out _ _ ?_ (fun hHeld => ?_)
  ·go_keep
  clear hK K
  try simp only [Act.put, j]
  refine tkA 19 rfl ?_
  refine wpAnyH_done (by kernel_rfl) ?_ _
  go_wp2
  go_ret
  exact ⟨ai (by first | rfl | rw [e2.out]), BN.out⟩
theorem mJ (x : Sx.Er) (w : World) : Calls Tryz.prog 197 #[iF x] w fun e w' => e = .returned (.int .i64 (Sx.rW x)) ∧ Below w.heap.size w w' := by
 obtain ⟨sh, rl, sv, fm, op, uy, um, ud, ua, uc⟩ := x
 cases op
 ·exact zD _ _ _ _ _ _ _ _ _ _
 ·exact zC _ _ _ _ _ _ _ _ _ _
end
section
open Go.RowKit
attribute [local go_sem ↓] Go.wp_at_zero Go.wp_at_succ

def mQ (B : Nat) (x : Sx.Er) (w : World) : Prop := w.cell? ⟨B, 0, none⟩ = some (.int .i64 x.shift) ∧ w.cell? ⟨B, 1, none⟩ = some (af x.rules) ∧ w.cell? ⟨B, 2, none⟩ = some (.int .i64 x.save) ∧ w.cell? ⟨B, 3, none⟩ = some (af x.format) ∧ w.cell? ⟨B, 4, none⟩ = some (.bool x.opn) ∧ w.cell? ⟨B, 5, none⟩ = some (.int .i64 x.uy) ∧ w.cell? ⟨B, 6, none⟩ = some (.int .i64 x.um) ∧ w.cell? ⟨B, 7, none⟩ = some (.int .i64 x.ud) ∧ w.cell? ⟨B, 8, none⟩ = some (.int .i64 x.uat) ∧ w.cell? ⟨B, 9, none⟩ = some (.int .i64 x.uclock)
theorem d9 {B : Nat} {x : Sx.Er} {w w' : World} (h : mQ B x w) (hb : Below w.heap.size w w') (hB : B < w.heap.size) : mQ B x w' := by
 obtain ⟨b0, b1, b2, b3, b4, b5, b6, b7, b8, b9⟩ := h
 have e := fun k => hb.cell (p := ⟨B, k, none⟩) hB
 exact ⟨(e 0).trans b0, (e 1).trans b1, (e 2).trans b2, (e 3).trans b3, (e 4).trans b4, (e 5).trans b5, (e 6).trans b6, (e 7).trans b7, (e 8).trans b8, (e 9).trans b9⟩
theorem pq {V w3 : World} {n : Nat} (h : Below (V.drewN n).heap.size (V.drewN n) w3) : Below V.heap.size V w3 := ⟨h.os, h.tape, h.output, h.size, h.block⟩
theorem bq {V w3 : World} (h : Below V.drew.heap.size V.drew w3) : Below V.heap.size V w3 := ⟨h.os, h.tape, h.output, h.size, h.block⟩
theorem tQ {B : Nat} {x : Sx.Er} {w : World} (h : ag w B (ay x)) : mQ B x w :=
 ⟨(aa h 0 rfl).1, (aa h 1 rfl).1, (aa h 2 rfl).1, (aa h 3 rfl).1, (aa h 4 rfl).1, (aa h 5 rfl).1, (aa h 6 rfl).1, (aa h 7 rfl).1, (aa h 8 rfl).1, (aa h 9 rfl).1⟩
theorem Ru (x : Sx.Er) (last : Bool) : Sx.dS x last = Sx.aA id [uE ((x.rules.isEmpty || Sx.aW x.rules) && Sx.cZ x.format) 1, uE (Sx.inB x.shift (-64800) 64800) 3, uE (Sx.inB x.save 0 10800) 3, uE (x.rules.isEmpty || x.save == 0) 1, uE (x.opn == last) 4, Sx.rW x] := by
 have e1 : (x.save == 0) = decide (x.save = 0) := by rw [Bool.eq_iff_iff]; simp
 have e2 : (if x.opn ≠ last then (4 : Int) else Sx.rW x) = if (x.opn == last) = false then 4 else Sx.rW x := by cases x.opn <;> cases last <;> rfl
 unfold Sx.dS
 rw [e2, e1]
 simp only [Sx.aA, id, uE]
 cases (x.rules.isEmpty || Sx.aW x.rules) && Sx.cZ x.format <;> cases Sx.inB x.shift (-64800) 64800 <;> cases Sx.inB x.save 0 10800 <;> cases x.rules.isEmpty || decide (x.save = 0) <;> cases x.opn == last <;> simp
theorem rF (x : Sx.Er) (last : Bool) (m : Int) (w : World) (hr : x.rules.length ≤ maxLen) (hf : x.format.length ≤ maxLen) (hm : w.cell? ⟨0, 0, none⟩ = some (.int .i64 m)) (h0 : 0 < w.heap.size) :
  Calls Tryz.prog 156 #[iF x, .bool last] w fun e w' => e = .returned (.int .i64 (Sx.dS x last)) ∧ Below w.heap.size w w' := by
 rw [Ru]
 have XV := hid (tQ (aC w (ay x) 67))
 have BV := hid ((q4B w.heap.size w).alloc (Nat.le_refl _) (.cells (ay x).toArray 67))
 have HMV : Hid ((w.alloc (.cells (ay x).toArray 67)).cell? ⟨0, 0, none⟩ = some (.int .i64 m)) := (BV.out.cell (p := ⟨0, 0, none⟩) h0).trans hm
 have SV : Hid (w.heap.size < (w.alloc (.cells (ay x).toArray 67)).heap.size) := by show _ < _; simp
 clear hm h0
 have HR := hid hr
 have HF := hid hf
 clear hr hf
 obtain ⟨sh, rl, sv, fm, op, uy, um, ud, ua, uc⟩ := x
 dsimp only at HR HF
 obtain ⟨F, hF⟩ : ∃ F, Sx.cZ fm = F := ⟨_, rfl⟩
 obtain ⟨A1, hA1⟩ : ∃ A, Sx.inB sh (-64800) 64800 = A := ⟨_, rfl⟩
 obtain ⟨A2, hA2⟩ : ∃ A, Sx.inB sv 0 10800 = A := ⟨_, rfl⟩
 obtain ⟨E, hE⟩ : ∃ E, Sx.rW ⟨sh, rl, sv, fm, op, uy, um, ud, ua, uc⟩ = E := ⟨_, rfl⟩
 dsimp only
 rw [hF, hA1, hA2, hE]
 have HFF := hid hF
 have HA1 := hid hA1
 have HA2 := hid hA2
 have HE := hid hE
 clear hF hA1 hA2 hE
 obtain ⟨B, hB⟩ : ∃ B, w.heap.size = B := ⟨_, rfl⟩
 have HB := hid hB
 rw [hB] at XV SV
 obtain ⟨V, hV⟩ : ∃ V, w.alloc (.cells (ay ⟨sh, rl, sv, fm, op, uy, um, ud, ua, uc⟩).toArray 67) = V := ⟨_, rfl⟩
 go_enter Tryz.func156, Tryz.ntmps156
 go_upto_region 1 with fail
 rw [show w.alloc (.cells #[.int .i64 sh, af rl, .int .i64 sv, af fm, .bool op, .int .i64 uy, .int .i64 um, .int .i64 ud, .int .i64 ua, .int .i64 uc] 67) = V from hV]
 try rw [hB]
 rw [hV] at XV BV HMV SV
 clear hB hV
 cases hr : rl.isEmpty
 case true =>
  obtain rfl : rl = [] := List.isEmpty_iff.1 hr
  clear hr
  have SS : mQ B ⟨sh, [], sv, fm, op, uy, um, ud, ua, uc⟩ V.drew := XV.out
  have HMD : V.drew.cell? ⟨0, 0, none⟩ = some (.int .i64 m) := HMV.out
  have SD : B < V.drew.heap.size := SV.out
  refine wp_region_held_drew (S := fun w' => mQ B ⟨sh, [], sv, fm, op, uy, um, ud, ua, uc⟩ w') (by kernel_rfl) SS (fun hHeld => ?_)
  refine tkB 0 rfl ?_
  refine tkB 1 rfl ?_
  refine tkB 2 rfl ?_
  refine tkB 3 rfl ?_
  refine tkD 4 rfl ?_
  refine tkD 5 rfl ?_
  refine tkD 6 rfl ?_
  refine tkB 7 rfl ?_
  refine tkB 8 rfl ?_
  refine tkB 9 rfl ?_
  refine tkB 10 rfl ?_
  refine tkB 14 rfl ?_
  refine tkB 15 rfl ?_
  refine tkB 18 rfl ?_
  refine tkB 19 rfl ?_
  refine tkB 22 rfl ?_
  refine tkB 23 rfl ?_
  refine tkB 24 rfl ?_
  refine tkB 31 rfl ?_
  refine tkB 32 rfl ?_
  refine tkB 33 rfl ?_
  refine tkB 34 rfl ?_
  refine tkB 36 rfl ?_
  refine rdH 11 rfl fun K hK => ?_
  go_simp
  refine (zJ fm m _ HF.out HMD HFF.out).mono ?_
  rintro e w2 ⟨rfl, nf, rfl⟩
  refine hK.out _ _ ?_ (fun hHeld => ?_)
  ·exact hHeld
  clear hK K
  try simp only [Act.put, j]
  refine tkB 12 rfl ?_
  refine rdH 13 rfl fun K hK => ?_
  go_simp
  refine (aD _ _ _).mono ?_
  rintro e w2 ⟨rfl, rfl⟩
  refine hK.out _ _ ?_ (fun hHeld => ?_)
  ·exact hHeld
  clear hK K
  try simp only [Act.put, j]
  refine rdH 16 rfl fun K hK => ?_
  go_simp
  refine (bi sh (-64800) 64800 _ HA1.out).mono ?_
  rintro e w2 ⟨rfl, rfl⟩
  refine hK.out _ _ ?_ (fun hHeld => ?_)
  ·exact hHeld
  clear hK K
  try simp only [Act.put, j]
  refine rdH 17 rfl fun K hK => ?_
  go_simp
  refine (aD _ _ _).mono ?_
  rintro e w2 ⟨rfl, rfl⟩
  refine hK.out _ _ ?_ (fun hHeld => ?_)
  ·exact hHeld
  clear hK K
  try simp only [Act.put, j]
  refine rdH 20 rfl fun K hK => ?_
  go_simp
  refine (bi sv 0 10800 _ HA2.out).mono ?_
  rintro e w2 ⟨rfl, rfl⟩
  refine hK.out _ _ ?_ (fun hHeld => ?_)
  ·exact hHeld
  clear hK K
  try simp only [Act.put, j]
  refine rdH 21 rfl fun K hK => ?_
  go_simp
  refine (aD _ _ _).mono ?_
  rintro e w2 ⟨rfl, rfl⟩
  refine hK.out _ _ ?_ (fun hHeld => ?_)
  ·exact hHeld
  clear hK K
  try simp only [Act.put, j]
  refine tkB 25 rfl ?_
  refine tkD 26 rfl ?_
  refine tkD 27 rfl ?_
  refine tkD 28 rfl ?_
  refine tkB 29 rfl ?_
  refine rdH 30 rfl fun K hK => ?_
  go_simp
  refine (aD _ _ _).mono ?_
  rintro e w2 ⟨rfl, rfl⟩
  refine hK.out _ _ ?_ (fun hHeld => ?_)
  ·exact hHeld
  clear hK K
  try simp only [Act.put, j]
  refine rdH 35 rfl fun K hK => ?_
  go_simp
  refine (aD _ _ _).mono ?_
  rintro e w2 ⟨rfl, rfl⟩
  refine hK.out _ _ ?_ (fun hHeld => ?_)
  ·exact hHeld
  clear hK K
  try simp only [Act.put, j]
  refine rdH 37 rfl fun K hK => ?_
  go_simp
  refine (mJ ⟨sh, [], sv, fm, op, uy, um, ud, ua, uc⟩ _).mono ?_
  rintro e w3 ⟨rfl, hb3⟩
  rw [HE.out]
  have S3 : mQ B ⟨sh, [], sv, fm, op, uy, um, ud, ua, uc⟩ w3 := d9 hHeld hb3 SD
  have BB : Hid (Below V.heap.size V w3) := by first | exact pq hb3 | exact bq hb3
  have S4 : B < w3.heap.size := q4N SD hb3.size
  have CN := hid (aC w3 ([uE F 1, uE A1 3, uE A2 3, uE true 1, uE (op == last) 4, E].map (Value.int .i64)) 28)
  clear hb3
  refine hK.out _ _ ?_ (fun hHeld => ?_)
  ·exact S3
  clear hK K
  try simp only [Act.put, j]
  refine rdH 38 rfl fun K hK => ?_
  go_simp
  refine hK.out _ _ ?_ (fun hHeld => ?_)
  ·exact d9 S3 ((q4B _ _).alloc (Nat.le_refl _) _) S4
  clear hK K
  try simp only [Act.put, j]
  refine rdH 39 rfl fun K hK => ?_
  go_simp
  refine (jX [uE F 1, uE A1 3, uE A2 3, uE true 1, uE (op == last) 4, E] w3.heap.size 6 _ CN.out (by simp)).mono ?_
  rintro e w2 ⟨rfl, rfl⟩
  refine hK.out _ _ ?_ (fun hHeld => ?_)
  ·exact hHeld
  clear hK K
  try simp only [Act.put, j]
  refine tkB 40 rfl ?_
  refine wpAnyH_done (by kernel_rfl) ?_ _
  have BF : Below w.heap.size w (w3.alloc (.cells ([uE F 1, uE A1 3, uE A2 3, uE true 1, uE (op == last) 4, E].map (Value.int .i64)).toArray 28)) := BV.out.trans ((BB.out.alloc BB.out.size _).mono BV.out.size)
  go_wp2
  go_ret
  exact ⟨ai (by simp []), BF⟩
 case false =>
  cases hN : Sx.aW rl
  case true =>
   have HN := hid hN
   clear hN
   have SS : mQ B ⟨sh, rl, sv, fm, op, uy, um, ud, ua, uc⟩ V.drew := XV.out
   have HMD : V.drew.cell? ⟨0, 0, none⟩ = some (.int .i64 m) := HMV.out
   have SD : B < V.drew.heap.size := SV.out
   refine wp_region_held_drew (S := fun w' => mQ B ⟨sh, rl, sv, fm, op, uy, um, ud, ua, uc⟩ w') (by kernel_rfl) SS (fun hHeld => ?_)
   refine tkB 0 rfl ?_
   refine tkB 1 rfl ?_
   refine tkB 2 rfl ?_
   refine tkB 3 rfl ?_
   refine tkB 4 rfl ?_
   refine tkB 5 rfl ?_
   refine tkB 14 rfl ?_
   refine tkB 15 rfl ?_
   refine tkB 18 rfl ?_
   refine tkB 19 rfl ?_
   refine tkB 22 rfl ?_
   refine tkB 23 rfl ?_
   refine tkB 24 rfl ?_
   refine tkB 31 rfl ?_
   refine tkB 32 rfl ?_
   refine tkB 33 rfl ?_
   refine tkB 34 rfl ?_
   refine tkB 36 rfl ?_
   refine rdH 6 rfl fun K hK => ?_
   go_simp
   refine (fO rl _ HR.out HN.out).mono ?_
   rintro e w2 ⟨rfl, rfl⟩
   refine hK.out _ _ ?_ (fun hHeld => ?_)
   ·exact hHeld
   clear hK K
   try simp only [Act.put, j]
   refine tkB 7 rfl ?_
   refine tkB 8 rfl ?_
   refine tkB 9 rfl ?_
   refine tkB 10 rfl ?_
   refine rdH 11 rfl fun K hK => ?_
   go_simp
   refine (zJ fm m _ HF.out HMD HFF.out).mono ?_
   rintro e w2 ⟨rfl, nf, rfl⟩
   refine hK.out _ _ ?_ (fun hHeld => ?_)
   ·exact hHeld
   clear hK K
   try simp only [Act.put, j]
   refine tkB 12 rfl ?_
   refine rdH 13 rfl fun K hK => ?_
   go_simp
   refine (aD _ _ _).mono ?_
   rintro e w2 ⟨rfl, rfl⟩
   refine hK.out _ _ ?_ (fun hHeld => ?_)
   ·exact hHeld
   clear hK K
   try simp only [Act.put, j]
   refine rdH 16 rfl fun K hK => ?_
   go_simp
   refine (bi sh (-64800) 64800 _ HA1.out).mono ?_
   rintro e w2 ⟨rfl, rfl⟩
   refine hK.out _ _ ?_ (fun hHeld => ?_)
   ·exact hHeld
   clear hK K
   try simp only [Act.put, j]
   refine rdH 17 rfl fun K hK => ?_
   go_simp
   refine (aD _ _ _).mono ?_
   rintro e w2 ⟨rfl, rfl⟩
   refine hK.out _ _ ?_ (fun hHeld => ?_)
   ·exact hHeld
   clear hK K
   try simp only [Act.put, j]
   refine rdH 20 rfl fun K hK => ?_
   go_simp
   refine (bi sv 0 10800 _ HA2.out).mono ?_
   rintro e w2 ⟨rfl, rfl⟩
   refine hK.out _ _ ?_ (fun hHeld => ?_)
   ·exact hHeld
   clear hK K
   try simp only [Act.put, j]
   refine rdH 21 rfl fun K hK => ?_
   go_simp
   refine (aD _ _ _).mono ?_
   rintro e w2 ⟨rfl, rfl⟩
   refine hK.out _ _ ?_ (fun hHeld => ?_)
   ·exact hHeld
   clear hK K
   try simp only [Act.put, j]
   refine tkB 25 rfl ?_
   refine tkB 26 rfl ?_
   refine tkB 27 rfl ?_
   refine tkB 28 rfl ?_
   refine tkB 29 rfl ?_
   refine rdH 30 rfl fun K hK => ?_
   go_simp
   refine (aD _ _ _).mono ?_
   rintro e w2 ⟨rfl, rfl⟩
   refine hK.out _ _ ?_ (fun hHeld => ?_)
   ·exact hHeld
   clear hK K
   try simp only [Act.put, j]
   refine rdH 35 rfl fun K hK => ?_
   go_simp
   refine (aD _ _ _).mono ?_
   rintro e w2 ⟨rfl, rfl⟩
   refine hK.out _ _ ?_ (fun hHeld => ?_)
   ·exact hHeld
   clear hK K
   try simp only [Act.put, j]
   refine rdH 37 rfl fun K hK => ?_
   go_simp
   refine (mJ ⟨sh, rl, sv, fm, op, uy, um, ud, ua, uc⟩ _).mono ?_
   rintro e w3 ⟨rfl, hb3⟩
   rw [HE.out]
   have S3 : mQ B ⟨sh, rl, sv, fm, op, uy, um, ud, ua, uc⟩ w3 := d9 hHeld hb3 SD
   have BB : Hid (Below V.heap.size V w3) := by first | exact pq hb3 | exact bq hb3
   have S4 : B < w3.heap.size := q4N SD hb3.size
   have CN := hid (aC w3 ([uE F 1, uE A1 3, uE A2 3, uE (sv == 0) 1, uE (op == last) 4, E].map (Value.int .i64)) 28)
   clear hb3
   refine hK.out _ _ ?_ (fun hHeld => ?_)
   ·exact S3
   clear hK K
   try simp only [Act.put, j]
   refine rdH 38 rfl fun K hK => ?_
   go_simp
   refine hK.out _ _ ?_ (fun hHeld => ?_)
   ·exact d9 S3 ((q4B _ _).alloc (Nat.le_refl _) _) S4
   clear hK K
   try simp only [Act.put, j]
   refine rdH 39 rfl fun K hK => ?_
   go_simp
   refine (jX [uE F 1, uE A1 3, uE A2 3, uE (sv == 0) 1, uE (op == last) 4, E] w3.heap.size 6 _ CN.out (by simp)).mono ?_
   rintro e w2 ⟨rfl, rfl⟩
   refine hK.out _ _ ?_ (fun hHeld => ?_)
   ·exact hHeld
   clear hK K
   try simp only [Act.put, j]
   refine tkB 40 rfl ?_
   refine wpAnyH_done (by kernel_rfl) ?_ _
   have BF : Below w.heap.size w (w3.alloc (.cells ([uE F 1, uE A1 3, uE A2 3, uE (sv == 0) 1, uE (op == last) 4, E].map (Value.int .i64)).toArray 28)) := BV.out.trans ((BB.out.alloc BB.out.size _).mono BV.out.size)
   go_wp2
   go_ret
   exact ⟨ai (by simp [hr, HN.out]), BF⟩
  case false =>
   have HN := hid hN
   clear hN
   have SS : mQ B ⟨sh, rl, sv, fm, op, uy, um, ud, ua, uc⟩ V.drew := XV.out
   have HMD : V.drew.cell? ⟨0, 0, none⟩ = some (.int .i64 m) := HMV.out
   have SD : B < V.drew.heap.size := SV.out
   refine wp_region_held_drew (S := fun w' => mQ B ⟨sh, rl, sv, fm, op, uy, um, ud, ua, uc⟩ w') (by kernel_rfl) SS (fun hHeld => ?_)
   refine tkB 0 rfl ?_
   refine tkB 1 rfl ?_
   refine tkB 2 rfl ?_
   refine tkB 3 rfl ?_
   refine tkB 4 rfl ?_
   refine tkB 5 rfl ?_
   refine tkB 14 rfl ?_
   refine tkB 15 rfl ?_
   refine tkB 18 rfl ?_
   refine tkB 19 rfl ?_
   refine tkB 22 rfl ?_
   refine tkB 23 rfl ?_
   refine tkB 24 rfl ?_
   refine tkB 31 rfl ?_
   refine tkB 32 rfl ?_
   refine tkB 33 rfl ?_
   refine tkB 34 rfl ?_
   refine tkB 36 rfl ?_
   refine rdH 6 rfl fun K hK => ?_
   go_simp
   refine (fO rl _ HR.out HN.out).mono ?_
   rintro e w2 ⟨rfl, rfl⟩
   refine hK.out _ _ ?_ (fun hHeld => ?_)
   ·exact hHeld
   clear hK K
   try simp only [Act.put, j]
   refine tkB 7 rfl ?_
   refine tkB 8 rfl ?_
   refine tkD 9 rfl ?_
   refine tkD 10 rfl ?_
   refine tkD 11 rfl ?_
   refine tkB 12 rfl ?_
   refine rdH 13 rfl fun K hK => ?_
   go_simp
   refine (aD _ _ _).mono ?_
   rintro e w2 ⟨rfl, rfl⟩
   refine hK.out _ _ ?_ (fun hHeld => ?_)
   ·exact hHeld
   clear hK K
   try simp only [Act.put, j]
   refine rdH 16 rfl fun K hK => ?_
   go_simp
   refine (bi sh (-64800) 64800 _ HA1.out).mono ?_
   rintro e w2 ⟨rfl, rfl⟩
   refine hK.out _ _ ?_ (fun hHeld => ?_)
   ·exact hHeld
   clear hK K
   try simp only [Act.put, j]
   refine rdH 17 rfl fun K hK => ?_
   go_simp
   refine (aD _ _ _).mono ?_
   rintro e w2 ⟨rfl, rfl⟩
   refine hK.out _ _ ?_ (fun hHeld => ?_)
   ·exact hHeld
   clear hK K
   try simp only [Act.put, j]
   refine rdH 20 rfl fun K hK => ?_
   go_simp
   refine (bi sv 0 10800 _ HA2.out).mono ?_
   rintro e w2 ⟨rfl, rfl⟩
   refine hK.out _ _ ?_ (fun hHeld => ?_)
   ·exact hHeld
   clear hK K
   try simp only [Act.put, j]
   refine rdH 21 rfl fun K hK => ?_
   go_simp
   refine (aD _ _ _).mono ?_
   rintro e w2 ⟨rfl, rfl⟩
   refine hK.out _ _ ?_ (fun hHeld => ?_)
   ·exact hHeld
   clear hK K
   try simp only [Act.put, j]
   refine tkB 25 rfl ?_
   refine tkB 26 rfl ?_
   refine tkB 27 rfl ?_
   refine tkB 28 rfl ?_
   refine tkB 29 rfl ?_
   refine rdH 30 rfl fun K hK => ?_
   go_simp
   refine (aD _ _ _).mono ?_
   rintro e w2 ⟨rfl, rfl⟩
   refine hK.out _ _ ?_ (fun hHeld => ?_)
   ·exact hHeld
   clear hK K
   try simp only [Act.put, j]
   refine rdH 35 rfl fun K hK => ?_
   go_simp
   refine (aD _ _ _).mono ?_
   rintro e w2 ⟨rfl, rfl⟩
   refine hK.out _ _ ?_ (fun hHeld => ?_)
   ·exact hHeld
   clear hK K
   try simp only [Act.put, j]
   refine rdH 37 rfl fun K hK => ?_
   go_simp
   refine (mJ ⟨sh, rl, sv, fm, op, uy, um, ud, ua, uc⟩ _).mono ?_
   rintro e w3 ⟨rfl, hb3⟩
   rw [HE.out]
   have S3 : mQ B ⟨sh, rl, sv, fm, op, uy, um, ud, ua, uc⟩ w3 := d9 hHeld hb3 SD
   have BB : Hid (Below V.heap.size V w3) := by first | exact pq hb3 | exact bq hb3
   have S4 : B < w3.heap.size := q4N SD hb3.size
   have CN := hid (aC w3 ([uE false 1, uE A1 3, uE A2 3, uE (sv == 0) 1, uE (op == last) 4, E].map (Value.int .i64)) 28)
   clear hb3
   refine hK.out _ _ ?_ (fun hHeld => ?_)
   ·exact S3
   clear hK K
   try simp only [Act.put, j]
   refine rdH 38 rfl fun K hK => ?_
   go_simp
   refine hK.out _ _ ?_ (fun hHeld => ?_)
   ·exact d9 S3 ((q4B _ _).alloc (Nat.le_refl _) _) S4
   clear hK K
   try simp only [Act.put, j]
   refine rdH 39 rfl fun K hK => ?_
   go_simp
   refine (jX [uE false 1, uE A1 3, uE A2 3, uE (sv == 0) 1, uE (op == last) 4, E] w3.heap.size 6 _ CN.out (by simp)).mono ?_
   rintro e w2 ⟨rfl, rfl⟩
   refine hK.out _ _ ?_ (fun hHeld => ?_)
   ·exact hHeld
   clear hK K
   try simp only [Act.put, j]
   refine tkB 40 rfl ?_
   refine wpAnyH_done (by kernel_rfl) ?_ _
   have BF : Below w.heap.size w (w3.alloc (.cells ([uE false 1, uE A1 3, uE A2 3, uE (sv == 0) 1, uE (op == last) 4, E].map (Value.int .i64)).toArray 28)) := BV.out.trans ((BB.out.alloc BB.out.size _).mono BV.out.size)
   go_wp2
   go_ret
   exact ⟨ai (by simp [hr, HN.out]), BF⟩
end
end Go.Proofs.YtkhlkohlccndgaaGreat
