/- Part of the proof: Tr RtY ItK Rg Rh Fm Pl ShK Fs ZeA ZeB ZeC ZeD ItT St. -/
import Derived.Test.YtkhlkohlccndgaaGreatQz
import Derived.Test.YtkhlkohlccndgaaGreatQah
import Derived.RangeFuncNested
import Derived.RangeFuncBound
import Derived.RangeFuncCalls
import Derived.RangeFuncLeaves
import Derived.Shelf.Abstract
import Derived.Shelf.RegionOpen
import Derived.WalkKit
import Derived.OwnWalkIn
import Derived.TacticsInMore
import Derived.LoopNIn
import Derived.LoopIn
import Derived.Test.YtkhlkohlccndgaaGreatQaa
import Derived.Lib.IndexMore
import Derived.Shelf.Strings.Cut
import Derived.Test.YtkhlkohlccndgaaGreatProg
import Derived.Test.YtkhlkohlccndgaaGreatQae
import Derived.Test.YtkhlkohlccndgaaGreatQab
set_option linter.unusedVariables false
set_option linter.unusedSimpArgs false
set_option maxRecDepth 100000
set_option maxHeartbeats 16000000
namespace Go.Proofs.YtkhlkohlccndgaaGreat
section
open Go.RowKit

def cZ (t : Sx.Tn) : List Value := [.int .i64 t.stands, .int .i64 t.clock, .int .i64 t.save, ag t.letter]
abbrev wG (t : Sx.Tn) : Value := .agg #[.int .i64 t.stands, .int .i64 t.clock, .int .i64 t.save, ag t.letter]
abbrev nJ (p t : Sx.Tn) : Value := .agg #[.int .i64 p.stands, .int .i64 p.clock, .int .i64 p.save, ag p.letter, .int .i64 t.stands, .int .i64 t.clock, .int .i64 t.save, ag t.letter]
def jq (t : Sx.Tm) : List Value := [.int .i64 t.at_, .int .i64 t.save, ag t.letter]
abbrev iO (t : Sx.Tm) : Value := .agg #[.int .i64 t.at_, .int .i64 t.save, ag t.letter]

theorem Ej (r : Sx.Rl) (y : Int) (w : World) (ho : Cv.onE y r.month r.kind r.wk r.n = 0) (h1 : 0 ≤ r.at_) (h2 : r.at_ ≤ 172800) :
  Calls Tryz.prog 128 #[nG r, .int .i64 y] w fun e w' => e = .returned (wG (Sx.mo r y)) ∧ Below w.heap.size w w' := by
 obtain ⟨_, _, _, _, t1, t2⟩ := Cv.qE ho
 have HO := hid ho
 have ET : Hid (Sx.mo r y = ⟨Cv.tgt y r.month r.kind r.wk r.n * 86400 + r.at_, r.clock, r.save, r.letter⟩) := rfl
 obtain ⟨D, hD⟩ : ∃ D, Cv.tgt y r.month r.kind r.wk r.n = D := ⟨_, rfl⟩
 rw [hD] at ET t1 t2
 have HD := hid hD
 clear ho hD
 have XV := hid (aM (aD w (ah r) 40) (.cells #[.int .i64 0, .int .i64 0, .int .i64 0, .string ⟨#[]⟩] 120))
 have TV : Hid (ak ((w.alloc (.cells (ah r).toArray 40)).alloc (.cells #[.int .i64 0, .int .i64 0, .int .i64 0, .string ⟨#[]⟩] 120)) (w.heap.size + 1) [.int .i64 0, .int .i64 0, .int .i64 0, .string ⟨#[]⟩]) := by
  have := aD (w.alloc (.cells (ah r).toArray 40)) [.int .i64 0, .int .i64 0, .int .i64 0, .string ⟨#[]⟩] 120
  rw [World.size_alloc] at this
  exact this
 have BV := hid (((q4B w.heap.size w).alloc (Nat.le_refl _) (.cells (ah r).toArray 40)).alloc (by simp) (.cells #[.int .i64 0, .int .i64 0, .int .i64 0, .string ⟨#[]⟩] 120))
 go_enter Tryz.func128, Tryz.ntmps128
 go_wp2_with fail
 refine (EO _ _ _ _ _ _ HO.out).mono ?_
 rintro e w1 ⟨a, b, d, rfl, hv, hnum, hb⟩
 have X1 := hid (aM (ai XV.out hb) (.cells #[.int .i64 a, .int .i64 b, .int .i64 d] 63))
 have T1 := hid (aM (ai TV.out hb) (.cells #[.int .i64 a, .int .i64 b, .int .i64 d] 63))
 have B0 : Below w.heap.size w w1 := BV.out.trans (hb.mono BV.out.size)
 have B1 := hid (B0.alloc B0.size (.cells #[.int .i64 a, .int .i64 b, .int .i64 d] 63))
 have HV := hid hv
 have HN : Hid (Cv.num a b d = D) := by show _ = _; rw [hnum]; exact HD.out
 clear hb XV TV BV B0 hv hnum
 go_wp2_with fail
 refine (uM _ _ _ _ HV.out).mono ?_
 rintro e w2 ⟨rfl, hb⟩
 have X2 := hid (ai X1.out hb)
 have T2 := hid (ai T1.out hb)
 have B2 : Hid (Below w.heap.size w w2) := B1.out.trans (hb.mono B1.out.size)
 rw [HN.out]
 clear hb X1 T1 B1
 obtain ⟨x7, _⟩ := aa X2.out 7 rfl
 obtain ⟨x8, _⟩ := aa X2.out 8 rfl
 obtain ⟨x9, _⟩ := aa X2.out 9 rfl
 obtain ⟨x10, _⟩ := aa X2.out 10 rfl
 obtain ⟨⟨t0, tf0⟩, ⟨t1', tf1⟩, ⟨t2', tf2⟩, ⟨t3', tf3⟩, -⟩ := cp4 T2.out
 have sx := X2.out.1
 have st := T2.out.1
 go_wp2
 refine bodyPost_ret (v := wG ⟨D * 86400 + r.at_, r.clock, r.save, r.letter⟩) (by simp [results, Tryz.results128, go_sem, *]) rfl ⟨by rw [ET.out], ?_⟩
 exact aO (aO (aO (aO B2.out (Nat.le_succ _) _) (Nat.le_succ _) _) (Nat.le_succ _) _) (Nat.le_succ _) _

theorem Cg (p t : Sx.Tn) (shift : Int) (w : World) (h1 : -64800 ≤ shift) (h2 : shift ≤ 64800) (s1 : 0 ≤ p.save) (s2 : p.save ≤ 10800) (b1 : -1000000000000 ≤ t.stands) (b2 : t.stands ≤ 1000000000000) :
  Calls Tryz.prog 69 #[nJ p t, .int .i64 shift] w fun e w' => e = .returned (iO (Sx.rO shift p.save t)) ∧ Below w.heap.size w w' := by
 obtain ⟨A, hA⟩ : ∃ A, (Sx.rO shift p.save t).at_ = A := ⟨_, rfl⟩
 have HA : Hid (A = (if t.clock = 3 then t.stands else t.stands - shift) - (if t.clock = 1 then p.save else 0)) := by show _ = _; rw [← hA]; rfl
 have ET : Hid (Sx.rO shift p.save t = ⟨A, t.save, t.letter⟩) := by show _ = _; rw [← hA]; rfl
 clear hA
 by_cases c3 : t.clock = 3
 ·have n3 : (t.clock != 3) = false := by simp [c3]
  have n1 : (t.clock == 1) = false := by simp [c3]
  have HA2 : Hid (t.stands = A) := by show _ = _; rw [HA.out]; simp [c3]
  clear c3
  go_enter Tryz.func69, Tryz.ntmps69
  go_wp2
  rw [HA2.out]
  refine bodyPost_ret (v := iO ⟨A, t.save, t.letter⟩) (by simp [results, Tryz.results69, go_sem, *]) rfl ⟨by rw [ET.out], ?_⟩
  repeat (first | exact q4B _ _ | refine Below.alloc ?_ (by simp) _)
 have n3 : (t.clock != 3) = true := by simp [c3]
 by_cases c1 : t.clock = 1
 ·have n1 : (t.clock == 1) = true := by simp [c1]
  have HA2 : Hid (t.stands - shift - p.save = A) := by show _ = _; rw [HA.out]; simp [c1]
  clear c1 c3
  go_enter Tryz.func69, Tryz.ntmps69
  go_wp2
  rw [HA2.out]
  refine bodyPost_ret (v := iO ⟨A, t.save, t.letter⟩) (by simp [results, Tryz.results69, go_sem, *]) rfl ⟨by rw [ET.out], ?_⟩
  repeat (first | exact q4B _ _ | refine Below.alloc ?_ (by simp) _)
 ·have n1 : (t.clock == 1) = false := by simp [c1]
  have HA2 : Hid (t.stands - shift = A) := by show _ = _; rw [HA.out]; simp [c1, c3]
  clear c1 c3
  go_enter Tryz.func69, Tryz.ntmps69
  go_wp2
  rw [HA2.out]
  refine bodyPost_ret (v := iO ⟨A, t.save, t.letter⟩) (by simp [results, Tryz.results69, go_sem, *]) rfl ⟨by rw [ET.out], ?_⟩
  repeat (first | exact q4B _ _ | refine Below.alloc ?_ (by simp) _)

theorem EM (n : Int) (w : World) : Calls Tryz.prog 174 #[.int .i64 n] w fun e w' => e = .returned (.bool false) ∧ w' = w := by
 go_enter Tryz.func174, Tryz.ntmps174
 go_wp2
 go_ret
 exact ⟨by simp, rfl⟩
def H9 (a b : Int) : Int := if a < b then -1 else if b < a then 1 else 0
theorem Am (a b : Int) (w : World) : Calls Tryz.prog 126 #[.int .i64 a, .int .i64 b] w fun e w' => e = .returned (.int .i64 (H9 a b)) ∧ w' = w := by
 by_cases h1 : a < b
 ·go_enter Tryz.func126, Tryz.ntmps126
  go_wp2_with (go_at_call 174; refine (EM _ _).mono ?_; rintro e w1 ⟨rfl, rfl⟩)
  go_ret
  exact ⟨ay (by simp [H9, h1]), rfl⟩
 ·by_cases h2 : b < a
  all_goals
   go_enter Tryz.func126, Tryz.ntmps126
   go_wp2_with (go_at_call 174; refine (EM _ _).mono ?_; rintro e w1 ⟨rfl, rfl⟩)
   go_ret
   exact ⟨ay (by unfold H9; (repeat split) <;> omega), rfl⟩
end
namespace Sx

structure jw (r : Rl) : Prop where
 frm : 1900 ≤ r.frm
 le : r.frm ≤ r.to
 «to» : r.to ≤ 2100
 month : 1 ≤ r.month ∧ r.month ≤ 12
 on : Cv.onE 2001 r.month r.kind r.wk r.n = 0
 at_ : 0 ≤ r.at_ ∧ r.at_ ≤ 172800
 clock : 1 ≤ r.clock ∧ r.clock ≤ 3
 save : 0 ≤ r.save ∧ r.save ≤ 10800
theorem EY {r : Rl} (h : dI r = 0) : jw r := by
 unfold dI at h
 split at h
 ·omega
 split at h
 ·omega
 rename_i h2
 split at h
 ·omega
 rename_i h3
 split at h
 ·rename_i h4; exact absurd h h4
 rename_i h4
 split at h
 ·omega
 rename_i h5
 split at h
 ·omega
 rename_i h6
 split at h
 ·omega
 rename_i h7
 simp [inB] at h2 h3 h5 h6 h7 h4
 exact ⟨by omega, by omega, by omega, by omega, h4, by omega, by omega, by omega⟩
theorem CQ (y m : Int) : Cv.dim 2001 m ≤ Cv.dim y m := by
 have h : Cv.lpB 2001 = false := by decide
 unfold Cv.dim
 split
 ·omega
 ·split
  ·rw [h, if_neg (by decide)]; split <;> omega
  ·omega
theorem Ie {y : Int} (h1 : 1900 ≤ y) (h2 : y ≤ 2100) : 693000 ≤ Cv.dby y ∧ Cv.dby y ≤ 767000 := by
 have a := Cv.rA 1900 y h1
 have b := Cv.rA y 2100 h2
 have e1 : Cv.dby 1900 = 693595 := by decide
 have e2 : Cv.dby 2100 = 766644 := by decide
 omega
theorem Jc {y m : Int} (h1 : 1900 ≤ y) (h2 : y ≤ 2100) (m1 : 1 ≤ m) (m2 : m ≤ 12) : -30000 ≤ Cv.num y m 1 ∧ Cv.num y m 1 ≤ 50000 := by
 have a := Ie h1 h2
 have b := Cv.yP y m m1 (by omega)
 unfold Cv.num
 omega
theorem JB {y m k wk n : Int} (h1 : 1900 ≤ y) (h2 : y ≤ 2100) (m1 : 1 ≤ m) (m2 : m ≤ 12) (hf : Cv.kQ k wk n (Cv.dim y m) = true) : -40000 ≤ Cv.tgt y m k wk n ∧ Cv.tgt y m k wk n ≤ 60000 := by
 have a := Jc h1 h2 m1 m2
 have d := Cv.jX y m
 obtain ⟨w1, w2, f⟩ := Cv.jK.1 hf
 unfold Cv.tgt
 split
 ·have := Cv.Ff (Cv.num y m 1 + Cv.dim y m - 1) wk w1 w2; omega
 split
 ·have := Cv.Ld (Cv.num y m 1 + n - 1) wk w1 w2; omega
 split
 ·have := Cv.Ff (Cv.num y m 1 + n - 1) wk w1 w2; omega
 ·omega
theorem EQ {r : Rl} (h : jw r) {y : Int} (h1 : 1900 ≤ y) (h2 : y ≤ 2100) : Cv.onE y r.month r.kind r.wk r.n = 0 ∧ -40000 ≤ Cv.tgt y r.month r.kind r.wk r.n ∧ Cv.tgt y r.month r.kind r.wk r.n ≤ 60000 := by
 obtain ⟨_, k1, k2, f, _, _⟩ := Cv.qE h.on
 have m := h.month
 have hd := CQ y r.month
 obtain ⟨w1, w2, f⟩ := Cv.jK.1 f
 have f' : Cv.kQ r.kind r.wk r.n (Cv.dim y r.month) = true := Cv.jK.2 ⟨w1, w2, by rcases f with f | ⟨a, b, c, d⟩
                                                                                  ·exact .inl f
                                                                                  ·exact .inr ⟨a, b, c, by omega⟩⟩
 have t := JB h1 h2 m.1 m.2 f'
 refine ⟨?_, t⟩
 unfold Cv.onE
 rw [if_neg (by rw [Cv.eO.2 (by omega)]; decide), if_neg (by omega), if_neg (by rw [f']; decide), if_neg (by omega)]
theorem ji {α : Type} (f : α → Int) : ∀ {l : List α}, az f l = 0 → ∀ x ∈ l, f x = 0
 | [], _ => by simp
 | a :: r, h => by
   unfold az at h
   split at h
   ·rename_i q; exact absurd h q
   ·rename_i q
    intro x hx
    rcases List.mem_cons.1 hx with rfl | hx
    ·simpa using q
    ·exact ji f h x hx
/- what was turned rule by rule -/
theorem Aa (rs : List Rl) (r : Rl) (name : Tx.Bs) : turnsOf (rs ++ [r]) name = turnsOf rs name ++ (if (r.name == name) = true then mr r else []) := by
 unfold turnsOf
 rw [List.filter_append, List.flatMap_append]
 congr 1
 cases q : (r.name == name) <;> simp [q]
theorem mq {rs : List Rl} {name : Tx.Bs} {i : Nat} {r : Rl} (h : rs[i]? = some r) : turnsOf (rs.take (i + 1)) name = turnsOf (rs.take i) name ++ (if (r.name == name) = true then mr r else []) := by
 have hi := (q4L.1 h).1
 rw [List.take_succ_eq_append_getElem hi, (q4L.1 h).2]
 exact Aa _ _ _
def gN (r : Rl) (k : Nat) : List Tn := (List.range k).map fun (j : Nat) => mo r (r.frm + (j : Int))
theorem mD (r : Rl) (k : Nat) : gN r (k + 1) = gN r k ++ [mo r (r.frm + (k : Int))] := by simp [gN, List.range_succ]
theorem tN (r : Rl) : gN r (many r) = mr r := rfl
end Sx
section
open Go.RowKit Go.Shelf

structure xw (T : TypeId) (Bs : Nat) (W W' : World) : Prop where
 size : W.heap.size ≤ W'.heap.size
 cells : ∀ (k : Nat) (cs : Array Value) (t : TypeId), W.heap[k]? = some (.cells cs t) → t ≠ T → k ≠ Bs → W'.heap[k]? = some (.cells cs t)
theorem zm {T : TypeId} {Bs : Nat} {A B C : World} (h : xw T Bs A B) (k : xw T Bs B C) : xw T Bs A C :=
 ⟨Nat.le_trans h.size k.size, fun i cs t a b c => k.cells i cs t (h.cells i cs t a b c) b c⟩
theorem EJ {T : TypeId} {Bs : Nat} {w : World} (W : World) (l : Nat) (o o' : Obj) (_ : w.heap.size ≤ l) (h : W.heap[l]? = some o) (hc : o.isCells = false) (_ : o.isWalk = false) : xw T Bs W (W.putObj l o') := by
 have hg := grownBy_putObj' W l o'
 refine ⟨hg.size, fun k cs t a _ _ => ?_⟩
 have hk : k < W.heap.size := (q4A.1 a).1
 rw [hg.block k hk (by intro q; cases q; rw [h] at a; cases a; simp [Obj.isCells] at hc)]
 exact a
end
section
open Go.RowKit Go.Shelf

def bX {β : Type} (B : Nat) (I : β → World → Prop) : Prop :=
 ∀ s W W' row, I s W → W.grownBy W' row → (∀ r, row = some r → B ≤ r ∧ (r = B + 2 ∨ ∃ o : Obj, W.heap[r]? = some o ∧ o.isCells = false)) → I s W'
theorem bX.own {β : Type} {B : Nat} {I : β → World → Prop} (h : bX B I) : OwnFrom B I :=
 fun s W W' row hs hg hr => h s W W' row hs hg fun r e => ⟨(hr r e).1, .inr (hr r e).2⟩
theorem bX.and {β : Type} {B : Nat} {I J : β → World → Prop} (h : bX B I) (k : bX B J) : bX B (fun s W => I s W ∧ J s W) :=
 fun s W W' row hs hg hr => ⟨h s W W' row hs.1 hg hr, k s W W' row hs.2 hg hr⟩
theorem eY {β : Type} {n₀ B : Nat} {w₀ : World} (hn : n₀ ≤ w₀.heap.size) (hB : n₀ ≤ B) : bX B (fun (_ : β) W => Below n₀ w₀ W) :=
 fun _ _ _ _ hs hg hr => hs.grown hg (Nat.le_trans hn hs.size) (fun k e => Nat.le_trans hB (hr k e).1)
def tY {β : Type} (B : Nat) (J : β → World → Prop) : Prop :=
 ∀ s W W' row, J s W → W.grownBy W' row → (∀ r, row = some r → B ≤ r ∧ (r = B ∨ ∃ o : Obj, W.heap[r]? = some o ∧ o.isWalk = true)) → J s W'
def SeqC {α : Type} (F : Fence) (n : Nat) (P : Program) (g : Nat) (lb : Array Value) (encs : α → Array Value) (Kp : World → World → Prop) (S Sp : List α → Prop) (w : World) : Prop :=
 ∀ (l : Nat) (J Jx : List α → World → Prop) (W : World), Below w.heap.size w W → tY W.heap.size J → tY W.heap.size Jx →
  (∀ pre x W1, J pre W1 → Sp (pre ++ [x]) → YieldAt F (n - 1) P l (encs x) W1 fun e W' =>
   (e = .returned (.bool true) ∧ J (pre ++ [x]) W' ∧ Kp W1 W') ∨ (e = .returned (.bool false) ∧ Jx (pre ++ [x]) W')) →
  J [] W →
  CallsIn F n P g (#[.func (.yield l) #[] #[]] ++ lb) W fun e W' => (∃ v, e = .returned v) ∧ ((∃ xs, S xs ∧ J xs W') ∨ (∃ pre, Sp pre ∧ Jx pre W'))

theorem gP {α : Type} {F : Fence} {n : Nat} {P : Program} {g : Operand} {ps : Array Tmp} {assign body : Code} {Q : Exit → Act → World → Prop} {a : Act} {w : World}
  (hro : F.round = none) (h1 : 1 ≤ n) {gf : Nat} {lb : Array Value} (hg : a.eval g = .func (.func gf) #[] lb) (hFg : F.fn gf) (eg : ∀ args w, (callFunc gf args).run P w = .ok (.enter gf args) w)
  {encs : α → Array Value} {Kp : World → World → Prop} {S Sp : List α → Prop} {w0 : World} (hseq : SeqC F (n - 1) P gf lb encs Kp S Sp w0)
  (hKt : ∀ {A B C : World}, Kp A B → Kp B C → Kp A C) (hKb : ∀ (W : World) (l : Nat) (o o' : Obj), w.heap.size ≤ l → W.heap[l]? = some o → o.isCells = false → o.isWalk = false → Kp W (W.putObj l o'))
  (hb0 : Below w0.heap.size w0 w) (hps : ∀ x, (encs x).size = ps.size)
  (I : List α → World → Prop) (Ix : Code → List α → World → Prop) (hI : bX w.heap.size I) (hIx : ∀ c, bX w.heap.size (Ix c)) (h0 : I [] w)
  (Ax : α → Act → World → Prop) (hAx : ∀ x a', OwnFrom w.heap.size (fun (_ : Unit) W => Ax x a' W))
  (hassign : ∀ (l : Nat) (pre : List α) (x : α) (W : World) (K : Act → World → Prop), I pre W → w.heap.size + 2 ≤ W.heap.size → (∀ a' W', KeepsFrom w.heap.size W W' → Kp W W' → I pre W' → Ax x a' W' → K a' W') →
   assign.wpIn (F.inRound l) (n - 1 - 1) P (Exit.then K (fun _ _ _ => False)) { tmps := (ps.zip (encs x)).foldl (fun t (p, v) => t.setIfInBounds p v) a.tmps, defers := [] } W)
  (hbody : ∀ (l : Nat) (pre : List α) (x : α) (a' : Act) (W : World), w.heap.size ≤ l → (∃ r, W.heap[l]? = some (.loop r)) → I pre W → Ax x a' W → Sp (pre ++ [x]) → w.heap.size + 2 ≤ W.heap.size →
   body.wpIn (F.inRound l) (n - 1 - 1) P (ownPostG w.heap.size Kp I Ix (pre ++ [x]) W) a' W)
  (hdone : ∀ (D : Nat) (xs : List α) (W : World), w.heap.size ≤ D → S xs → I xs W → W.heap[D]? = some (.deferred (some [])) → Q .normal { a with defers := { target := .collected D, args := #[] } :: a.defers } W)
  (hstop : ∀ (D : Nat) (c : Code) (pre : List α) (W : World), w.heap.size ≤ D → Sp pre → Ix c pre W → W.heap[D]? = some (.deferred (some [])) → c.wpIn F n P Q { a with defers := { target := .collected D, args := #[] } :: a.defers } W) :
  (Code.rangeFunc g ps assign body).wpIn F n P Q a w := by
 refine wpIn_rangeFunc fun fn hfn => ?_
 rw [hro]
 have oI := hI.own
 have oIx := fun c => (hIx c).own
 obtain ⟨D, hD⟩ : ∃ D, w.heap.size = D := ⟨_, rfl⟩
 obtain ⟨rc, hrc⟩ : ∃ rc : LoopState → Option Code → Loop, rc = fun st pe => { state := st, pending := pe, fn, tmps := a.tmps, params := ps, assign, body, defers := D } := ⟨_, rfl⟩
 obtain ⟨V, hV⟩ : ∃ V, (w.alloc (.deferred (some []))).alloc (.loop (rc .ready none)) = V := ⟨_, rfl⟩
 have sV : V.heap.size = D + 2 := by rw [← hV]; simp [hD]
 have vL : V.heap[D + 1]? = some (.loop (rc .ready none)) := by
  have := World.alloc_heap_new (w.alloc (.deferred (some []))) (.loop (rc .ready none))
  rw [World.size_alloc, hD, hV] at this; exact this
 have vD : V.heap[D]? = some (.deferred (some [])) := by
  rw [← hV, Below.heap_alloc _ _ _ (by simp [hD]), ← hD]; exact World.alloc_heap_new w _
 have vI : I [] V := by rw [← hV]; exact oI.alloc _ (oI.alloc _ h0)
 have vB : Below w0.heap.size w0 V := by
  rw [← hV]; exact hb0.trans ((((q4B _ w).alloc (Nat.le_refl _) _).alloc (by simp) _).mono hb0.size)
 rw [hD] at hKb oI oIx hAx hassign hbody hdone hstop hI hIx
 refine ⟨D + 1, [{ target := .collected D, args := #[] }], V, { target := .fn (.func gf) lb, args := #[.func (.yield (D + 1)) #[] #[]] }, V, gf, #[.func (.yield (D + 1)) #[] #[]] ++ lb, V, ?_, ?_, ?_, ?_, fun _ => h1, ?_⟩
 ·rw [← hV, hrc, ← hD]; exact run_enterLoop_outer _ _ _ _ _
 ·simp only [resolve, hg]; simp [go_sem]
 ·intro f' hf'; simp [Target.leads] at hf'; subst hf'; exact hFg
 ·simp [invoke, go_sem, eg]
 /- what stands between two rounds: the caller's own, and the two blocks that the loop laid -/
 have far : ∀ {A B : World} {row : Option Nat} {k : Nat} {o : Obj}, A.grownBy B row → (∀ r, row = some r → V.heap.size ≤ r ∧ (r = V.heap.size ∨ ∃ o : Obj, A.heap[r]? = some o ∧ o.isWalk = true)) → k < D + 2 → A.heap[k]? = some o → B.heap[k]? = some o :=
  fun hg' hr hk ho => (hg'.block _ (q4A.1 ho).1 (fun e => by have := (hr _ e.symm).1; omega)).trans ho
 have near : ∀ {A : World} {row : Option Nat}, (∀ r, row = some r → V.heap.size ≤ r ∧ (r = V.heap.size ∨ ∃ o : Obj, A.heap[r]? = some o ∧ o.isWalk = true)) → ∀ r, row = some r → D ≤ r ∧ (r = D + 2 ∨ ∃ o : Obj, A.heap[r]? = some o ∧ o.isCells = false) :=
  fun hr r e => by
   obtain ⟨q, q2⟩ := hr r e
   refine ⟨by omega, q2.imp (fun h => by omega) (fun ⟨o, ho, hw⟩ => ⟨o, ho, Obj.not_cells_of_walk hw⟩)⟩
 refine (hseq (D + 1)
  (fun pre W => I pre W ∧ W.heap[D + 1]? = some (.loop (rc .ready none)) ∧ W.heap[D]? = some (.deferred (some [])))
  (fun pre W => ∃ c, Ix c pre W ∧ W.heap[D + 1]? = some (.loop (rc .done (some c))) ∧ W.heap[D]? = some (.deferred (some [])))
  V vB
  (fun s A B row hs hg' hr => ⟨hI s A B row hs.1 hg' (near hr), far hg' hr (by omega) hs.2.1, far hg' hr (by omega) hs.2.2⟩)
  (fun s A B row hs hg' hr => by
   obtain ⟨c, hc, hl, hk⟩ := hs
   exact ⟨c, hIx c s A B row hc hg' (near hr), far hg' hr (by omega) hl, far hg' hr (by omega) hk⟩)
  ?_ ⟨vI, vL, vD⟩).mono ?_
 ·rintro pre x W ⟨hi, hl, hk⟩ hlen
  have hlt : D + 1 < W.heap.size := (q4A.1 hl).1
  have hy := run_yield (P := P) (args := encs x) hl (by rw [hrc]; exact hps x)
  rw [hrc] at hy
  refine ⟨fn, _, assign, body, hy, roundIn_of_wpIn hfn (hassign _ pre x W _ hi (by omega) ?_)⟩
  clear hy
  intro a' X kX pX iX aX
  have xl := kX.same _ _ (by omega) hl rfl
  have xk := kX.same _ _ (Nat.le_refl _) hk rfl
  have xs : D + 1 < X.heap.size := (q4A.1 xl).1
  obtain ⟨Y, hY⟩ : ∃ Y, X.putObj (D + 1) (.loop { rc .ready none with state := .busy }) = Y := ⟨_, rfl⟩
  refine ⟨Y, by rw [← hY]; exact run_beginRound xl (by rw [hrc]), ?_⟩
  have yl : Y.heap[D + 1]? = some (.loop { rc .ready none with state := .busy }) := by rw [← hY]; exact World.putObj_heap_same xs
  have yk : Y.heap[D]? = some (.deferred (some [])) := by rw [← hY]; exact (World.putObj_heap_other (by omega)).trans xk
  have ys : D + 1 < Y.heap.size := (q4A.1 yl).1
  have yp : Kp X Y := by rw [← hY]; exact hKb _ _ _ _ (by omega) xl rfl rfl
  have yI : I pre Y := by rw [← hY]; exact oI.putObj _ iX (by omega) xl rfl
  have yA : Ax x a' Y := by rw [← hY]; exact (hAx x a').putObj (s := ()) _ aX (by omega) xl rfl
  refine wpIn_mono (hbody _ pre x a' Y (by omega) ⟨_, yl⟩ yI yA hlen (by omega)) ?_
  /- how a round ends -/
  have fin : ∀ (jump : Option Code) (Z : World), KeepsFrom D Y Z →
    (Instr.endRound (D + 1) jump).run P Z = .ok (.bool jump.isNone) (Z.putObj (D + 1) (.loop (rc (if jump.isNone then .ready else .done) jump))) ∧
    Z.heap[D + 1]? = some (.loop { rc .ready none with state := .busy }) ∧
    (Z.putObj (D + 1) (.loop (rc (if jump.isNone then .ready else .done) jump))).heap[D + 1]? = some (.loop (rc (if jump.isNone then .ready else .done) jump)) ∧
    (Z.putObj (D + 1) (.loop (rc (if jump.isNone then .ready else .done) jump))).heap[D]? = some (.deferred (some [])) := fun jump Z hz => by
   have zl := hz.same _ _ (by omega) yl rfl
   have e := run_endRound (P := P) jump zl
   rw [hrc] at e zl ⊢
   exact ⟨e, zl, World.putObj_heap_same (q4A.1 zl).1, (World.putObj_heap_other (by omega)).trans (hz.same _ _ (Nat.le_refl _) yk rfl)⟩
  have out : ∀ (p : Value → World → Prop) (c : Code) (Z : World), KeepsFrom D Y Z → Ix c (pre ++ [x]) Z → ∃ e Z', (Instr.endRound (D + 1) (some c)).run P Z = .ok e Z' ∧ (p e Z' ∨ Ending.returned e = .returned (.bool false) ∧ ∃ c, Ix c (pre ++ [x]) Z' ∧ Z'.heap[D + 1]? = some (.loop (rc .done (some c))) ∧ Z'.heap[D]? = some (.deferred (some []))) := fun p c Z hz hi3 => by
   obtain ⟨hr, zl, zl2, zk2⟩ := fin (some c) Z hz
   exact ⟨_, _, hr, .inr ⟨rfl, c, (oIx c).putObj _ hi3 (by omega) zl rfl, zl2, zk2⟩⟩
  rintro e a3 Z hp
  cases e with
  | normal =>
    obtain ⟨hz, hkp, hi3⟩ := hp
    obtain ⟨hr, zl, zl2, zk2⟩ := fin none Z hz
    exact ⟨_, _, hr, .inl ⟨rfl, ⟨oI.putObj _ hi3 (by omega) zl rfl, zl2, zk2⟩, hKt pX (hKt (hKt yp hkp) (hKb _ _ _ _ (by omega) zl rfl rfl))⟩⟩
  | ret => exact out (fun e Z' => Ending.returned e = .returned (.bool true) ∧ _) _ Z hp.1 hp.2
  | exit id => exact out (fun e Z' => Ending.returned e = .returned (.bool true) ∧ _) _ Z hp.1 hp.2
  | goto t => exact out (fun e Z' => Ending.returned e = .returned (.bool true) ∧ _) _ Z hp.1 hp.2
  | panic ch => exact hp.elim
  | outgrown => exact hp.elim
 ·rintro e X ⟨⟨v, rfl⟩, (⟨ys, hS, hi, hl, hk⟩ | ⟨pre, hSp, c, hi, hl, hk⟩)⟩
  ·exact ⟨none, _, by have := run_endLoop (P := P) hl (by rw [hrc]; simp); rw [hrc] at this; exact this, hdone _ ys _ (Nat.le_refl _) hS (oI.putObj _ hi (by omega) hl rfl) ((World.putObj_heap_other (by omega)).trans hk)⟩
  ·exact ⟨some c, _, by have := run_endLoop (P := P) hl (by rw [hrc]; simp); rw [hrc] at this; exact this, hstop _ c pre _ (Nat.le_refl _) hSp ((oIx c).putObj _ hi (by omega) hl rfl) ((World.putObj_heap_other (by omega)).trans hk)⟩
end
section
open Go.RowKit Go.Shelf

def lG {β : Type} (J : β → World → Prop) : Prop := ∀ s W o, J s W → J s (W.alloc o)
def mM {α : Type} (F : Fence) (n : Nat) (P : Program) (g : Nat) (lb : Array Value) (encs : α → Array Value) (Kp : World → World → Prop) (S Sp : List α → Prop) (w : World) : Prop :=
 ∀ (l : Nat) (J Jx : List α → World → Prop) (W : World), Below w.heap.size w W → lG J → lG Jx →
  (∀ pre x W1, J pre W1 → Sp (pre ++ [x]) → YieldAt F (n - 1) P l (encs x) W1 fun e W' =>
   (e = .returned (.bool true) ∧ J (pre ++ [x]) W' ∧ Kp W1 W') ∨ (e = .returned (.bool false) ∧ Jx (pre ++ [x]) W')) →
  J [] W →
  CallsIn F n P g (#[.func (.yield l) #[] #[]] ++ lb) W fun e W' => (∃ v, e = .returned v) ∧ ((∃ xs, S xs ∧ J xs W') ∨ (∃ pre, Sp pre ∧ Jx pre W'))
theorem xz {β : Type} {B : Nat} {J : β → World → Prop} (h : tY B J) : lG J := fun s W o hs => h s W _ none hs (World.grownBy_alloc W o none) (fun r e => by cases e)
theorem oo {α : Type} {F : Fence} {n : Nat} {P : Program} {g : Nat} {lb : Array Value} {encs : α → Array Value} {Kp : World → World → Prop} {S Sp : List α → Prop} {w : World} (h : mM F n P g lb encs Kp S Sp w) : SeqC F n P g lb encs Kp S Sp w :=
 fun l J Jx W hW hJ hJx hY h0 => h l J Jx W hW (xz hJ) (xz hJx) hY h0
theorem mE {α : Type} {F : Fence} {n : Nat} {P : Program} {g : Operand} {ps : Array Tmp} {assign body : Code} {Q : Exit → Act → World → Prop} {a : Act} {w : World}
  (hro : F.round = none) (h1 : 1 ≤ n) {gf : Nat} {lb : Array Value} (hg : a.eval g = .func (.func gf) #[] lb) (hFg : F.fn gf) (eg : ∀ args w, (callFunc gf args).run P w = .ok (.enter gf args) w)
  {encs : α → Array Value} {Kp : World → World → Prop} {S Sp : List α → Prop} {w0 : World} (hseq : mM F (n - 1) P gf lb encs Kp S Sp w0)
  (hKt : ∀ {A B C : World}, Kp A B → Kp B C → Kp A C) (hKb : ∀ (W : World) (l : Nat) (o o' : Obj), w.heap.size ≤ l → W.heap[l]? = some o → o.isCells = false → o.isWalk = false → Kp W (W.putObj l o'))
  (hb0 : Below w0.heap.size w0 w) (hps : ∀ x, (encs x).size = ps.size)
  (I : List α → World → Prop) (Ix : Code → List α → World → Prop) (hI : OwnFrom w.heap.size I) (hIx : ∀ c, OwnFrom w.heap.size (Ix c)) (h0 : I [] w)
  (Ax : α → Act → World → Prop) (hAx : ∀ x a', OwnFrom w.heap.size (fun (_ : Unit) W => Ax x a' W))
  (hassign : ∀ (l : Nat) (pre : List α) (x : α) (W : World) (K : Act → World → Prop), I pre W → w.heap.size + 2 ≤ W.heap.size → (∀ a' W', KeepsFrom w.heap.size W W' → Kp W W' → I pre W' → Ax x a' W' → K a' W') →
   assign.wpIn (F.inRound l) (n - 1 - 1) P (Exit.then K (fun _ _ _ => False)) { tmps := (ps.zip (encs x)).foldl (fun t (p, v) => t.setIfInBounds p v) a.tmps, defers := [] } W)
  (hbody : ∀ (l : Nat) (pre : List α) (x : α) (a' : Act) (W : World), w.heap.size ≤ l → (∃ r, W.heap[l]? = some (.loop r)) → I pre W → Ax x a' W → Sp (pre ++ [x]) → w.heap.size + 2 ≤ W.heap.size →
   body.wpIn (F.inRound l) (n - 1 - 1) P (ownPostG w.heap.size Kp I Ix (pre ++ [x]) W) a' W)
  (hdone : ∀ (D : Nat) (xs : List α) (W : World), w.heap.size ≤ D → S xs → I xs W → W.heap[D]? = some (.deferred (some [])) → Q .normal { a with defers := { target := .collected D, args := #[] } :: a.defers } W)
  (hstop : ∀ (D : Nat) (c : Code) (pre : List α) (W : World), w.heap.size ≤ D → Sp pre → Ix c pre W → W.heap[D]? = some (.deferred (some [])) → c.wpIn F n P Q { a with defers := { target := .collected D, args := #[] } :: a.defers } W) :
  (Code.rangeFunc g ps assign body).wpIn F n P Q a w := by
 refine wpIn_rangeFunc fun fn hfn => ?_
 rw [hro]
 have oI := hI
 have oIx := hIx
 obtain ⟨D, hD⟩ : ∃ D, w.heap.size = D := ⟨_, rfl⟩
 obtain ⟨rc, hrc⟩ : ∃ rc : LoopState → Option Code → Loop, rc = fun st pe => { state := st, pending := pe, fn, tmps := a.tmps, params := ps, assign, body, defers := D } := ⟨_, rfl⟩
 obtain ⟨V, hV⟩ : ∃ V, (w.alloc (.deferred (some []))).alloc (.loop (rc .ready none)) = V := ⟨_, rfl⟩
 have sV : V.heap.size = D + 2 := by rw [← hV]; simp [hD]
 have vL : V.heap[D + 1]? = some (.loop (rc .ready none)) := by
  have := World.alloc_heap_new (w.alloc (.deferred (some []))) (.loop (rc .ready none))
  rw [World.size_alloc, hD, hV] at this; exact this
 have vD : V.heap[D]? = some (.deferred (some [])) := by
  rw [← hV, Below.heap_alloc _ _ _ (by simp [hD]), ← hD]; exact World.alloc_heap_new w _
 have vI : I [] V := by rw [← hV]; exact oI.alloc _ (oI.alloc _ h0)
 have vB : Below w0.heap.size w0 V := by
  rw [← hV]; exact hb0.trans ((((q4B _ w).alloc (Nat.le_refl _) _).alloc (by simp) _).mono hb0.size)
 rw [hD] at hKb oI oIx hAx hassign hbody hdone hstop hI hIx
 refine ⟨D + 1, [{ target := .collected D, args := #[] }], V, { target := .fn (.func gf) lb, args := #[.func (.yield (D + 1)) #[] #[]] }, V, gf, #[.func (.yield (D + 1)) #[] #[]] ++ lb, V, ?_, ?_, ?_, ?_, fun _ => h1, ?_⟩
 ·rw [← hV, hrc, ← hD]; exact run_enterLoop_outer _ _ _ _ _
 ·simp only [resolve, hg]; simp [go_sem]
 ·intro f' hf'; simp [Target.leads] at hf'; subst hf'; exact hFg
 ·simp [invoke, go_sem, eg]
 /- what stands between two rounds: the caller's own, and the two blocks that the loop laid -/
 refine (hseq (D + 1)
  (fun pre W => I pre W ∧ W.heap[D + 1]? = some (.loop (rc .ready none)) ∧ W.heap[D]? = some (.deferred (some [])))
  (fun pre W => ∃ c, Ix c pre W ∧ W.heap[D + 1]? = some (.loop (rc .done (some c))) ∧ W.heap[D]? = some (.deferred (some [])))
  V vB
  (fun s A o hs => ⟨oI.alloc _ hs.1, (Below.heap_alloc _ _ _ (q4A.1 hs.2.1).1).trans hs.2.1, (Below.heap_alloc _ _ _ (q4A.1 hs.2.2).1).trans hs.2.2⟩)
  (fun s A o hs => by
   obtain ⟨c, hc, hl, hk⟩ := hs
   exact ⟨c, (oIx c).alloc _ hc, (Below.heap_alloc _ _ _ (q4A.1 hl).1).trans hl, (Below.heap_alloc _ _ _ (q4A.1 hk).1).trans hk⟩)
  ?_ ⟨vI, vL, vD⟩).mono ?_
 ·rintro pre x W ⟨hi, hl, hk⟩ hlen
  have hlt : D + 1 < W.heap.size := (q4A.1 hl).1
  have hy := run_yield (P := P) (args := encs x) hl (by rw [hrc]; exact hps x)
  rw [hrc] at hy
  refine ⟨fn, _, assign, body, hy, roundIn_of_wpIn hfn (hassign _ pre x W _ hi (by omega) ?_)⟩
  clear hy
  intro a' X kX pX iX aX
  have xl := kX.same _ _ (by omega) hl rfl
  have xk := kX.same _ _ (Nat.le_refl _) hk rfl
  have xs : D + 1 < X.heap.size := (q4A.1 xl).1
  obtain ⟨Y, hY⟩ : ∃ Y, X.putObj (D + 1) (.loop { rc .ready none with state := .busy }) = Y := ⟨_, rfl⟩
  refine ⟨Y, by rw [← hY]; exact run_beginRound xl (by rw [hrc]), ?_⟩
  have yl : Y.heap[D + 1]? = some (.loop { rc .ready none with state := .busy }) := by rw [← hY]; exact World.putObj_heap_same xs
  have yk : Y.heap[D]? = some (.deferred (some [])) := by rw [← hY]; exact (World.putObj_heap_other (by omega)).trans xk
  have ys : D + 1 < Y.heap.size := (q4A.1 yl).1
  have yp : Kp X Y := by rw [← hY]; exact hKb _ _ _ _ (by omega) xl rfl rfl
  have yI : I pre Y := by rw [← hY]; exact oI.putObj _ iX (by omega) xl rfl
  have yA : Ax x a' Y := by rw [← hY]; exact (hAx x a').putObj (s := ()) _ aX (by omega) xl rfl
  refine wpIn_mono (hbody _ pre x a' Y (by omega) ⟨_, yl⟩ yI yA hlen (by omega)) ?_
  /- how a round ends -/
  have fin : ∀ (jump : Option Code) (Z : World), KeepsFrom D Y Z →
    (Instr.endRound (D + 1) jump).run P Z = .ok (.bool jump.isNone) (Z.putObj (D + 1) (.loop (rc (if jump.isNone then .ready else .done) jump))) ∧
    Z.heap[D + 1]? = some (.loop { rc .ready none with state := .busy }) ∧
    (Z.putObj (D + 1) (.loop (rc (if jump.isNone then .ready else .done) jump))).heap[D + 1]? = some (.loop (rc (if jump.isNone then .ready else .done) jump)) ∧
    (Z.putObj (D + 1) (.loop (rc (if jump.isNone then .ready else .done) jump))).heap[D]? = some (.deferred (some [])) := fun jump Z hz => by
   have zl := hz.same _ _ (by omega) yl rfl
   have e := run_endRound (P := P) jump zl
   rw [hrc] at e zl ⊢
   exact ⟨e, zl, World.putObj_heap_same (q4A.1 zl).1, (World.putObj_heap_other (by omega)).trans (hz.same _ _ (Nat.le_refl _) yk rfl)⟩
  have out : ∀ (p : Value → World → Prop) (c : Code) (Z : World), KeepsFrom D Y Z → Ix c (pre ++ [x]) Z → ∃ e Z', (Instr.endRound (D + 1) (some c)).run P Z = .ok e Z' ∧ (p e Z' ∨ Ending.returned e = .returned (.bool false) ∧ ∃ c, Ix c (pre ++ [x]) Z' ∧ Z'.heap[D + 1]? = some (.loop (rc .done (some c))) ∧ Z'.heap[D]? = some (.deferred (some []))) := fun p c Z hz hi3 => by
   obtain ⟨hr, zl, zl2, zk2⟩ := fin (some c) Z hz
   exact ⟨_, _, hr, .inr ⟨rfl, c, (oIx c).putObj _ hi3 (by omega) zl rfl, zl2, zk2⟩⟩
  rintro e a3 Z hp
  cases e with
  | normal =>
    obtain ⟨hz, hkp, hi3⟩ := hp
    obtain ⟨hr, zl, zl2, zk2⟩ := fin none Z hz
    exact ⟨_, _, hr, .inl ⟨rfl, ⟨oI.putObj _ hi3 (by omega) zl rfl, zl2, zk2⟩, hKt pX (hKt (hKt yp hkp) (hKb _ _ _ _ (by omega) zl rfl rfl))⟩⟩
  | ret => exact out (fun e Z' => Ending.returned e = .returned (.bool true) ∧ _) _ Z hp.1 hp.2
  | exit id => exact out (fun e Z' => Ending.returned e = .returned (.bool true) ∧ _) _ Z hp.1 hp.2
  | goto t => exact out (fun e Z' => Ending.returned e = .returned (.bool true) ∧ _) _ Z hp.1 hp.2
  | panic ch => exact hp.elim
  | outgrown => exact hp.elim
 ·rintro e X ⟨⟨v, rfl⟩, (⟨ys, hS, hi, hl, hk⟩ | ⟨pre, hSp, c, hi, hl, hk⟩)⟩
  ·exact ⟨none, _, by have := run_endLoop (P := P) hl (by rw [hrc]; simp); rw [hrc] at this; exact this, hdone _ ys _ (Nat.le_refl _) hS (oI.putObj _ hi (by omega) hl rfl) ((World.putObj_heap_other (by omega)).trans hk)⟩
  ·exact ⟨some c, _, by have := run_endLoop (P := P) hl (by rw [hrc]; simp); rw [hrc] at this; exact this, hstop _ c pre _ (Nat.le_refl _) hSp ((oIx c).putObj _ hi (by omega) hl rfl) ((World.putObj_heap_other (by omega)).trans hk)⟩
end
namespace Sx
open Tx (Bs)

def pct : Bs := [37, 115]
def slash : Bs := [47]
theorem jm (a c : UInt8) (l r : Bs) : List.isPrefixOf (a :: l) (c :: r) = (a == c && List.isPrefixOf l r) := rfl
/- by cutting; f: nothing is ahead -/
def ze (f : Bool) (s : Bs) : Bool :=
 if (Lib.cut s pct).2.2 = true then bi (Lib.cut s pct).1 && bi (Lib.cut s pct).2.1
 else if (Lib.cut s slash).2.2 = true then (!f || !(Lib.cut s slash).1.isEmpty) && !(Lib.cut s slash).2.1.isEmpty && bi (Lib.cut s slash).1 && bi (Lib.cut s slash).2.1
 else bi s
theorem Ew (sub : Bs) (h : sub.isEmpty = false) : Lib.cut [] sub = ([], [], false) := by simp [Lib.cut, Lib.index, h]
theorem Ao {c : UInt8} {r sub : Bs} (h : sub.isPrefixOf (c :: r) = true) : Lib.cut (c :: r) sub = ([], (c :: r).drop sub.length, true) := by
 have e : Lib.index (c :: r) sub = 0 := by simp [Lib.index, h]
 simp [Lib.cut, e]
theorem ry {c : UInt8} {r sub : Bs} (h : sub.isPrefixOf (c :: r) = false) : Lib.cut (c :: r) sub = (c :: (Lib.cut r sub).1, (Lib.cut r sub).2.1, (Lib.cut r sub).2.2) := by
 have g := Lib.index_ge r sub
 have e : Lib.index (c :: r) sub = if Lib.index r sub == -1 then -1 else Lib.index r sub + 1 := by simp [Lib.index, h]
 unfold Lib.cut
 rw [e]
 by_cases q : Lib.index r sub = -1
 ·simp [q]
 ·have q' : 0 ≤ Lib.index r sub := by omega
  have q3 : (Lib.index r sub == -1) = false := by simpa using q
  rw [q3]
  simp only [Bool.false_eq_true, if_false]
  rw [if_pos (by omega), if_pos q']
  have e1 : (Lib.index r sub + 1).toNat = (Lib.index r sub).toNat + 1 := by omega
  rw [e1]
  simp [Nat.add_right_comm]
theorem vW : dV 37 = false := by decide
theorem Bw : dV 47 = false := by decide
theorem Gu : dV 115 = true := by decide
theorem xV : ∀ (s : Bs) (f : Bool), dN f s = some 0 ↔ bi s = true
 | [], f => by simp [dN, bi]
 | c :: r, f => by
   have ih := xV r false
   unfold dN
   by_cases h1 : c = 47
   ·subst h1
    rw [if_pos rfl]
    have : bi (47 :: r) = false := by simp [bi, Bw]
    rw [this]
    split
    ·simp
    ·cases dN false r <;> simp
   ·rw [if_neg h1]
    by_cases h2 : c = 37
    ·subst h2
     rw [if_pos rfl]
     have : bi (37 :: r) = false := by simp [bi, vW]
     rw [this]
     split
     ·cases dN false r <;> simp
     ·simp
    ·rw [if_neg h2]
     by_cases h3 : dV c = true
     ·rw [if_pos h3, ih]; simp [bi, h3]
     ·rw [if_neg h3]; simp [bi, h3]
theorem uR (r : Bs) : few ((dN false r).map (· + 1)) = bi r := by
 have h := xV r false
 cases q : dN false r with
 | none =>
   rw [q] at h
   cases k : bi r with
   | false => rfl
   | true => simp [k] at h
 | some m =>
   rw [q] at h
   cases k : bi r with
   | false =>
     simp [k] at h
     simp [few]; omega
   | true =>
     simp [k] at h
     simp [few, h]
theorem J4 {s sub : Bs} {c : UInt8} (hs : sub = c :: sub.drop 1) (h : (Lib.cut s sub).2.2 = true) : c ∈ s := by
 induction s with
 | nil =>
   rw [Ew sub (by rw [hs]; rfl)] at h
   simp at h
 | cons d r ih =>
   cases q : sub.isPrefixOf (d :: r) with
   | true =>
     rw [hs] at q
     simp at q
     simp [q.1]
   | false =>
     rw [ry q] at h
     simp [ih h]
theorem Gv {s : Bs} {c : UInt8} (hc : dV c = false) (h : c ∈ s) : bi s = false := by
 unfold bi
 rw [List.all_eq_false]
 exact ⟨c, h, by simp [hc]⟩
theorem EB : ∀ (s : Bs) (f : Bool), few (dN f s) = ze f s
 | [], f => by simp [dN, few, ze, Ew, pct, slash, bi]
 | c :: r, f => by
   have ih := EB r false
   by_cases h1 : c = 47
   ·subst h1
    have p1 : pct.isPrefixOf (47 :: r) = false := by rw [pct, jm, show ((37 : UInt8) == 47) = false by decide]; rfl
    have p2 : slash.isPrefixOf (47 :: r) = true := by rw [slash, jm]; rfl
    unfold dN ze
    rw [if_pos rfl, ry p1, Ao p2]
    simp only [List.drop_succ_cons, slash, List.length_cons, List.length_nil, List.drop_zero, List.isEmpty_nil, Bool.not_true, Bool.or_false, if_true]
    have hh : bi (47 :: (Lib.cut r pct).1) = false := by simp [bi, Bw]
    rw [hh]
    by_cases q : (Lib.cut r pct).2.2 = true
    ·have hp := Gv vW (J4 (c := 37) (by rfl) q)
     rw [if_pos q]
     split
     ·simp [few]
     ·rw [uR, hp]; rfl
    ·rw [if_neg q]
     by_cases k : f = true ∨ r = []
     ·rw [if_pos k]
      rcases k with rfl | rfl <;> simp [few]
     ·rw [if_neg k, uR]
      have k1 : f = false := by cases f <;> simp at k ⊢
      have k2 : r ≠ [] := fun e => k (.inr e)
      have k3 : r.isEmpty = false := by cases r <;> simp at k2 ⊢
      simp [k1, k3, bi]
   ·have p2 : slash.isPrefixOf (c :: r) = false := by rw [slash, jm, show ((47 : UInt8) == c) = false by simpa using Ne.symm h1]; rfl
    by_cases h2 : c = 37
    ·subst h2
     by_cases h3 : r.head? = some 115
     ·obtain ⟨r', rfl⟩ : ∃ r', r = 115 :: r' := by cases r <;> simp at h3 ⊢; exact h3
      have p1 : pct.isPrefixOf (37 :: 115 :: r') = true := by rw [pct, jm, jm]; rfl
      unfold dN ze
      rw [if_neg h1, if_pos rfl, if_pos h3, uR, Ao p1, if_pos rfl]
      simp [pct, bi, Gu]
     ·have p1 : pct.isPrefixOf (37 :: r) = false := by
       cases r with
       | nil => rfl
       | cons d r' =>
         have h4 : d ≠ 115 := by simpa using h3
         rw [pct, jm, jm, show ((115 : UInt8) == d) = false by simpa using Ne.symm h4]; rfl
      unfold dN ze
      rw [if_neg h1, if_pos rfl, if_neg h3, ry p1, ry p2]
      have hh : ∀ l : Bs, bi (37 :: l) = false := fun l => by simp [bi, vW]
      simp [hh, few]
    ·have p1 : pct.isPrefixOf (c :: r) = false := by rw [pct, jm, show ((37 : UInt8) == c) = false by simpa using Ne.symm h2]; rfl
     have hh : ∀ l : Bs, bi (c :: l) = (dV c && bi l) := fun l => by simp [bi]
     have e : few (dN f (c :: r)) = (dV c && few (dN false r)) := by
      have e0 : dN f (c :: r) = if dV c = true then dN false r else none := by conv => lhs; unfold dN; rw [if_neg h1, if_neg h2]
      rw [e0]
      cases dV c with
      | false => rfl
      | true => rw [if_pos rfl, Bool.true_and]
     rw [e, ih]
     unfold ze
     rw [ry p1, ry p2]
     simp only [hh, List.isEmpty_cons, Bool.not_false, Bool.or_true, Bool.true_and]
     split
     ·simp [Bool.and_assoc]
     ·split
      ·simp [Bool.and_assoc, Bool.and_left_comm]
      ·rfl
theorem Dc (s : Bs) : dw s = (!s.isEmpty && decide (s.length ≤ 24) && ze true s) := by unfold dw; rw [EB]
end Sx
section
open Go.RowKit

theorem DL (c : UInt8) (w : World) :
  Calls Tryz.prog 204 #[.int .u8 (c.toNat : Int)] w fun e w' => e = .returned (.bool (Sx.dV c)) ∧ w' = w := by
 have HN : Hid (Sx.dV c = (Sx.gB c || Sx.fZ c || c == 43 || c == 45)) := rfl
 cases h1 : Sx.gB c
 case true =>
  have H1 := hid h1
  clear h1
  go_enter Tryz.func204, Tryz.ntmps204
  go_wp2_with (go_at_call 191; refine (ek _ _ H1.out).mono ?_; rintro e w1 ⟨rfl, rfl⟩)
  go_ret
  exact ⟨aC (by rw [HN.out, H1.out]; rfl), rfl⟩
 case false =>
  have H1 := hid h1
  clear h1
  cases h2 : Sx.fZ c
  case true =>
   have H2 := hid h2
   clear h2
   go_enter Tryz.func204, Tryz.ntmps204
   go_wp2_with (first | (go_at_call 191; refine (ek _ _ H1.out).mono ?_; rintro e w1 ⟨rfl, rfl⟩) | (go_at_call 194; refine (lg _ _ H2.out).mono ?_; rintro e w1 ⟨rfl, rfl⟩))
   go_ret
   exact ⟨aC (by rw [HN.out, H1.out, H2.out]; rfl), rfl⟩
  case false =>
   have H2 := hid h2
   clear h2
   cases h3 : (c == 43)
   case true =>
    have e3 : ((c.toNat : Int) == 43) = true := (gH c 43).trans h3
    have H3 := hid h3
    clear h3
    go_enter Tryz.func204, Tryz.ntmps204
    go_wp2_with (first | (go_at_call 191; refine (ek _ _ H1.out).mono ?_; rintro e w1 ⟨rfl, rfl⟩) | (go_at_call 194; refine (lg _ _ H2.out).mono ?_; rintro e w1 ⟨rfl, rfl⟩))
    go_ret
    exact ⟨aC (by rw [HN.out, H1.out, H2.out, H3.out]; rfl), rfl⟩
   case false =>
    have e3 : ((c.toNat : Int) == 43) = false := (gH c 43).trans h3
    have H3 := hid h3
    clear h3
    cases h4 : (c == 45)
    all_goals
     have e4 := (gH c 45).trans h4
     change ((c.toNat : Int) == 45) = _ at e4
     have H4 := hid h4
     clear h4
     go_enter Tryz.func204, Tryz.ntmps204
     go_wp2_with (first | (go_at_call 191; refine (ek _ _ H1.out).mono ?_; rintro e w1 ⟨rfl, rfl⟩) | (go_at_call 194; refine (lg _ _ H2.out).mono ?_; rintro e w1 ⟨rfl, rfl⟩))
     go_ret
     exact ⟨aC (by rw [HN.out, H1.out, H2.out, H3.out, H4.out]; rfl), rfl⟩
theorem ym (c : UInt8) (w : World) {b : Bool} (h : Sx.dV c = b) :
  Calls Tryz.prog 204 #[.int .u8 (c.toNat : Int)] w fun e w' => e = .returned (.bool b) ∧ w' = w := by subst h; exact DL c w

theorem xn (s : ByteArray) (w : World) (hs : s.size ≤ maxLen) :
  Calls Tryz.prog 210 #[.string s, .func (.func 204) #[] #[]] w fun e w' => (∃ n : Int, e = .returned (.int .i64 n) ∧ (n == (s.size : Int)) = Sx.bi s.data.toList) ∧ w' = w := by
 unfold maxLen at hs
 have HG : Hid (Sx.bi s.data.toList = s.data.toList.all Sx.dV) := rfl
 have eg : ∀ args w, (callFunc 204 args).run Tryz.prog w = .ok (.enter 204 args) w := enters_of Tryz.func204 (by kernel_rfl) rfl
 go_enter Tryz.func210, Tryz.ntmps210
 go_wp2_with fail
 go_loop [8] (fun a => ∃ k : Nat, k ≤ s.size ∧ a = .int .i64 k ∧ Hid ((s.data.toList.take k).all Sx.dV = true)) (fun a => s.size - (intOf a).toNat)
 case atStart => exact ⟨0, by omega, rfl, by show _ = _; simp⟩
 case round =>
  obtain ⟨k, hk, rfl, HA⟩ := hrel
  by_cases hlt : k < s.size
  ·obtain ⟨c, hc⟩ : ∃ c, s[k] = c := ⟨_, rfl⟩
   have HC := hid hc
   cases h1 : Sx.dV c
   case true =>
    have H1 := hid h1
    clear h1
    go_wp2_with (go_at_call 204; refine (ym _ _ H1.out).mono ?_; rintro e w1 ⟨rfl, rfl⟩)
    go_round
    case rel => exact ⟨k + 1, by omega, by go_num, gy s _ k hlt HA.out (by rw [HC.out, H1.out])⟩
    case measure => simp [intOf]; omega
   case false =>
    have H1 := hid h1
    clear h1
    go_wp2_with (go_at_call 204; refine (ym _ _ H1.out).mono ?_; rintro e w1 ⟨rfl, rfl⟩)
    go_ret
    exact ⟨⟨_, rfl, by rw [HG.out, rq s _ k hlt (by rw [HC.out, H1.out])]; simp; omega⟩, rfl⟩
  ·go_wp2
   go_ret
   exact ⟨⟨_, rfl, by rw [HG.out, nS s _ k (by omega) HA.out]; simp⟩, rfl⟩
theorem vF (s : ByteArray) (w : World) (hs : s.size ≤ maxLen) :
  Calls Tryz.prog 192 #[.string s, .func (.func 204) #[] #[]] w fun e w' => e = .returned (.bool (decide (s.size ≤ 24) && Sx.bi s.data.toList)) ∧ w' = w := by
 have HS := hid (xn s w hs)
 clear hs
 obtain ⟨b, hb⟩ : ∃ b, Sx.bi s.data.toList = b := ⟨_, rfl⟩
 rw [hb] at HS ⊢
 clear hb
 by_cases h : s.size ≤ 24
 ·go_enter Tryz.func192, Tryz.ntmps192
  go_wp2_with (go_at_call 210; refine HS.out.mono ?_; rintro e w1 ⟨⟨n, rfl, hn⟩, rfl⟩)
  go_ret
  exact ⟨aC (by simp [h]), rfl⟩
 ·go_enter Tryz.func192, Tryz.ntmps192
  go_wp2_with fail
  go_ret
  exact ⟨aC (by simp [h]), rfl⟩
theorem xc (s : ByteArray) (w : World) (hs : s.size ≤ maxLen) {b : Bool} (h : (decide (s.size ≤ 24) && Sx.bi s.data.toList) = b) :
  Calls Tryz.prog 192 #[.string s, .func (.func 204) #[] #[]] w fun e w' => e = .returned (.bool b) ∧ w' = w := by subst h; exact vF s w hs
theorem Gs (s : ByteArray) (w : World) (hs : s.size ≤ maxLen) {b : Bool} (h : (decide (s.size ≤ 24) && Sx.bi s.data.toList) = b) :
  Calls Tryz.prog 178 #[.string s] w fun e w' => e = .returned (.bool b) ∧ w' = w := by
 have HS := hid (xc s w hs h)
 clear h hs
 go_enter Tryz.func178, Tryz.ntmps178
 go_wp2_with (go_at_call 192; refine HS.out.mono ?_; rintro e w1 ⟨rfl, rfl⟩)
 go_ret
 exact ⟨rfl, rfl⟩
end
end Go.Proofs.YtkhlkohlccndgaaGreat
namespace Go.Proofs
open Go.Shelf
def Tryz.AZ : Go.Shelf.Ren := ⟨fun | 145 => 162 | 220 => 198 | 219 => 212 | 217 => 211 | 225 => 233 | 224 => 234 | 267 => 235 | 266 => 232 | 314 => 244 | n => n, fun | 9 => 9 | 4 => 4 | 59 => 219 | 3 => 3 | 5 => 5 | 46 => 230 | 146 => 274 | 51 => 258 | n => n, fun | 1 => 0 | n => n⟩
theorem Tryz.Kc : Go.Proofs.Lays.n145 Tryz.prog Tryz.AZ := {
 mixed := by kernel_rfl
 f145 := Tryz.func162.trans (congrArg some (by kernel_rfl))
 f217 := Tryz.func211.trans (congrArg some (by kernel_rfl))
 f219 := Tryz.func212.trans (congrArg some (by kernel_rfl))
 f220 := Tryz.func198.trans (congrArg some (by kernel_rfl))
 f224 := Tryz.func234.trans (congrArg some (by kernel_rfl))
 f225 := Tryz.func233.trans (congrArg some (by kernel_rfl))
 f266 := Tryz.func232.trans (congrArg some (by kernel_rfl))
 f267 := Tryz.func235.trans (congrArg some (by kernel_rfl))
 f314 := Tryz.func244.trans (congrArg some (by kernel_rfl))
 t3 := Tryz.underlying3
 a3 := Tryz.isAgg3
 z3 := Tryz.sizeOf3
 v3 := Tryz.zeroValue3
 t4 := Tryz.underlying4
 a4 := Tryz.isAgg4
 z4 := Tryz.sizeOf4
 v4 := Tryz.zeroValue4
 t5 := Tryz.underlying5
 a5 := Tryz.isAgg5
 z5 := Tryz.sizeOf5
 v5 := Tryz.zeroValue5
 t9 := Tryz.underlying9
 a9 := Tryz.isAgg9
 z9 := Tryz.sizeOf9
 v9 := Tryz.zeroValue9
 t46 := Tryz.underlying230
 a46 := Tryz.isAgg230
 z46 := Tryz.sizeOf230
 v46 := Tryz.zeroValue230
 t51 := Tryz.underlying258
 a51 := Tryz.isAgg258
 z51 := Tryz.sizeOf258
 v51 := Tryz.zeroValue258
 t59 := Tryz.underlying219
 a59 := Tryz.isAgg219
 z59 := Tryz.sizeOf219
 v59 := Tryz.zeroValue219
 t146 := Tryz.underlying274
 a146 := Tryz.isAgg274
 z146 := Tryz.sizeOf274
 v146 := Tryz.zeroValue274
 g1 := by kernel_rfl }
open Go.RowKit Go.Lib in
/-- strings.Cut: "Cut slices s around the first instance of sep, returning the text before and after sep. The found result reports whether sep appears in s. If sep does not appear in s, cut returns s, "", false.": IT RETURNS 'Lib.cut s sep'; the world is as it was but for the count of draws. (LAID: no walk: one application.) -/
theorem Tryz.strings_Cut (s sep : ByteArray) (m : Int) (w : World) (hs : s.size < 4294967281) (hm : w.cell? ⟨0, 0, none⟩ = some (.int .i64 m)) :
  Calls Tryz.prog 162 #[.string s, .string sep] w fun e w' => e = .returned (.tuple #[.string ⟨(Lib.cut s.data.toList sep.data.toList).1.toArray⟩, .string ⟨(Lib.cut s.data.toList sep.data.toList).2.1.toArray⟩, .bool (Lib.cut s.data.toList sep.data.toList).2.2]) ∧ ∃ n, w' = w.drewN n := Any.strings_Cut Tryz.Kc s sep m w hs hm
end Go.Proofs
namespace Go.Proofs.YtkhlkohlccndgaaGreat
section
open Go.RowKit

theorem Cx (w : World) (n : Nat) : Below w.heap.size w (w.drewN n) := ⟨rfl, rfl, rfl, Nat.le_refl _, fun _ _ => rfl⟩
theorem tZ (l sep : Tx.Bs) (m : Int) (w : World) (hs : l.length < 4294967281) (hm : w.cell? ⟨0, 0, none⟩ = some (.int .i64 m)) :
  Calls Tryz.prog 162 #[ag l, ag sep] w fun e w' => e = .returned (.tuple #[ag (Lib.cut l sep).1, ag (Lib.cut l sep).2.1, .bool (Lib.cut l sep).2.2]) ∧ ∃ n, w' = w.drewN n := by
 have h := Tryz.strings_Cut ⟨l.toArray⟩ ⟨sep.toArray⟩ m w (by simpa [ByteArray.size] using hs) hm
 exact h
theorem jb (l : Tx.Bs) (w : World) (hs : l.length ≤ 24) {b : Bool} (h : Sx.bi l = b) : Calls Tryz.prog 178 #[ag l] w fun e w' => e = .returned (.bool b) ∧ w' = w :=
 Gs ⟨l.toArray⟩ w (by simp [ByteArray.size, maxLen]; omega) (by rw [← h]; simp [ByteArray.size, hs])
theorem yQ (l sep : Tx.Bs) : (Lib.cut l sep).1.length ≤ l.length ∧ (Lib.cut l sep).2.1.length ≤ l.length := by
 unfold Lib.cut
 split
 ·exact ⟨by simp; omega, by simp⟩
 ·exact ⟨Nat.le_refl _, by simp⟩
theorem vU (l : Tx.Bs) (m : Int) (w : World) (hs : l.length ≤ maxLen) (hm : w.cell? ⟨0, 0, none⟩ = some (.int .i64 m)) {b : Bool} (h : Sx.dw l = b) :
  Calls Tryz.prog 196 #[ag l] w fun e w' => e = .returned (.bool b) ∧ ∃ n, w' = w.drewN n := by
 rw [Sx.Dc] at h
 cases he : l.isEmpty
 case true =>
  have HB : Hid (b = false) := by show _ = _; rw [← h, he]; rfl
  clear h hm
  go_enter Tryz.func196, Tryz.ntmps196
  go_wp2_with fail
  go_ret
  exact ⟨aC (by rw [HB.out]), 0, rfl⟩
 by_cases h24 : l.length ≤ 24
 case neg =>
  have HB : Hid (b = false) := by show _ = _; rw [← h, decide_eq_false h24]; simp
  clear h hm
  go_enter Tryz.func196, Tryz.ntmps196
  go_wp2_with fail
  go_ret
  exact ⟨aC (by rw [HB.out]), 0, rfl⟩
 have HB : Hid (Sx.ze true l = b) := by show _ = _; rw [← h, he, decide_eq_true h24]; rfl
 have C1 := hid (tZ l [37, 115] m w (by omega) hm)
 have C2 := hid (fun n => tZ l [47] m (w.drewN n) (by omega) hm)
 have L1 := yQ l [37, 115]
 have L2 := yQ l [47]
 unfold Sx.ze Sx.pct Sx.slash at HB
 have HB1 : Hid ((if (Lib.cut l [37, 115]).2.2 = true then Sx.bi (Lib.cut l [37, 115]).1 && Sx.bi (Lib.cut l [37, 115]).2.1 else if (Lib.cut l [47]).2.2 = true then !(Lib.cut l [47]).1.isEmpty && !(Lib.cut l [47]).2.1.isEmpty && Sx.bi (Lib.cut l [47]).1 && Sx.bi (Lib.cut l [47]).2.1 else Sx.bi l) = b) := by
  show _ = _; rw [← HB.out]; simp
 clear HB h hm
 obtain ⟨c1, hc1⟩ : ∃ c, Lib.cut l [37, 115] = c := ⟨_, rfl⟩
 obtain ⟨c2, hc2⟩ : ∃ c, Lib.cut l [47] = c := ⟨_, rfl⟩
 rw [hc1] at L1 C1 HB1
 rw [hc2] at L2 C2 HB1
 clear hc1 hc2
 obtain ⟨a1, a2, ao⟩ := c1
 obtain ⟨b1, b2, bo⟩ := c2
 dsimp only at L1 L2 C1 C2 HB1
 have HL := hid L1
 have HL2 := hid L2
 have H24 := hid h24
 clear L1 L2
 cases ao
 case true =>
  simp only [if_true] at HB1
  cases h1 : Sx.bi a1
  case false =>
   have HBB : Hid (b = false) := by show _ = _; rw [← HB1.out, h1]; rfl
   have HA := hid (fun w' => jb a1 w' (by have := HL.out; have := H24.out; omega) h1)
   clear HB1 h1
   go_enter Tryz.func196, Tryz.ntmps196
   go_wp2_with fail
   refine C1.out.mono ?_
   rintro e w1 ⟨rfl, n, rfl⟩
   go_wp2_with (go_at_call 178; refine (HA.out _).mono ?_; rintro e w2 ⟨rfl, rfl⟩)
   go_ret
   exact ⟨aC (by rw [HBB.out]), n, rfl⟩
  case true =>
   have HBB : Hid (Sx.bi a2 = b) := by show _ = _; rw [← HB1.out, h1]; simp
   have HA := hid (fun w' => jb a1 w' (by have := HL.out; have := H24.out; omega) h1)
   have HA2 := hid (fun w' => jb a2 w' (by have := HL.out; have := H24.out; omega) HBB.out)
   clear HB1 h1
   go_enter Tryz.func196, Tryz.ntmps196
   go_wp2_with fail
   refine C1.out.mono ?_
   rintro e w1 ⟨rfl, n, rfl⟩
   go_wp2_with (go_at_call 178; (first | (with_reducible refine (HA.out _).mono ?_) | (with_reducible refine (HA2.out _).mono ?_)); rintro e w2 ⟨rfl, rfl⟩)
   go_ret
   exact ⟨rfl, n, rfl⟩
 simp only [Bool.false_eq_true, if_false] at HB1
 cases bo
 case false =>
  simp only [Bool.false_eq_true, if_false] at HB1
  have HA := hid (fun w' => jb l w' H24.out HB1.out)
  go_enter Tryz.func196, Tryz.ntmps196
  go_wp2_with fail
  refine C1.out.mono ?_
  rintro e w1 ⟨rfl, n, rfl⟩
  go_wp2_with fail
  refine (C2.out n).mono ?_
  rintro e w2 ⟨rfl, n2, rfl⟩
  go_wp2_with (go_at_call 178; refine (HA.out _).mono ?_; rintro e w2 ⟨rfl, rfl⟩)
  go_ret
  exact ⟨rfl, n + n2, rfl⟩
 simp only [if_true] at HB1
 cases e1 : b1.isEmpty
 case true =>
  have HBB : Hid (b = false) := by show _ = _; rw [← HB1.out, e1]; rfl
  clear HB1
  go_enter Tryz.func196, Tryz.ntmps196
  go_wp2_with fail
  refine C1.out.mono ?_
  rintro e w1 ⟨rfl, n, rfl⟩
  go_wp2_with fail
  refine (C2.out n).mono ?_
  rintro e w2 ⟨rfl, n2, rfl⟩
  go_wp2
  go_ret
  exact ⟨aC (by rw [HBB.out]), n + n2, rfl⟩
 cases e2 : b2.isEmpty
 case true =>
  have HBB : Hid (b = false) := by show _ = _; rw [← HB1.out, e1, e2]; rfl
  clear HB1
  go_enter Tryz.func196, Tryz.ntmps196
  go_wp2_with fail
  refine C1.out.mono ?_
  rintro e w1 ⟨rfl, n, rfl⟩
  go_wp2_with fail
  refine (C2.out n).mono ?_
  rintro e w2 ⟨rfl, n2, rfl⟩
  go_wp2
  go_ret
  exact ⟨aC (by rw [HBB.out]), n + n2, rfl⟩
 have HB2 : Hid ((Sx.bi b1 && Sx.bi b2) = b) := by show _ = _; rw [← HB1.out, e1, e2]; simp
 clear HB1
 cases h1 : Sx.bi b1
 case false =>
  have HBB : Hid (b = false) := by show _ = _; rw [← HB2.out, h1]; rfl
  have HA := hid (fun w' => jb b1 w' (by have := HL2.out; have := H24.out; omega) h1)
  clear HB2 h1
  go_enter Tryz.func196, Tryz.ntmps196
  go_wp2_with fail
  refine C1.out.mono ?_
  rintro e w1 ⟨rfl, n, rfl⟩
  go_wp2_with fail
  refine (C2.out n).mono ?_
  rintro e w2 ⟨rfl, n2, rfl⟩
  go_wp2_with (go_at_call 178; refine (HA.out _).mono ?_; rintro e w2 ⟨rfl, rfl⟩)
  go_ret
  exact ⟨aC (by rw [HBB.out]), n + n2, rfl⟩
 case true =>
  have HBB : Hid (Sx.bi b2 = b) := by show _ = _; rw [← HB2.out, h1]; simp
  have HA := hid (fun w' => jb b1 w' (by have := HL2.out; have := H24.out; omega) h1)
  have HA2 := hid (fun w' => jb b2 w' (by have := HL2.out; have := H24.out; omega) HBB.out)
  clear HB2 h1
  go_enter Tryz.func196, Tryz.ntmps196
  go_wp2_with fail
  refine C1.out.mono ?_
  rintro e w1 ⟨rfl, n, rfl⟩
  go_wp2_with fail
  refine (C2.out n).mono ?_
  rintro e w2 ⟨rfl, n2, rfl⟩
  go_wp2_with (go_at_call 178; (first | (with_reducible refine (HA.out _).mono ?_) | (with_reducible refine (HA2.out _).mono ?_)); rintro e w2 ⟨rfl, rfl⟩)
  go_ret
  exact ⟨rfl, n + n2, rfl⟩
end
section
open Go.RowKit
attribute [local go_sem ↓] Go.wp_at_zero Go.wp_at_succ

theorem J9 {sh sv uy um ud ua uc : Int} {rl fm : Tx.Bs} : Sx.pg ⟨sh, rl, sv, fm, false, uy, um, ud, ua, uc⟩ = Sx.az id [if Cv.gX uy um ud = true then 0 else 3, uE (Sx.inB ua 0 172800) 3, uE (uc == 2 || uc == 3) 7] := by
 simp only [Sx.pg, Sx.az, id, uE, Bool.false_eq_true, if_false]
 cases Cv.gX uy um ud <;> cases Sx.inB ua 0 172800 <;> by_cases h2 : uc = 2 <;> by_cases h3 : uc = 3 <;> simp [h2, h3]
theorem vO (sh sv uy um ud ua uc : Int) (rl fm : Tx.Bs) (w : World) :
  Calls Tryz.prog 197 #[gZ ⟨sh, rl, sv, fm, true, uy, um, ud, ua, uc⟩] w fun e w' => e = .returned (.int .i64 (Sx.pg ⟨sh, rl, sv, fm, true, uy, um, ud, ua, uc⟩)) ∧ Below w.heap.size w w' := by
 have HE : Hid (Sx.pg ⟨sh, rl, sv, fm, true, uy, um, ud, ua, uc⟩ = uE (Sx.wI ⟨sh, rl, sv, fm, true, uy, um, ud, ua, uc⟩) 1) := by
  show _ = _; simp only [Sx.pg, uE, if_true]
 have BV := hid ((q4B w.heap.size w).alloc (Nat.le_refl _) (.cells (ax ⟨sh, rl, sv, fm, true, uy, um, ud, ua, uc⟩).toArray 67))
 have HU : Hid (Sx.wI ⟨sh, rl, sv, fm, true, uy, um, ud, ua, uc⟩ = decide (uy = 0 ∧ um = 0 ∧ ud = 0 ∧ ua = 0 ∧ uc = 0)) := rfl
 have h6 : ¬ uy = 0 ∨ (uy = 0 ∧ ¬ um = 0) ∨ (uy = 0 ∧ um = 0 ∧ ¬ ud = 0) ∨ (uy = 0 ∧ um = 0 ∧ ud = 0 ∧ ¬ ua = 0) ∨ (uy = 0 ∧ um = 0 ∧ ud = 0 ∧ ua = 0 ∧ ¬ uc = 0) ∨ (uy = 0 ∧ um = 0 ∧ ud = 0 ∧ ua = 0 ∧ uc = 0) := by omega
 rcases h6 with h | ⟨rfl, h⟩ | ⟨rfl, rfl, h⟩ | ⟨rfl, rfl, rfl, h⟩ | ⟨rfl, rfl, rfl, rfl, h⟩ | ⟨rfl, rfl, rfl, rfl, rfl⟩
 all_goals
  go_enter Tryz.func197, Tryz.ntmps197
  go_wp2_with (go_at_call 150; refine (aG _ _ _).mono ?_; rintro e w1 ⟨rfl, rfl⟩)
  go_ret
  refine ⟨ay ?_, BV.out⟩
  rw [HE.out, HU.out]
  simp [*]
theorem Ic (y m d : Int) (w : World) {E : Int} (h : (if Cv.gX y m d = true then 0 else 3) = E) :
  Calls Tryz.prog 40 #[.agg #[.int .i64 y, .int .i64 m, .int .i64 d]] w fun e w' => (∃ n, e = .returned (.tuple #[.int .i64 n, .int .i64 E])) ∧ Below w.heap.size w w' := by
 cases q : Cv.gX y m d
 ·rw [q] at h
  refine (J7 y m d w q).mono ?_
  rintro e w1 ⟨rfl, hb⟩
  exact ⟨⟨0, by rw [← h]; rfl⟩, hb⟩
 ·rw [q] at h
  refine (uM y m d w q).mono ?_
  rintro e w1 ⟨rfl, hb⟩
  exact ⟨⟨_, by rw [← h]; rfl⟩, hb⟩
theorem vP (sh sv uy um ud ua uc : Int) (rl fm : Tx.Bs) (w : World) :
  Calls Tryz.prog 197 #[gZ ⟨sh, rl, sv, fm, false, uy, um, ud, ua, uc⟩] w fun e w' => e = .returned (.int .i64 (Sx.pg ⟨sh, rl, sv, fm, false, uy, um, ud, ua, uc⟩)) ∧ Below w.heap.size w w' := by
 rw [J9]
 obtain ⟨O, hO⟩ : ∃ O, (if Cv.gX uy um ud = true then (0 : Int) else 3) = O := ⟨_, rfl⟩
 obtain ⟨A, hA⟩ : ∃ A, Sx.inB ua 0 172800 = A := ⟨_, rfl⟩
 rw [hO, hA]
 have HO := hid hO
 have HA := hid hA
 clear hO hA
 have XV := hid (aD w (ax ⟨sh, rl, sv, fm, false, uy, um, ud, ua, uc⟩) 67)
 have BV := hid ((q4B w.heap.size w).alloc (Nat.le_refl _) (.cells (ax ⟨sh, rl, sv, fm, false, uy, um, ud, ua, uc⟩).toArray 67))
 obtain ⟨B, hB⟩ : ∃ B, w.heap.size = B := ⟨_, rfl⟩
 have HB := hid hB
 rw [hB] at XV
 clear hB
 have h3 : uc = 2 ∨ (¬ uc = 2 ∧ uc = 3) ∨ (¬ uc = 2 ∧ ¬ uc = 3) := by omega
 go_enter Tryz.func197, Tryz.ntmps197
 go_wp2_with fail
 refine (Ic _ _ _ _ HO.out).mono ?_
 rintro e w1 ⟨⟨dn, rfl⟩, hb⟩
 have X1 := hid (ai XV.out hb)
 have B1 : Hid (Below w.heap.size w w1) := BV.out.trans (hb.mono BV.out.size)
 clear hb XV BV
 go_upto_region 4 with fail
 rw [HB.out]
 obtain ⟨x8, _⟩ := aa X1.out 8 rfl
 obtain ⟨x9, _⟩ := aa X1.out 9 rfl
 have sx := X1.out.1
 rcases h3 with rfl | ⟨h2, rfl⟩ | ⟨h2, h3⟩
 ·have CN : Hid (ak (w1.alloc (.cells ([O, uE A 3, uE true 7].map (Value.int .i64)).toArray 28)).drew w1.heap.size ([O, uE A 3, uE true 7].map (Value.int .i64))) := aD w1 _ _
  have BN0 := B1.out.alloc B1.out.size (.cells ([O, uE A 3, uE true 7].map (Value.int .i64)).toArray 28)
  have BN : Hid (Below w.heap.size w (w1.alloc (.cells ([O, uE A 3, uE true 7].map (Value.int .i64)).toArray 28)).drew) := ⟨BN0.os, BN0.tape, BN0.output, BN0.size, BN0.block⟩
  clear BN0
  have e2 : ((2 : Int) == 2 || (2 : Int) == 3) = true := by simp
  have e2 := hid e2
  refine wp_region_held_drew (S := fun w' => w'.cell? ⟨B, 8, none⟩ = some (.int .i64 ua) ∧ w'.cell? ⟨B, 9, none⟩ = some (.int .i64 2)) (by kernel_rfl) ?_ (fun hHeld => ?_)
  ·go_keep
  refine tkA 0 rfl ?_
  refine tkA 1 rfl ?_
  refine tkA 2 rfl ?_
  refine tkA 3 rfl ?_
  refine tkA 6 rfl ?_
  refine tkA 7 rfl ?_
  refine tkA 8 rfl ?_
  refine tkA 9 rfl ?_
  refine rdH 4 rfl fun K hK => ?_
  go_simp
  refine (aZ ua 0 172800 _ HA.out).mono ?_
  rintro e w2 ⟨rfl, rfl⟩
  refine hK.out _ _ ?_ (fun hHeld => ?_)
  ·go_keep
  clear hK K
  try simp only [Act.put, j]
  refine rdH 5 rfl fun K hK => ?_
  go_simp
  refine (aG _ _ _).mono ?_
  rintro e w2 ⟨rfl, rfl⟩
  refine hK.out _ _ ?_ (fun hHeld => ?_)
  ·go_keep
  clear hK K
  try simp only [Act.put, j]
  refine tkA 10 rfl ?_
  refine tkD 11 rfl ?_
  refine tkD 12 rfl ?_
  refine tkD 13 rfl ?_
  refine tkD 14 rfl ?_
  refine tkA 15 rfl ?_
  refine rdH 16 rfl fun K hK => ?_
  go_simp
  refine (aG _ _ _).mono ?_
  rintro e w2 ⟨rfl, rfl⟩
  refine hK.out _ _ ?_ (fun hHeld => ?_)
  ·go_keep
  clear hK K
  try simp only [Act.put, j]
  refine rdH 17 rfl fun K hK => ?_
  go_simp
  refine hK.out _ _ ?_ (fun hHeld => ?_)
  ·go_keep
  clear hK K
  try simp only [Act.put, j]
  refine rdH 18 rfl fun K hK => ?_
  go_simp
  refine (iW [O, uE A 3, uE true 7] w1.heap.size 3 _ CN.out (by simp)).mono ?_
  rintro e w2 ⟨rfl, rfl⟩
  refine hK.out _ _ ?_ (fun hHeld => ?_)
  ·go_keep
  clear hK K
  try simp only [Act.put, j]
  refine tkA 19 rfl ?_
  refine wpAnyH_done (by kernel_rfl) ?_ _
  go_wp2
  go_ret
  exact ⟨ay (by first | rfl | rw [e2.out]), BN.out⟩
 ·have CN : Hid (ak (w1.alloc (.cells ([O, uE A 3, uE true 7].map (Value.int .i64)).toArray 28)).drew w1.heap.size ([O, uE A 3, uE true 7].map (Value.int .i64))) := aD w1 _ _
  have BN0 := B1.out.alloc B1.out.size (.cells ([O, uE A 3, uE true 7].map (Value.int .i64)).toArray 28)
  have BN : Hid (Below w.heap.size w (w1.alloc (.cells ([O, uE A 3, uE true 7].map (Value.int .i64)).toArray 28)).drew) := ⟨BN0.os, BN0.tape, BN0.output, BN0.size, BN0.block⟩
  clear BN0
  have e2 : ((3 : Int) == 2 || (3 : Int) == 3) = true := by simp
  have e2 := hid e2
  have d2 : ((3 : Int) == 2) = false := by simp
  refine wp_region_held_drew (S := fun w' => w'.cell? ⟨B, 8, none⟩ = some (.int .i64 ua) ∧ w'.cell? ⟨B, 9, none⟩ = some (.int .i64 3)) (by kernel_rfl) ?_ (fun hHeld => ?_)
  ·go_keep
  refine tkA 0 rfl ?_
  refine tkA 1 rfl ?_
  refine tkA 2 rfl ?_
  refine tkA 3 rfl ?_
  refine tkA 6 rfl ?_
  refine tkA 7 rfl ?_
  refine tkA 8 rfl ?_
  refine tkA 9 rfl ?_
  refine rdH 4 rfl fun K hK => ?_
  go_simp
  refine (aZ ua 0 172800 _ HA.out).mono ?_
  rintro e w2 ⟨rfl, rfl⟩
  refine hK.out _ _ ?_ (fun hHeld => ?_)
  ·go_keep
  clear hK K
  try simp only [Act.put, j]
  refine rdH 5 rfl fun K hK => ?_
  go_simp
  refine (aG _ _ _).mono ?_
  rintro e w2 ⟨rfl, rfl⟩
  refine hK.out _ _ ?_ (fun hHeld => ?_)
  ·go_keep
  clear hK K
  try simp only [Act.put, j]
  refine tkA 10 rfl ?_
  refine tkA 11 rfl ?_
  refine tkA 12 rfl ?_
  refine tkA 13 rfl ?_
  refine tkA 14 rfl ?_
  refine tkA 15 rfl ?_
  refine rdH 16 rfl fun K hK => ?_
  go_simp
  refine (aG _ _ _).mono ?_
  rintro e w2 ⟨rfl, rfl⟩
  refine hK.out _ _ ?_ (fun hHeld => ?_)
  ·go_keep
  clear hK K
  try simp only [Act.put, j]
  refine rdH 17 rfl fun K hK => ?_
  go_simp
  refine hK.out _ _ ?_ (fun hHeld => ?_)
  ·go_keep
  clear hK K
  try simp only [Act.put, j]
  refine rdH 18 rfl fun K hK => ?_
  go_simp
  refine (iW [O, uE A 3, uE true 7] w1.heap.size 3 _ CN.out (by simp)).mono ?_
  rintro e w2 ⟨rfl, rfl⟩
  refine hK.out _ _ ?_ (fun hHeld => ?_)
  ·go_keep
  clear hK K
  try simp only [Act.put, j]
  refine tkA 19 rfl ?_
  refine wpAnyH_done (by kernel_rfl) ?_ _
  go_wp2
  go_ret
  exact ⟨ay (by first | rfl | rw [e2.out]), BN.out⟩
 ·have CN : Hid (ak (w1.alloc (.cells ([O, uE A 3, uE false 7].map (Value.int .i64)).toArray 28)).drew w1.heap.size ([O, uE A 3, uE false 7].map (Value.int .i64))) := aD w1 _ _
  have BN0 := B1.out.alloc B1.out.size (.cells ([O, uE A 3, uE false 7].map (Value.int .i64)).toArray 28)
  have BN : Hid (Below w.heap.size w (w1.alloc (.cells ([O, uE A 3, uE false 7].map (Value.int .i64)).toArray 28)).drew) := ⟨BN0.os, BN0.tape, BN0.output, BN0.size, BN0.block⟩
  clear BN0
  have e2 : ((uc : Int) == 2 || (uc : Int) == 3) = false := by simp [h2, h3]
  have e2 := hid e2
  have d2 : ((uc : Int) == 2) = false := by simp [h2]
  have d3 : ((uc : Int) == 3) = false := by simp [h3]
  refine wp_region_held_drew (S := fun w' => w'.cell? ⟨B, 8, none⟩ = some (.int .i64 ua) ∧ w'.cell? ⟨B, 9, none⟩ = some (.int .i64 uc)) (by kernel_rfl) ?_ (fun hHeld => ?_)
  ·go_keep
  refine tkA 0 rfl ?_
  refine tkA 1 rfl ?_
  refine tkA 2 rfl ?_
  refine tkA 3 rfl ?_
  refine tkA 6 rfl ?_
  refine tkA 7 rfl ?_
  refine tkA 8 rfl ?_
  refine tkA 9 rfl ?_
  refine rdH 4 rfl fun K hK => ?_
  go_simp
  refine (aZ ua 0 172800 _ HA.out).mono ?_
  rintro e w2 ⟨rfl, rfl⟩
  refine hK.out _ _ ?_ (fun hHeld => ?_)
  ·go_keep
  clear hK K
  try simp only [Act.put, j]
  refine rdH 5 rfl fun K hK => ?_
  go_simp
  refine (aG _ _ _).mono ?_
  rintro e w2 ⟨rfl, rfl⟩
  refine hK.out _ _ ?_ (fun hHeld => ?_)
  ·go_keep
  clear hK K
  try simp only [Act.put, j]
  refine tkA 10 rfl ?_
  refine tkA 11 rfl ?_
  refine tkA 12 rfl ?_
  refine tkA 13 rfl ?_
  refine tkA 14 rfl ?_
  refine tkA 15 rfl ?_
  refine rdH 16 rfl fun K hK => ?_
  go_simp
  refine (aG _ _ _).mono ?_
  rintro e w2 ⟨rfl, rfl⟩
  refine hK.out _ _ ?_ (fun hHeld => ?_)
  ·go_keep
  clear hK K
  try simp only [Act.put, j]
  refine rdH 17 rfl fun K hK => ?_
  go_simp
  refine hK.out _ _ ?_ (fun hHeld => ?_)
  ·go_keep
  clear hK K
  try simp only [Act.put, j]
  refine rdH 18 rfl fun K hK => ?_
  go_simp
  refine (iW [O, uE A 3, uE false 7] w1.heap.size 3 _ CN.out (by simp)).mono ?_
  rintro e w2 ⟨rfl, rfl⟩
  refine hK.out _ _ ?_ (fun hHeld => ?_)
  ·go_keep
  clear hK K
  try simp only [Act.put, j]
  refine tkA 19 rfl ?_
  refine wpAnyH_done (by kernel_rfl) ?_ _
  go_wp2
  go_ret
  exact ⟨ay (by first | rfl | rw [e2.out]), BN.out⟩
theorem kR (x : Sx.Er) (w : World) : Calls Tryz.prog 197 #[gZ x] w fun e w' => e = .returned (.int .i64 (Sx.pg x)) ∧ Below w.heap.size w w' := by
 obtain ⟨sh, rl, sv, fm, op, uy, um, ud, ua, uc⟩ := x
 cases op
 ·exact vP _ _ _ _ _ _ _ _ _ _
 ·exact vO _ _ _ _ _ _ _ _ _ _
end
section
open Go.RowKit
attribute [local go_sem ↓] Go.wp_at_zero Go.wp_at_succ

def iA (B : Nat) (x : Sx.Er) (w : World) : Prop := w.cell? ⟨B, 0, none⟩ = some (.int .i64 x.shift) ∧ w.cell? ⟨B, 1, none⟩ = some (ag x.rules) ∧ w.cell? ⟨B, 2, none⟩ = some (.int .i64 x.save) ∧ w.cell? ⟨B, 3, none⟩ = some (ag x.format) ∧ w.cell? ⟨B, 4, none⟩ = some (.bool x.opn) ∧ w.cell? ⟨B, 5, none⟩ = some (.int .i64 x.uy) ∧ w.cell? ⟨B, 6, none⟩ = some (.int .i64 x.um) ∧ w.cell? ⟨B, 7, none⟩ = some (.int .i64 x.ud) ∧ w.cell? ⟨B, 8, none⟩ = some (.int .i64 x.uat) ∧ w.cell? ⟨B, 9, none⟩ = some (.int .i64 x.uclock)
theorem dz {B : Nat} {x : Sx.Er} {w w' : World} (h : iA B x w) (hb : Below w.heap.size w w') (hB : B < w.heap.size) : iA B x w' := by
 obtain ⟨b0, b1, b2, b3, b4, b5, b6, b7, b8, b9⟩ := h
 have e := fun k => hb.cell (p := ⟨B, k, none⟩) hB
 exact ⟨(e 0).trans b0, (e 1).trans b1, (e 2).trans b2, (e 3).trans b3, (e 4).trans b4, (e 5).trans b5, (e 6).trans b6, (e 7).trans b7, (e 8).trans b8, (e 9).trans b9⟩
theorem mU {V w3 : World} {n : Nat} (h : Below (V.drewN n).heap.size (V.drewN n) w3) : Below V.heap.size V w3 := ⟨h.os, h.tape, h.output, h.size, h.block⟩
theorem af {V w3 : World} (h : Below V.drew.heap.size V.drew w3) : Below V.heap.size V w3 := ⟨h.os, h.tape, h.output, h.size, h.block⟩
theorem kH {B : Nat} {x : Sx.Er} {w : World} (h : ak w B (ax x)) : iA B x w :=
 ⟨(aa h 0 rfl).1, (aa h 1 rfl).1, (aa h 2 rfl).1, (aa h 3 rfl).1, (aa h 4 rfl).1, (aa h 5 rfl).1, (aa h 6 rfl).1, (aa h 7 rfl).1, (aa h 8 rfl).1, (aa h 9 rfl).1⟩
theorem Ka (x : Sx.Er) (last : Bool) : Sx.eD x last = Sx.az id [uE ((x.rules.isEmpty || Sx.bF x.rules) && Sx.dw x.format) 1, uE (Sx.inB x.shift (-64800) 64800) 3, uE (Sx.inB x.save 0 10800) 3, uE (x.rules.isEmpty || x.save == 0) 1, uE (x.opn == last) 4, Sx.pg x] := by
 have e1 : (x.save == 0) = decide (x.save = 0) := by rw [Bool.eq_iff_iff]; simp
 have e2 : (if x.opn ≠ last then (4 : Int) else Sx.pg x) = if (x.opn == last) = false then 4 else Sx.pg x := by cases x.opn <;> cases last <;> rfl
 unfold Sx.eD
 rw [e2, e1]
 simp only [Sx.az, id, uE]
 cases (x.rules.isEmpty || Sx.bF x.rules) && Sx.dw x.format <;> cases Sx.inB x.shift (-64800) 64800 <;> cases Sx.inB x.save 0 10800 <;> cases x.rules.isEmpty || decide (x.save = 0) <;> cases x.opn == last <;> simp
theorem oQ (x : Sx.Er) (last : Bool) (m : Int) (w : World) (hr : x.rules.length ≤ maxLen) (hf : x.format.length ≤ maxLen) (hm : w.cell? ⟨0, 0, none⟩ = some (.int .i64 m)) (h0 : 0 < w.heap.size) :
  Calls Tryz.prog 156 #[gZ x, .bool last] w fun e w' => e = .returned (.int .i64 (Sx.eD x last)) ∧ Below w.heap.size w w' := by
 rw [Ka]
 have XV := hid (kH (aD w (ax x) 67))
 have BV := hid ((q4B w.heap.size w).alloc (Nat.le_refl _) (.cells (ax x).toArray 67))
 have HMV : Hid ((w.alloc (.cells (ax x).toArray 67)).cell? ⟨0, 0, none⟩ = some (.int .i64 m)) := (BV.out.cell (p := ⟨0, 0, none⟩) h0).trans hm
 have SV : Hid (w.heap.size < (w.alloc (.cells (ax x).toArray 67)).heap.size) := by show _ < _; simp
 clear hm h0
 have HR := hid hr
 have HF := hid hf
 clear hr hf
 obtain ⟨sh, rl, sv, fm, op, uy, um, ud, ua, uc⟩ := x
 dsimp only at HR HF
 obtain ⟨F, hF⟩ : ∃ F, Sx.dw fm = F := ⟨_, rfl⟩
 obtain ⟨A1, hA1⟩ : ∃ A, Sx.inB sh (-64800) 64800 = A := ⟨_, rfl⟩
 obtain ⟨A2, hA2⟩ : ∃ A, Sx.inB sv 0 10800 = A := ⟨_, rfl⟩
 obtain ⟨E, hE⟩ : ∃ E, Sx.pg ⟨sh, rl, sv, fm, op, uy, um, ud, ua, uc⟩ = E := ⟨_, rfl⟩
 dsimp only
 rw [hF, hA1, hA2, hE]
 have HFF := hid hF
 have HA1 := hid hA1
 have HA2 := hid hA2
 have HE := hid hE
 clear hF hA1 hA2 hE
 obtain ⟨B, hB⟩ : ∃ B, w.heap.size = B := ⟨_, rfl⟩
 have HB := hid hB
 rw [hB] at XV SV
 obtain ⟨V, hV⟩ : ∃ V, w.alloc (.cells (ax ⟨sh, rl, sv, fm, op, uy, um, ud, ua, uc⟩).toArray 67) = V := ⟨_, rfl⟩
 go_enter Tryz.func156, Tryz.ntmps156
 go_upto_region 1 with fail
 rw [show w.alloc (.cells #[.int .i64 sh, ag rl, .int .i64 sv, ag fm, .bool op, .int .i64 uy, .int .i64 um, .int .i64 ud, .int .i64 ua, .int .i64 uc] 67) = V from hV]
 try rw [hB]
 rw [hV] at XV BV HMV SV
 clear hB hV
 cases hr : rl.isEmpty
 case true =>
  obtain rfl : rl = [] := List.isEmpty_iff.1 hr
  clear hr
  have SS : iA B ⟨sh, [], sv, fm, op, uy, um, ud, ua, uc⟩ V.drew := XV.out
  have HMD : V.drew.cell? ⟨0, 0, none⟩ = some (.int .i64 m) := HMV.out
  have SD : B < V.drew.heap.size := SV.out
  refine wp_region_held_drew (S := fun w' => iA B ⟨sh, [], sv, fm, op, uy, um, ud, ua, uc⟩ w') (by kernel_rfl) SS (fun hHeld => ?_)
  refine tkB 0 rfl ?_
  refine tkB 1 rfl ?_
  refine tkB 2 rfl ?_
  refine tkB 3 rfl ?_
  refine tkD 4 rfl ?_
  refine tkD 5 rfl ?_
  refine tkD 6 rfl ?_
  refine tkB 7 rfl ?_
  refine tkB 8 rfl ?_
  refine tkB 9 rfl ?_
  refine tkB 10 rfl ?_
  refine tkB 14 rfl ?_
  refine tkB 15 rfl ?_
  refine tkB 18 rfl ?_
  refine tkB 19 rfl ?_
  refine tkB 22 rfl ?_
  refine tkB 23 rfl ?_
  refine tkB 24 rfl ?_
  refine tkB 31 rfl ?_
  refine tkB 32 rfl ?_
  refine tkB 33 rfl ?_
  refine tkB 34 rfl ?_
  refine tkB 36 rfl ?_
  refine rdH 11 rfl fun K hK => ?_
  go_simp
  refine (vU fm m _ HF.out HMD HFF.out).mono ?_
  rintro e w2 ⟨rfl, nf, rfl⟩
  refine hK.out _ _ ?_ (fun hHeld => ?_)
  ·exact hHeld
  clear hK K
  try simp only [Act.put, j]
  refine tkB 12 rfl ?_
  refine rdH 13 rfl fun K hK => ?_
  go_simp
  refine (aG _ _ _).mono ?_
  rintro e w2 ⟨rfl, rfl⟩
  refine hK.out _ _ ?_ (fun hHeld => ?_)
  ·exact hHeld
  clear hK K
  try simp only [Act.put, j]
  refine rdH 16 rfl fun K hK => ?_
  go_simp
  refine (aZ sh (-64800) 64800 _ HA1.out).mono ?_
  rintro e w2 ⟨rfl, rfl⟩
  refine hK.out _ _ ?_ (fun hHeld => ?_)
  ·exact hHeld
  clear hK K
  try simp only [Act.put, j]
  refine rdH 17 rfl fun K hK => ?_
  go_simp
  refine (aG _ _ _).mono ?_
  rintro e w2 ⟨rfl, rfl⟩
  refine hK.out _ _ ?_ (fun hHeld => ?_)
  ·exact hHeld
  clear hK K
  try simp only [Act.put, j]
  refine rdH 20 rfl fun K hK => ?_
  go_simp
  refine (aZ sv 0 10800 _ HA2.out).mono ?_
  rintro e w2 ⟨rfl, rfl⟩
  refine hK.out _ _ ?_ (fun hHeld => ?_)
  ·exact hHeld
  clear hK K
  try simp only [Act.put, j]
  refine rdH 21 rfl fun K hK => ?_
  go_simp
  refine (aG _ _ _).mono ?_
  rintro e w2 ⟨rfl, rfl⟩
  refine hK.out _ _ ?_ (fun hHeld => ?_)
  ·exact hHeld
  clear hK K
  try simp only [Act.put, j]
  refine tkB 25 rfl ?_
  refine tkD 26 rfl ?_
  refine tkD 27 rfl ?_
  refine tkD 28 rfl ?_
  refine tkB 29 rfl ?_
  refine rdH 30 rfl fun K hK => ?_
  go_simp
  refine (aG _ _ _).mono ?_
  rintro e w2 ⟨rfl, rfl⟩
  refine hK.out _ _ ?_ (fun hHeld => ?_)
  ·exact hHeld
  clear hK K
  try simp only [Act.put, j]
  refine rdH 35 rfl fun K hK => ?_
  go_simp
  refine (aG _ _ _).mono ?_
  rintro e w2 ⟨rfl, rfl⟩
  refine hK.out _ _ ?_ (fun hHeld => ?_)
  ·exact hHeld
  clear hK K
  try simp only [Act.put, j]
  refine rdH 37 rfl fun K hK => ?_
  go_simp
  refine (kR ⟨sh, [], sv, fm, op, uy, um, ud, ua, uc⟩ _).mono ?_
  rintro e w3 ⟨rfl, hb3⟩
  rw [HE.out]
  have S3 : iA B ⟨sh, [], sv, fm, op, uy, um, ud, ua, uc⟩ w3 := dz hHeld hb3 SD
  have BB : Hid (Below V.heap.size V w3) := by first | exact mU hb3 | exact af hb3
  have S4 : B < w3.heap.size := q4N SD hb3.size
  have CN := hid (aD w3 ([uE F 1, uE A1 3, uE A2 3, uE true 1, uE (op == last) 4, E].map (Value.int .i64)) 28)
  clear hb3
  refine hK.out _ _ ?_ (fun hHeld => ?_)
  ·exact S3
  clear hK K
  try simp only [Act.put, j]
  refine rdH 38 rfl fun K hK => ?_
  go_simp
  refine hK.out _ _ ?_ (fun hHeld => ?_)
  ·exact dz S3 ((q4B _ _).alloc (Nat.le_refl _) _) S4
  clear hK K
  try simp only [Act.put, j]
  refine rdH 39 rfl fun K hK => ?_
  go_simp
  refine (iW [uE F 1, uE A1 3, uE A2 3, uE true 1, uE (op == last) 4, E] w3.heap.size 6 _ CN.out (by simp)).mono ?_
  rintro e w2 ⟨rfl, rfl⟩
  refine hK.out _ _ ?_ (fun hHeld => ?_)
  ·exact hHeld
  clear hK K
  try simp only [Act.put, j]
  refine tkB 40 rfl ?_
  refine wpAnyH_done (by kernel_rfl) ?_ _
  have BF : Below w.heap.size w (w3.alloc (.cells ([uE F 1, uE A1 3, uE A2 3, uE true 1, uE (op == last) 4, E].map (Value.int .i64)).toArray 28)) := BV.out.trans ((BB.out.alloc BB.out.size _).mono BV.out.size)
  go_wp2
  go_ret
  exact ⟨ay (by simp []), BF⟩
 case false =>
  cases hN : Sx.bF rl
  case true =>
   have HN := hid hN
   clear hN
   have SS : iA B ⟨sh, rl, sv, fm, op, uy, um, ud, ua, uc⟩ V.drew := XV.out
   have HMD : V.drew.cell? ⟨0, 0, none⟩ = some (.int .i64 m) := HMV.out
   have SD : B < V.drew.heap.size := SV.out
   refine wp_region_held_drew (S := fun w' => iA B ⟨sh, rl, sv, fm, op, uy, um, ud, ua, uc⟩ w') (by kernel_rfl) SS (fun hHeld => ?_)
   refine tkB 0 rfl ?_
   refine tkB 1 rfl ?_
   refine tkB 2 rfl ?_
   refine tkB 3 rfl ?_
   refine tkB 4 rfl ?_
   refine tkB 5 rfl ?_
   refine tkB 14 rfl ?_
   refine tkB 15 rfl ?_
   refine tkB 18 rfl ?_
   refine tkB 19 rfl ?_
   refine tkB 22 rfl ?_
   refine tkB 23 rfl ?_
   refine tkB 24 rfl ?_
   refine tkB 31 rfl ?_
   refine tkB 32 rfl ?_
   refine tkB 33 rfl ?_
   refine tkB 34 rfl ?_
   refine tkB 36 rfl ?_
   refine rdH 6 rfl fun K hK => ?_
   go_simp
   refine (fw rl _ HR.out HN.out).mono ?_
   rintro e w2 ⟨rfl, rfl⟩
   refine hK.out _ _ ?_ (fun hHeld => ?_)
   ·exact hHeld
   clear hK K
   try simp only [Act.put, j]
   refine tkB 7 rfl ?_
   refine tkB 8 rfl ?_
   refine tkB 9 rfl ?_
   refine tkB 10 rfl ?_
   refine rdH 11 rfl fun K hK => ?_
   go_simp
   refine (vU fm m _ HF.out HMD HFF.out).mono ?_
   rintro e w2 ⟨rfl, nf, rfl⟩
   refine hK.out _ _ ?_ (fun hHeld => ?_)
   ·exact hHeld
   clear hK K
   try simp only [Act.put, j]
   refine tkB 12 rfl ?_
   refine rdH 13 rfl fun K hK => ?_
   go_simp
   refine (aG _ _ _).mono ?_
   rintro e w2 ⟨rfl, rfl⟩
   refine hK.out _ _ ?_ (fun hHeld => ?_)
   ·exact hHeld
   clear hK K
   try simp only [Act.put, j]
   refine rdH 16 rfl fun K hK => ?_
   go_simp
   refine (aZ sh (-64800) 64800 _ HA1.out).mono ?_
   rintro e w2 ⟨rfl, rfl⟩
   refine hK.out _ _ ?_ (fun hHeld => ?_)
   ·exact hHeld
   clear hK K
   try simp only [Act.put, j]
   refine rdH 17 rfl fun K hK => ?_
   go_simp
   refine (aG _ _ _).mono ?_
   rintro e w2 ⟨rfl, rfl⟩
   refine hK.out _ _ ?_ (fun hHeld => ?_)
   ·exact hHeld
   clear hK K
   try simp only [Act.put, j]
   refine rdH 20 rfl fun K hK => ?_
   go_simp
   refine (aZ sv 0 10800 _ HA2.out).mono ?_
   rintro e w2 ⟨rfl, rfl⟩
   refine hK.out _ _ ?_ (fun hHeld => ?_)
   ·exact hHeld
   clear hK K
   try simp only [Act.put, j]
   refine rdH 21 rfl fun K hK => ?_
   go_simp
   refine (aG _ _ _).mono ?_
   rintro e w2 ⟨rfl, rfl⟩
   refine hK.out _ _ ?_ (fun hHeld => ?_)
   ·exact hHeld
   clear hK K
   try simp only [Act.put, j]
   refine tkB 25 rfl ?_
   refine tkB 26 rfl ?_
   refine tkB 27 rfl ?_
   refine tkB 28 rfl ?_
   refine tkB 29 rfl ?_
   refine rdH 30 rfl fun K hK => ?_
   go_simp
   refine (aG _ _ _).mono ?_
   rintro e w2 ⟨rfl, rfl⟩
   refine hK.out _ _ ?_ (fun hHeld => ?_)
   ·exact hHeld
   clear hK K
   try simp only [Act.put, j]
   refine rdH 35 rfl fun K hK => ?_
   go_simp
   refine (aG _ _ _).mono ?_
   rintro e w2 ⟨rfl, rfl⟩
   refine hK.out _ _ ?_ (fun hHeld => ?_)
   ·exact hHeld
   clear hK K
   try simp only [Act.put, j]
   refine rdH 37 rfl fun K hK => ?_
   go_simp
   refine (kR ⟨sh, rl, sv, fm, op, uy, um, ud, ua, uc⟩ _).mono ?_
   rintro e w3 ⟨rfl, hb3⟩
   rw [HE.out]
   have S3 : iA B ⟨sh, rl, sv, fm, op, uy, um, ud, ua, uc⟩ w3 := dz hHeld hb3 SD
   have BB : Hid (Below V.heap.size V w3) := by first | exact mU hb3 | exact af hb3
   have S4 : B < w3.heap.size := q4N SD hb3.size
   have CN := hid (aD w3 ([uE F 1, uE A1 3, uE A2 3, uE (sv == 0) 1, uE (op == last) 4, E].map (Value.int .i64)) 28)
   clear hb3
   refine hK.out _ _ ?_ (fun hHeld => ?_)
   ·exact S3
   clear hK K
   try simp only [Act.put, j]
   refine rdH 38 rfl fun K hK => ?_
   go_simp
   refine hK.out _ _ ?_ (fun hHeld => ?_)
   ·exact dz S3 ((q4B _ _).alloc (Nat.le_refl _) _) S4
   clear hK K
   try simp only [Act.put, j]
   refine rdH 39 rfl fun K hK => ?_
   go_simp
   refine (iW [uE F 1, uE A1 3, uE A2 3, uE (sv == 0) 1, uE (op == last) 4, E] w3.heap.size 6 _ CN.out (by simp)).mono ?_
   rintro e w2 ⟨rfl, rfl⟩
   refine hK.out _ _ ?_ (fun hHeld => ?_)
   ·exact hHeld
   clear hK K
   try simp only [Act.put, j]
   refine tkB 40 rfl ?_
   refine wpAnyH_done (by kernel_rfl) ?_ _
   have BF : Below w.heap.size w (w3.alloc (.cells ([uE F 1, uE A1 3, uE A2 3, uE (sv == 0) 1, uE (op == last) 4, E].map (Value.int .i64)).toArray 28)) := BV.out.trans ((BB.out.alloc BB.out.size _).mono BV.out.size)
   go_wp2
   go_ret
   exact ⟨ay (by simp [hr, HN.out]), BF⟩
  case false =>
   have HN := hid hN
   clear hN
   have SS : iA B ⟨sh, rl, sv, fm, op, uy, um, ud, ua, uc⟩ V.drew := XV.out
   have HMD : V.drew.cell? ⟨0, 0, none⟩ = some (.int .i64 m) := HMV.out
   have SD : B < V.drew.heap.size := SV.out
   refine wp_region_held_drew (S := fun w' => iA B ⟨sh, rl, sv, fm, op, uy, um, ud, ua, uc⟩ w') (by kernel_rfl) SS (fun hHeld => ?_)
   refine tkB 0 rfl ?_
   refine tkB 1 rfl ?_
   refine tkB 2 rfl ?_
   refine tkB 3 rfl ?_
   refine tkB 4 rfl ?_
   refine tkB 5 rfl ?_
   refine tkB 14 rfl ?_
   refine tkB 15 rfl ?_
   refine tkB 18 rfl ?_
   refine tkB 19 rfl ?_
   refine tkB 22 rfl ?_
   refine tkB 23 rfl ?_
   refine tkB 24 rfl ?_
   refine tkB 31 rfl ?_
   refine tkB 32 rfl ?_
   refine tkB 33 rfl ?_
   refine tkB 34 rfl ?_
   refine tkB 36 rfl ?_
   refine rdH 6 rfl fun K hK => ?_
   go_simp
   refine (fw rl _ HR.out HN.out).mono ?_
   rintro e w2 ⟨rfl, rfl⟩
   refine hK.out _ _ ?_ (fun hHeld => ?_)
   ·exact hHeld
   clear hK K
   try simp only [Act.put, j]
   refine tkB 7 rfl ?_
   refine tkB 8 rfl ?_
   refine tkD 9 rfl ?_
   refine tkD 10 rfl ?_
   refine tkD 11 rfl ?_
   refine tkB 12 rfl ?_
   refine rdH 13 rfl fun K hK => ?_
   go_simp
   refine (aG _ _ _).mono ?_
   rintro e w2 ⟨rfl, rfl⟩
   refine hK.out _ _ ?_ (fun hHeld => ?_)
   ·exact hHeld
   clear hK K
   try simp only [Act.put, j]
   refine rdH 16 rfl fun K hK => ?_
   go_simp
   refine (aZ sh (-64800) 64800 _ HA1.out).mono ?_
   rintro e w2 ⟨rfl, rfl⟩
   refine hK.out _ _ ?_ (fun hHeld => ?_)
   ·exact hHeld
   clear hK K
   try simp only [Act.put, j]
   refine rdH 17 rfl fun K hK => ?_
   go_simp
   refine (aG _ _ _).mono ?_
   rintro e w2 ⟨rfl, rfl⟩
   refine hK.out _ _ ?_ (fun hHeld => ?_)
   ·exact hHeld
   clear hK K
   try simp only [Act.put, j]
   refine rdH 20 rfl fun K hK => ?_
   go_simp
   refine (aZ sv 0 10800 _ HA2.out).mono ?_
   rintro e w2 ⟨rfl, rfl⟩
   refine hK.out _ _ ?_ (fun hHeld => ?_)
   ·exact hHeld
   clear hK K
   try simp only [Act.put, j]
   refine rdH 21 rfl fun K hK => ?_
   go_simp
   refine (aG _ _ _).mono ?_
   rintro e w2 ⟨rfl, rfl⟩
   refine hK.out _ _ ?_ (fun hHeld => ?_)
   ·exact hHeld
   clear hK K
   try simp only [Act.put, j]
   refine tkB 25 rfl ?_
   refine tkB 26 rfl ?_
   refine tkB 27 rfl ?_
   refine tkB 28 rfl ?_
   refine tkB 29 rfl ?_
   refine rdH 30 rfl fun K hK => ?_
   go_simp
   refine (aG _ _ _).mono ?_
   rintro e w2 ⟨rfl, rfl⟩
   refine hK.out _ _ ?_ (fun hHeld => ?_)
   ·exact hHeld
   clear hK K
   try simp only [Act.put, j]
   refine rdH 35 rfl fun K hK => ?_
   go_simp
   refine (aG _ _ _).mono ?_
   rintro e w2 ⟨rfl, rfl⟩
   refine hK.out _ _ ?_ (fun hHeld => ?_)
   ·exact hHeld
   clear hK K
   try simp only [Act.put, j]
   refine rdH 37 rfl fun K hK => ?_
   go_simp
   refine (kR ⟨sh, rl, sv, fm, op, uy, um, ud, ua, uc⟩ _).mono ?_
   rintro e w3 ⟨rfl, hb3⟩
   rw [HE.out]
   have S3 : iA B ⟨sh, rl, sv, fm, op, uy, um, ud, ua, uc⟩ w3 := dz hHeld hb3 SD
   have BB : Hid (Below V.heap.size V w3) := by first | exact mU hb3 | exact af hb3
   have S4 : B < w3.heap.size := q4N SD hb3.size
   have CN := hid (aD w3 ([uE false 1, uE A1 3, uE A2 3, uE (sv == 0) 1, uE (op == last) 4, E].map (Value.int .i64)) 28)
   clear hb3
   refine hK.out _ _ ?_ (fun hHeld => ?_)
   ·exact S3
   clear hK K
   try simp only [Act.put, j]
   refine rdH 38 rfl fun K hK => ?_
   go_simp
   refine hK.out _ _ ?_ (fun hHeld => ?_)
   ·exact dz S3 ((q4B _ _).alloc (Nat.le_refl _) _) S4
   clear hK K
   try simp only [Act.put, j]
   refine rdH 39 rfl fun K hK => ?_
   go_simp
   refine (iW [uE false 1, uE A1 3, uE A2 3, uE (sv == 0) 1, uE (op == last) 4, E] w3.heap.size 6 _ CN.out (by simp)).mono ?_
   rintro e w2 ⟨rfl, rfl⟩
   refine hK.out _ _ ?_ (fun hHeld => ?_)
   ·exact hHeld
   clear hK K
   try simp only [Act.put, j]
   refine tkB 40 rfl ?_
   refine wpAnyH_done (by kernel_rfl) ?_ _
   have BF : Below w.heap.size w (w3.alloc (.cells ([uE false 1, uE A1 3, uE A2 3, uE (sv == 0) 1, uE (op == last) 4, E].map (Value.int .i64)).toArray 28)) := BV.out.trans ((BB.out.alloc BB.out.size _).mono BV.out.size)
   go_wp2
   go_ret
   exact ⟨ay (by simp [hr, HN.out]), BF⟩
end
section
open Go.RowKit
attribute [local go_sem ↓] Go.wp_at_zero Go.wp_at_succ

theorem Ko {α : Type} {z : Nat} {cells : α → List Value} {w : World} {a : Option Addr} {n cap k : Nat} {xs : List α} (h : Rd z cells w (.slice a n cap) xs) (hk : k ≤ xs.length) (c : Nat) : Rd z cells w (.slice a k c) (xs.take k) := by
 obtain ⟨a', cap', h1, h2⟩ := h
 simp at h1
 obtain ⟨rfl, _, _⟩ := h1
 have hl : (xs.take k).length = k := by simp; omega
 refine ⟨a, c, by rw [hl], fun hn => ?_⟩
 have hx : xs ≠ [] := by rintro rfl; simp at hn
 obtain ⟨b, o, e, hb, hc⟩ := h2 hx
 refine ⟨b, o, e, hb, fun i x hi q u hu => hc i x ?_ q u hu⟩
 have := (q4L.1 hi).1
 rw [List.getElem?_take_of_lt (by omega)] at hi
 exact hi
theorem sw : ∀ (l : List Sx.Er) (x : Sx.Er), Sx.iI (l ++ [x]) = Sx.az id [Sx.az (fun e => Sx.eD e false) l, Sx.eD x true]
 | [], x => by simp [Sx.iI, Sx.az]
 | y :: r, x => by
   have ih := sw r x
   have e : Sx.iI (y :: r ++ [x]) = if Sx.eD y false ≠ 0 then Sx.eD y false else Sx.iI (r ++ [x]) := by
    cases r <;> rfl
   rw [e, ih]
   simp only [Sx.az, id]
   by_cases q : Sx.eD y false = 0 <;> simp [q]
theorem uL (x : Sx.Er) (m : Int) (w : World) (hr : x.rules.length ≤ maxLen) (hf : x.format.length ≤ maxLen) (hm : w.cell? ⟨0, 0, none⟩ = some (.int .i64 m)) (h0 : 0 < w.heap.size) :
  Calls Tryz.prog 155 #[gZ x] w fun e w' => e = .returned (.int .i64 (Sx.eD x false)) ∧ Below w.heap.size w w' := by
 have BV := hid ((q4B w.heap.size w).alloc (Nat.le_refl _) (.cells (ax x).toArray 67))
 have XV := hid (aD w (ax x) 67)
 have C := hid (oQ x false m (w.alloc (.cells (ax x).toArray 67)) hr hf ((BV.out.cell (p := ⟨0, 0, none⟩) h0).trans hm) (q4N h0 BV.out.size))
 obtain ⟨⟨x0, _⟩, ⟨x1, _⟩, ⟨x2, _⟩, ⟨x3, _⟩, ⟨x4, _⟩, ⟨x5, _⟩, ⟨x6, _⟩, ⟨x7, _⟩, ⟨x8, _⟩, ⟨x9, _⟩, -⟩ := cp10 XV.out
 clear hr hf hm h0 x0 x1 x2 x3 x4 x5 x6 x7 x8 x9
 go_enter Tryz.func155, Tryz.ntmps155
 go_wp2_with fail
 refine C.out.mono ?_
 rintro e w1 ⟨rfl, hb⟩
 go_wp2
 go_ret
 exact ⟨rfl, BV.out.trans (hb.mono BV.out.size)⟩
theorem yY (xs : List Sx.Er) (rv : Value) (m : Int) (w : World) (h : gQ w rv xs) (hs : ∀ x ∈ xs, x.rules.length ≤ maxLen ∧ x.format.length ≤ maxLen) (hl : xs.length ≤ 1000) (hm : w.cell? ⟨0, 0, none⟩ = some (.int .i64 m)) (h0 : 0 < w.heap.size) :
  Calls Tryz.prog 154 #[rv, .func (.func 155) #[] #[]] w fun e w' => e = .returned (.int .i64 (Sx.az (fun e => Sx.eD e false) xs)) ∧ Below w.heap.size w w' := by
 obtain ⟨R, hR⟩ : ∃ R, Sx.az (fun e => Sx.eD e false) xs = R := ⟨_, rfl⟩
 rw [hR]
 have HR : Hid (R = Sx.az (fun e => Sx.eD e false) (xs.drop 0)) := hR.symm
 obtain ⟨ra, rcap, rfl⟩ := bP h
 have H := hid h
 have HS := hid hs
 have HM := hid hm
 have H0 := hid h0
 clear hR h hs hm h0
 have eg : ∀ args w, (callFunc 155 args).run Tryz.prog w = .ok (.enter 155 args) w := enters_of Tryz.func155 (by kernel_rfl) rfl
 go_enter Tryz.func154, Tryz.ntmps154
 go_wp2_with fail
 go_loopw [10] (fun a wr => ∃ k : Nat, k ≤ xs.length ∧ a = .int .i64 k ∧ Hid (Below w.heap.size w wr) ∧ Hid (R = Sx.az (fun e => Sx.eD e false) (xs.drop k))) (fun a _ => xs.length - (intOf a).toNat)
 case atStart => exact ⟨0, by omega, rfl, q4B _ _, HR⟩
 case round =>
  clear HR
  obtain ⟨k, hk, rfl, B0, HR⟩ := hrel
  by_cases hlt : k < xs.length
  case neg =>
   have HR2 : Hid (R = 0) := by show _ = _; rw [HR.out]; exact Sx.eX _ hlt
   go_wp2
   go_ret
   exact ⟨ay (by rw [HR2.out]), B0.out⟩
  obtain ⟨x, hx⟩ : ∃ x, xs[k]? = some x := ⟨_, q4G hlt⟩
  obtain ⟨rb, ro, rfl, hrb, hc⟩ := dx (au H.out B0.out) hx
  obtain ⟨c0, c1, c2, c3, c4, c5, c6, c7, c8, c9⟩ := zJ hc
  have HX := hid hx
  have SX := hid (HS.out x (List.mem_of_getElem? hx))
  have HM2 : Hid (wr.cell? ⟨0, 0, none⟩ = some (.int .i64 m)) := (B0.out.cell (p := ⟨0, 0, none⟩) H0.out).trans HM.out
  have H02 : Hid (0 < wr.heap.size) := q4N H0.out B0.out.size
  clear hx hc
  have BW := hid ((q4B wr.heap.size wr).alloc (Nat.le_refl _) (.cells #[.int .i64 x.shift, ag x.rules, .int .i64 x.save, ag x.format, .bool x.opn, .int .i64 x.uy, .int .i64 x.um, .int .i64 x.ud, .int .i64 x.uat, .int .i64 x.uclock] 67))
  have BV := hid (B0.out.alloc B0.out.size (.cells #[.int .i64 x.shift, ag x.rules, .int .i64 x.save, ag x.format, .bool x.opn, .int .i64 x.uy, .int .i64 x.um, .int .i64 x.ud, .int .i64 x.uat, .int .i64 x.uclock] 67))
  have HM3 : Hid ((wr.alloc (.cells #[.int .i64 x.shift, ag x.rules, .int .i64 x.save, ag x.format, .bool x.opn, .int .i64 x.uy, .int .i64 x.um, .int .i64 x.ud, .int .i64 x.uat, .int .i64 x.uclock] 67)).cell? ⟨0, 0, none⟩ = some (.int .i64 m)) := (BW.out.cell (p := ⟨0, 0, none⟩) H02.out).trans HM2.out
  have H03 : Hid (0 < (wr.alloc (.cells #[.int .i64 x.shift, ag x.rules, .int .i64 x.save, ag x.format, .bool x.opn, .int .i64 x.uy, .int .i64 x.um, .int .i64 x.ud, .int .i64 x.uat, .int .i64 x.uclock] 67)).heap.size) := q4N H02.out BW.out.size
  go_wp2_with fail
  refine (uL x m _ SX.out.1 SX.out.2 HM3.out H03.out).mono ?_
  rintro e w1 ⟨rfl, hb⟩
  have B1 : Hid (Below w.heap.size w w1) := BV.out.trans (hb.mono BV.out.size)
  clear hb B0 BV BW HM2 HM3 H02 H03 c0 c1 c2 c3 c4 c5 c6 c7 c8 c9 hrb
  obtain ⟨E, hE⟩ : ∃ E, (fun e => Sx.eD e false) x = E := ⟨_, rfl⟩
  try simp only [] at hE
  rw [hE]
  by_cases h0 : E = 0
  case neg =>
   have HR2 : Hid (R = E) := by show _ = _; rw [← hE]; exact Sx.iU (fun e => Sx.eD e false) HX.out HR.out (by rw [hE]; exact h0)
   have h0' : (E != 0) = true := by simp [h0]
   clear hE
   go_wp2
   go_ret
   exact ⟨ay (by rw [HR2.out]), B1.out⟩
  have HR2 : Hid (R = Sx.az (fun e => Sx.eD e false) (xs.drop (k + 1))) := Sx.iE (fun e => Sx.eD e false) HX.out HR.out (by rw [hE]; exact h0)
  clear hE HR
  subst h0
  go_wp2
  go_roundw
  case rel => exact ⟨k + 1, by omega, by go_num, B1, HR2⟩
  case measure => simp [intOf]; omega
theorem JQ (z : Sx.Zn) (l : List Sx.Er) (x : Sx.Er) (h : z.eras = l ++ [x]) (hn : Sx.bF z.name = true) : Sx.dB z = Sx.az id [Sx.az (fun e => Sx.eD e false) l, Sx.eD x true] := by
 unfold Sx.dB
 rw [hn, h, sw]
 simp
/- slices that do not outgrow their room -/
def CapE (ev : Value) (n : Nat) : Prop := ∃ a c, ev = .slice a n c ∧ n ≤ c
def oL (w : World) (v : Value) (zs : List Sx.Zn) : Prop := ∀ (i : Nat) (x : Sx.Zn) (b o cap : Nat), zs[i]? = some x → v = .slice (some ⟨b, o, none⟩) zs.length cap → ∀ ev, w.cell? ⟨b, o + i * 2 + 1, none⟩ = some ev → CapE ev x.eras.length
theorem mW {w w' : World} {v : Value} {zs : List Sx.Zn} (h : oL w v zs) (hr : fE w v zs) (hb : Below w.heap.size w w') : oL w' v zs := by
 intro i x b o cap hx hv ev he
 subst hv
 obtain ⟨b', o', ea, ecap, e, hlt, _⟩ := kw hr hx
 simp only [Option.some.injEq, Addr.mk.injEq] at e
 obtain ⟨rfl, rfl, _⟩ := e
 exact h i x b o cap hx rfl ev ((hb.cell (p := ⟨b, o + i * 2 + 1, none⟩) hlt).symm.trans he)
structure ZnH (B eb off : Nat) (nm : Tx.Bs) (sl : Value) (x : Sx.Er) (w : World) : Prop where
 c0 : w.cell? ⟨B, 0, none⟩ = some (ag nm)
 c1 : w.cell? ⟨B, 1, none⟩ = some sl
 e0 : w.cell? ⟨eb, off, none⟩ = some (.int .i64 x.shift)
 e1 : w.cell? ⟨eb, off + 1, none⟩ = some (ag x.rules)
 e2 : w.cell? ⟨eb, off + 2, none⟩ = some (.int .i64 x.save)
 e3 : w.cell? ⟨eb, off + 3, none⟩ = some (ag x.format)
 e4 : w.cell? ⟨eb, off + 4, none⟩ = some (.bool x.opn)
 e5 : w.cell? ⟨eb, off + 5, none⟩ = some (.int .i64 x.uy)
 e6 : w.cell? ⟨eb, off + 6, none⟩ = some (.int .i64 x.um)
 e7 : w.cell? ⟨eb, off + 7, none⟩ = some (.int .i64 x.ud)
 e8 : w.cell? ⟨eb, off + 8, none⟩ = some (.int .i64 x.uat)
 e9 : w.cell? ⟨eb, off + 9, none⟩ = some (.int .i64 x.uclock)
theorem rV {B eb off : Nat} {nm : Tx.Bs} {sl : Value} {x : Sx.Er} {w w' : World} (h : ZnH B eb off nm sl x w) (hb : Below w.heap.size w w') (hB : B < w.heap.size) (he : eb < w.heap.size) : ZnH B eb off nm sl x w' := by
 have e := fun k => hb.cell (p := ⟨B, k, none⟩) hB
 have f := fun k => hb.cell (p := ⟨eb, k, none⟩) he
 exact ⟨(e 0).trans h.c0, (e 1).trans h.c1, (f _).trans h.e0, (f _).trans h.e1, (f _).trans h.e2, (f _).trans h.e3, (f _).trans h.e4, (f _).trans h.e5, (f _).trans h.e6, (f _).trans h.e7, (f _).trans h.e8, (f _).trans h.e9⟩
theorem vT (z : Sx.Zn) (ev : Value) (m : Int) (w : World) (h : gQ w ev z.eras) (hcp : CapE ev z.eras.length) (hs : z.name.length ≤ maxLen ∧ ∀ x ∈ z.eras, x.rules.length ≤ maxLen ∧ x.format.length ≤ maxLen) (hl : z.eras.length ≤ 1000) (hm : w.cell? ⟨0, 0, none⟩ = some (.int .i64 m)) (h0 : 0 < w.heap.size) :
  Calls Tryz.prog 93 #[.agg #[ag z.name, ev]] w fun e w' => e = .returned (.int .i64 (Sx.dB z)) ∧ Below w.heap.size w w' := by
 obtain ⟨a, cap, rfl, hcp⟩ := hcp
 have BV := hid ((q4B w.heap.size w).alloc (Nat.le_refl _) (.cells [ag z.name, .slice a z.eras.length cap].toArray 44))
 have XV := hid (aD w [ag z.name, .slice a z.eras.length cap] 44)
 have HM : Hid ((w.alloc (.cells [ag z.name, .slice a z.eras.length cap].toArray 44)).cell? ⟨0, 0, none⟩ = some (.int .i64 m)) := (BV.out.cell (p := ⟨0, 0, none⟩) h0).trans hm
 have H0 : Hid (0 < (w.alloc (.cells [ag z.name, .slice a z.eras.length cap].toArray 44)).heap.size) := q4N h0 BV.out.size
 have HR := hid (au h BV.out)
 obtain ⟨⟨x0, _⟩, ⟨x1, _⟩, sx⟩ := cp2 XV.out
 have HS := hid hs
 have NM := hid hs.1
 have HL := hid hl
 clear hm h0 h hs hl
 obtain ⟨N, hN⟩ : ∃ N, Sx.bF z.name = N := ⟨_, rfl⟩
 have HN := hid hN
 cases N
 case false =>
  have HE : Hid (Sx.dB z = 1) := by show _ = _; unfold Sx.dB; rw [hN]; rfl
  clear hN
  go_enter Tryz.func93, Tryz.ntmps93
  go_wp2_with (go_at_call 151; refine (fw z.name _ HS.out.1 HN.out).mono ?_; rintro e w1 ⟨rfl, rfl⟩)
  go_ret
  exact ⟨ay HE.out.symm, BV.out⟩
 rcases List.eq_nil_or_concat z.eras with he | ⟨l, x, he⟩
 ·have HE : Hid (Sx.dB z = 1) := by show _ = _; unfold Sx.dB; rw [hN, he]; rfl
  have hz : z.eras.length = 0 := by rw [he]; rfl
  rw [hz] at x1 ⊢
  rw [hz] at BV
  clear hN XV HR HM H0
  go_enter Tryz.func93, Tryz.ntmps93
  go_wp2_with (go_at_call 151; refine (fw z.name _ HS.out.1 HN.out).mono ?_; rintro e w1 ⟨rfl, rfl⟩)
  go_ret
  exact ⟨ay HE.out.symm, BV.out⟩
 rw [List.concat_eq_append] at he
 have HE : Hid (Sx.dB z = Sx.az id [Sx.az (fun e => Sx.eD e false) l, Sx.eD x true]) := JQ z l x he hN
 have hz : z.eras.length = l.length + 1 := by rw [he]; simp
 have htk : z.eras.take l.length = l := by rw [he]; simp
 have hgt : z.eras[l.length]? = some x := by rw [he]; simp
 have H1 := hid (HS.out.2 x (by rw [he]; simp))
 have H2 : Hid (∀ y ∈ l, y.rules.length ≤ maxLen ∧ y.format.length ≤ maxLen) := fun y hy => HS.out.2 y (by rw [he]; simp [hy])
 have hll : l.length + 1 ≤ 1000 := by have := HL.out; omega
 have hcc : l.length ≤ cap := by omega
 have hidx : (l.length : Int) < (l.length : Int) + 1 := by omega
 rw [hz] at x0 x1 HM HR BV H0 XV sx ⊢
 obtain ⟨eb, eo, rfl, heb, hc⟩ := dx HR.out hgt
 obtain ⟨f0, f1, f2, f3, f4, f5, f6, f7, f8, f9⟩ := zJ hc
 have HRT : Hid (∀ c, gQ (w.alloc (.cells [ag z.name, .slice (some ⟨eb, eo, none⟩) (l.length + 1) cap].toArray 44)) (.slice (some ⟨eb, eo, none⟩) l.length c) l) := by
  intro c
  have := Ko (k := l.length) HR.out (by omega) c
  rw [htk] at this
  exact this
 clear hN he hz htk hgt hc HL HS
 obtain ⟨V, hV⟩ : ∃ V, w.alloc (.cells [ag z.name, .slice (some ⟨eb, eo, none⟩) (l.length + 1) cap].toArray 44) = V := ⟨_, rfl⟩
 obtain ⟨B, hB⟩ : ∃ B, w.heap.size = B := ⟨_, rfl⟩
 have SS : Hid (ZnH B eb (eo + l.length * 10) z.name (.slice (some ⟨eb, eo, none⟩) (l.length + 1) cap) x V.drew) := by
  rw [← hB, ← hV]; exact ⟨x0, x1, f0, f1, f2, f3, f4, f5, f6, f7, f8, f9⟩
 have BVV : Hid (Below w.heap.size w V) := by rw [← hV]; exact BV.out
 have HMV : Hid (V.cell? ⟨0, 0, none⟩ = some (.int .i64 m)) := by rw [← hV]; exact HM.out
 have H0V : Hid (0 < V.heap.size) := by rw [← hV]; exact H0.out
 have HRV : Hid (∀ c, gQ V (.slice (some ⟨eb, eo, none⟩) l.length c) l) := by rw [← hV]; exact HRT.out
 have SB : Hid (B < V.heap.size ∧ eb < V.heap.size) := by rw [← hB, ← hV]; exact ⟨sx, heb⟩
 rw [hV] at x0 x1 sx
 rw [hB] at x0 x1 sx
 clear f0 f1 f2 f3 f4 f5 f6 f7 f8 f9 heb BV HM H0 HR HRT XV
 go_enter Tryz.func93, Tryz.ntmps93
 go_upto_region 4 with (go_at_call 151; refine (fw z.name _ NM.out HN.out).mono ?_; rintro e w1 ⟨rfl, rfl⟩)
 have SD : ZnH B eb (eo + l.length * 10) z.name (.slice (some ⟨eb, eo, none⟩) (l.length + 1) cap) x w1.drew := SS.out
 have HRD : Hid (∀ c, gQ w1.drew (.slice (some ⟨eb, eo, none⟩) l.length c) l) := fun c => au (HRV.out c) ⟨rfl, rfl, rfl, Nat.le_refl _, fun _ _ => rfl⟩
 refine wp_region_held_drew (S := fun w' => ZnH B eb (eo + l.length * 10) z.name (.slice (some ⟨eb, eo, none⟩) (l.length + 1) cap) x w') (by kernel_rfl) SD (fun hHeld => ?_)
 refine tkH 0 ?vz1 rfl ?z1 ?_
 case z1 => (intro w hSw; obtain ⟨s0, s1, s2, s3, s4, s5, s6, s7, s8, s9, s10, s11⟩ := hSw; go_simp; try with_reducible rfl)
 try simp only [Act.put, j]
 refine tkH 1 ?vz2 rfl ?z2 ?_
 case z2 => (intro w hSw; obtain ⟨s0, s1, s2, s3, s4, s5, s6, s7, s8, s9, s10, s11⟩ := hSw; go_simp; try with_reducible rfl)
 try simp only [Act.put, j]
 refine tkH 2 ?vz3 rfl ?z3 ?_
 case z3 => (intro w hSw; obtain ⟨s0, s1, s2, s3, s4, s5, s6, s7, s8, s9, s10, s11⟩ := hSw; go_simp; try with_reducible rfl)
 try simp only [Act.put, j]
 refine tkH 3 ?vz4 rfl ?z4 ?_
 case z4 => (intro w hSw; obtain ⟨s0, s1, s2, s3, s4, s5, s6, s7, s8, s9, s10, s11⟩ := hSw; go_simp; try with_reducible rfl)
 try simp only [Act.put, j]
 refine tkH 5 ?vz5 rfl ?z5 ?_
 case z5 => (intro w hSw; obtain ⟨s0, s1, s2, s3, s4, s5, s6, s7, s8, s9, s10, s11⟩ := hSw; go_simp; try with_reducible rfl)
 try simp only [Act.put, j]
 refine tkH 6 ?vz6 rfl ?z6 ?_
 case z6 => (intro w hSw; obtain ⟨s0, s1, s2, s3, s4, s5, s6, s7, s8, s9, s10, s11⟩ := hSw; go_simp; try with_reducible rfl)
 try simp only [Act.put, j]
 refine tkH 7 ?vz7 rfl ?z7 ?_
 case z7 => (intro w hSw; obtain ⟨s0, s1, s2, s3, s4, s5, s6, s7, s8, s9, s10, s11⟩ := hSw; go_simp; try with_reducible rfl)
 try simp only [Act.put, j]
 refine tkH 8 ?vz8 rfl ?z8 ?_
 case z8 => (intro w hSw; obtain ⟨s0, s1, s2, s3, s4, s5, s6, s7, s8, s9, s10, s11⟩ := hSw; go_simp; try with_reducible rfl)
 try simp only [Act.put, j]
 refine tkH 9 ?vz9 rfl ?z9 ?_
 case z9 => (intro w hSw; obtain ⟨s0, s1, s2, s3, s4, s5, s6, s7, s8, s9, s10, s11⟩ := hSw; go_simp; try with_reducible rfl)
 try simp only [Act.put, j]
 refine rdH 4 rfl fun K hK => ?_
 go_simp
 refine (yY l _ m _ (HRD.out _) H2.out (by omega) HMV.out H0V.out).mono ?_
 rintro e w3 ⟨rfl, hb3⟩
 have S3 : ZnH B eb (eo + l.length * 10) z.name (.slice (some ⟨eb, eo, none⟩) (l.length + 1) cap) x w3 := rV hHeld hb3 SB.out.1 SB.out.2
 have B3 : Hid (Below w1.heap.size w1 w3) := af hb3
 have M3 : w3.cell? ⟨0, 0, none⟩ = some (.int .i64 m) := (B3.out.cell (p := ⟨0, 0, none⟩) H0V.out).trans HMV.out
 have Z3 : 0 < w3.heap.size := q4N H0V.out B3.out.size
 have L3 : B < w3.heap.size ∧ eb < w3.heap.size := ⟨q4N SB.out.1 B3.out.size, q4N SB.out.2 B3.out.size⟩
 clear hb3
 refine hK.out _ _ ?_ (fun hHeld => ?_)
 ·exact S3
 clear hK K
 try simp only [Act.put, j]
 refine rdH 10 rfl fun K hK => ?_
 go_simp
 refine (oQ x true m _ H1.out.1 H1.out.2 M3 Z3).mono ?_
 rintro e w4 ⟨rfl, hb4⟩
 have S4 : ZnH B eb (eo + l.length * 10) z.name (.slice (some ⟨eb, eo, none⟩) (l.length + 1) cap) x w4 := rV S3 hb4 L3.1 L3.2
 have B4 : Hid (Below w1.heap.size w1 w4) := B3.out.trans (hb4.mono B3.out.size)
 have L4 : B < w4.heap.size ∧ eb < w4.heap.size := ⟨q4N L3.1 hb4.size, q4N L3.2 hb4.size⟩
 have CN := hid (aD w4 ([Sx.az (fun e => Sx.eD e false) l, Sx.eD x true].map (Value.int .i64)) 28)
 clear hb4
 refine hK.out _ _ ?_ (fun hHeld => ?_)
 ·exact S4
 clear hK K
 try simp only [Act.put, j]
 refine rdH 11 rfl fun K hK => ?_
 go_simp
 refine hK.out _ _ ?_ (fun hHeld => ?_)
 ·exact rV S4 ((q4B _ _).alloc (Nat.le_refl _) _) L4.1 L4.2
 clear hK K
 try simp only [Act.put, j]
 refine rdH 12 rfl fun K hK => ?_
 go_simp
 refine (iW [Sx.az (fun e => Sx.eD e false) l, Sx.eD x true] w4.heap.size 2 _ CN.out (by simp)).mono ?_
 rintro e w2 ⟨rfl, rfl⟩
 refine hK.out _ _ ?_ (fun hHeld => ?_)
 ·exact hHeld
 clear hK K
 try simp only [Act.put, j]
 refine tkH 13 ?vz10 rfl ?z10 ?_
 case z10 => (intro w hSw; obtain ⟨s0, s1, s2, s3, s4, s5, s6, s7, s8, s9, s10, s11⟩ := hSw; go_simp; try with_reducible rfl)
 try simp only [Act.put, j]
 refine wpAnyH_done (by kernel_rfl) ?_ _
 have BF : Below w.heap.size w (w4.alloc (.cells ([Sx.az (fun e => Sx.eD e false) l, Sx.eD x true].map (Value.int .i64)).toArray 28)) := BVV.out.trans ((B4.out.alloc B4.out.size _).mono BVV.out.size)
 go_wp2
 go_ret
 exact ⟨ay (by rw [HE.out]), BF⟩
theorem wX (xs : List Sx.Zn) (rv : Value) (m : Int) (w : World) (h : fE w rv xs) (hs : ∀ x ∈ xs, x.name.length ≤ maxLen ∧ (∀ y ∈ x.eras, y.rules.length ≤ maxLen ∧ y.format.length ≤ maxLen) ∧ x.eras.length ≤ 1000) (hcp : oL w rv xs) (hl : xs.length ≤ 1000) (hm : w.cell? ⟨0, 0, none⟩ = some (.int .i64 m)) (h0 : 0 < w.heap.size) :
  Calls Tryz.prog 92 #[rv, .func (.func 93) #[] #[]] w fun e w' => e = .returned (.int .i64 (Sx.az Sx.dB xs)) ∧ Below w.heap.size w w' := by
 obtain ⟨R, hR⟩ : ∃ R, Sx.az Sx.dB xs = R := ⟨_, rfl⟩
 rw [hR]
 have HR : Hid (R = Sx.az Sx.dB (xs.drop 0)) := hR.symm
 obtain ⟨ra, rcap, rfl⟩ := ic h
 have H := hid h
 have HS := hid hs
 have HCP := hid hcp
 clear hcp
 have HM := hid hm
 have H0 := hid h0
 clear hR h hs hm h0
 have eg : ∀ args w, (callFunc 93 args).run Tryz.prog w = .ok (.enter 93 args) w := enters_of Tryz.func93 (by kernel_rfl) rfl
 go_enter Tryz.func92, Tryz.ntmps92
 go_wp2_with fail
 go_loopw [10] (fun a wr => ∃ k : Nat, k ≤ xs.length ∧ a = .int .i64 k ∧ Hid (Below w.heap.size w wr) ∧ Hid (R = Sx.az Sx.dB (xs.drop k))) (fun a _ => xs.length - (intOf a).toNat)
 case atStart => exact ⟨0, by omega, rfl, q4B _ _, HR⟩
 case round =>
  clear HR
  obtain ⟨k, hk, rfl, B0, HR⟩ := hrel
  by_cases hlt : k < xs.length
  case neg =>
   have HR2 : Hid (R = 0) := by show _ = _; rw [HR.out]; exact Sx.eX _ hlt
   go_wp2
   go_ret
   exact ⟨ay (by rw [HR2.out]), B0.out⟩
  obtain ⟨x, hx⟩ : ∃ x, xs[k]? = some x := ⟨_, q4G hlt⟩
  obtain ⟨rb, ro, ea, ecap, rfl, hrb, c0, c1, hre⟩ := kw (dY H.out B0.out) hx
  have hcap : CapE (.slice ea x.eras.length ecap) x.eras.length := mW HCP.out H.out B0.out k x rb ro rcap hx rfl _ c1
  have HX := hid hx
  have SX := hid (HS.out x (List.mem_of_getElem? hx))
  have HM2 : Hid (wr.cell? ⟨0, 0, none⟩ = some (.int .i64 m)) := (B0.out.cell (p := ⟨0, 0, none⟩) H0.out).trans HM.out
  have H02 : Hid (0 < wr.heap.size) := q4N H0.out B0.out.size
  have HRE := hid hre
  have HCAP := hid hcap
  clear hx hre hcap
  have BW := hid ((q4B wr.heap.size wr).alloc (Nat.le_refl _) (.cells #[ag x.name, .slice ea x.eras.length ecap] 44))
  have BV := hid (B0.out.alloc B0.out.size (.cells #[ag x.name, .slice ea x.eras.length ecap] 44))
  have HM3 : Hid ((wr.alloc (.cells #[ag x.name, .slice ea x.eras.length ecap] 44)).cell? ⟨0, 0, none⟩ = some (.int .i64 m)) := (BW.out.cell (p := ⟨0, 0, none⟩) H02.out).trans HM2.out
  have H03 : Hid (0 < (wr.alloc (.cells #[ag x.name, .slice ea x.eras.length ecap] 44)).heap.size) := q4N H02.out BW.out.size
  go_wp2_with fail
  refine (vT x _ m _ (au HRE.out BW.out) HCAP.out ⟨SX.out.1, SX.out.2.1⟩ SX.out.2.2 HM3.out H03.out).mono ?_
  rintro e w1 ⟨rfl, hb⟩
  have B1 : Hid (Below w.heap.size w w1) := BV.out.trans (hb.mono BV.out.size)
  clear hb B0 BV BW HM2 HM3 H02 H03 c0 c1 hrb HRE HCAP
  obtain ⟨E, hE⟩ : ∃ E, Sx.dB x = E := ⟨_, rfl⟩
  try simp only [] at hE
  rw [hE]
  by_cases h0 : E = 0
  case neg =>
   have HR2 : Hid (R = E) := by show _ = _; rw [← hE]; exact Sx.iU Sx.dB HX.out HR.out (by rw [hE]; exact h0)
   have h0' : (E != 0) = true := by simp [h0]
   clear hE
   go_wp2
   go_ret
   exact ⟨ay (by rw [HR2.out]), B1.out⟩
  have HR2 : Hid (R = Sx.az Sx.dB (xs.drop (k + 1))) := Sx.iE Sx.dB HX.out HR.out (by rw [hE]; exact h0)
  clear hE HR
  subst h0
  go_wp2
  go_roundw
  case rel => exact ⟨k + 1, by omega, by go_num, B1, HR2⟩
  case measure => simp [intOf]; omega
theorem vQ (x : Sx.Lk) (w : World) (h1 : x.to.length ≤ maxLen) (h2 : x.name.length ≤ maxLen) :
  Calls Tryz.prog 95 #[jA x] w fun e w' => e = .returned (.int .i64 (Sx.d9 x)) ∧ Below w.heap.size w w' := by
 have HE : Hid (Sx.d9 x = uE (Sx.bF x.to && Sx.bF x.name) 1) := by show _ = _; unfold Sx.d9 uE; cases Sx.bF x.to && Sx.bF x.name <;> rfl
 have BV := hid ((q4B w.heap.size w).alloc (Nat.le_refl _) (.cells (aH x).toArray 35))
 obtain ⟨A, hA⟩ : ∃ A, Sx.bF x.to = A := ⟨_, rfl⟩
 obtain ⟨B, hB⟩ : ∃ B, Sx.bF x.name = B := ⟨_, rfl⟩
 rw [hA, hB] at HE
 have N1 := hid (fun w' => fw x.to w' h1 hA)
 have N2 := hid (fun w' => fw x.name w' h2 hB)
 clear hA hB h1 h2
 cases A
 case false =>
  go_enter Tryz.func95, Tryz.ntmps95
  go_wp2_with (first | (go_at_call 151; refine (N1.out _).mono ?_; rintro e w1 ⟨rfl, rfl⟩) | (go_at_call 150; refine (aG _ _ _).mono ?_; rintro e w1 ⟨rfl, rfl⟩))
  go_ret
  exact ⟨ay (by rw [HE.out]; rfl), BV.out⟩
 case true =>
  go_enter Tryz.func95, Tryz.ntmps95
  go_wp2_with (first | (go_at_call 151; (first | (with_reducible refine (N1.out _).mono ?_) | (with_reducible refine (N2.out _).mono ?_)); rintro e w1 ⟨rfl, rfl⟩) | (go_at_call 150; refine (aG _ _ _).mono ?_; rintro e w1 ⟨rfl, rfl⟩))
  go_ret
  exact ⟨ay (by rw [HE.out]; rfl), BV.out⟩
theorem wV (xs : List Sx.Lk) (rv : Value) (m : Int) (w : World) (h : fe w rv xs) (hs : ∀ x ∈ xs, x.to.length ≤ maxLen ∧ x.name.length ≤ maxLen) (hl : xs.length ≤ 1000) (hm : w.cell? ⟨0, 0, none⟩ = some (.int .i64 m)) (h0 : 0 < w.heap.size) :
  Calls Tryz.prog 94 #[rv, .func (.func 95) #[] #[]] w fun e w' => e = .returned (.int .i64 (Sx.az Sx.d9 xs)) ∧ Below w.heap.size w w' := by
 obtain ⟨R, hR⟩ : ∃ R, Sx.az Sx.d9 xs = R := ⟨_, rfl⟩
 rw [hR]
 have HR : Hid (R = Sx.az Sx.d9 (xs.drop 0)) := hR.symm
 obtain ⟨ra, rcap, rfl⟩ := bP h
 have H := hid h
 have HS := hid hs
 have HM := hid hm
 have H0 := hid h0
 clear hR h hs hm h0
 have eg : ∀ args w, (callFunc 95 args).run Tryz.prog w = .ok (.enter 95 args) w := enters_of Tryz.func95 (by kernel_rfl) rfl
 go_enter Tryz.func94, Tryz.ntmps94
 go_wp2_with fail
 go_loopw [10] (fun a wr => ∃ k : Nat, k ≤ xs.length ∧ a = .int .i64 k ∧ Hid (Below w.heap.size w wr) ∧ Hid (R = Sx.az Sx.d9 (xs.drop k))) (fun a _ => xs.length - (intOf a).toNat)
 case atStart => exact ⟨0, by omega, rfl, q4B _ _, HR⟩
 case round =>
  clear HR
  obtain ⟨k, hk, rfl, B0, HR⟩ := hrel
  by_cases hlt : k < xs.length
  case neg =>
   have HR2 : Hid (R = 0) := by show _ = _; rw [HR.out]; exact Sx.eX _ hlt
   go_wp2
   go_ret
   exact ⟨ay (by rw [HR2.out]), B0.out⟩
  obtain ⟨x, hx⟩ : ∃ x, xs[k]? = some x := ⟨_, q4G hlt⟩
  obtain ⟨rb, ro, rfl, hrb, hc⟩ := dx (au H.out B0.out) hx
  obtain ⟨c0, c1⟩ := ui hc
  have HX := hid hx
  have SX := hid (HS.out x (List.mem_of_getElem? hx))
  have HM2 : Hid (wr.cell? ⟨0, 0, none⟩ = some (.int .i64 m)) := (B0.out.cell (p := ⟨0, 0, none⟩) H0.out).trans HM.out
  have H02 : Hid (0 < wr.heap.size) := q4N H0.out B0.out.size
  clear hx hc
  have BW := hid ((q4B wr.heap.size wr).alloc (Nat.le_refl _) (.cells #[ag x.to, ag x.name] 35))
  have BV := hid (B0.out.alloc B0.out.size (.cells #[ag x.to, ag x.name] 35))
  have HM3 : Hid ((wr.alloc (.cells #[ag x.to, ag x.name] 35)).cell? ⟨0, 0, none⟩ = some (.int .i64 m)) := (BW.out.cell (p := ⟨0, 0, none⟩) H02.out).trans HM2.out
  have H03 : Hid (0 < (wr.alloc (.cells #[ag x.to, ag x.name] 35)).heap.size) := q4N H02.out BW.out.size
  go_wp2_with fail
  refine (vQ x _ SX.out.1 SX.out.2).mono ?_
  rintro e w1 ⟨rfl, hb⟩
  have B1 : Hid (Below w.heap.size w w1) := BV.out.trans (hb.mono BV.out.size)
  clear hb B0 BV BW HM2 HM3 H02 H03 c0 c1 hrb
  obtain ⟨E, hE⟩ : ∃ E, Sx.d9 x = E := ⟨_, rfl⟩
  try simp only [] at hE
  rw [hE]
  by_cases h0 : E = 0
  case neg =>
   have HR2 : Hid (R = E) := by show _ = _; rw [← hE]; exact Sx.iU Sx.d9 HX.out HR.out (by rw [hE]; exact h0)
   have h0' : (E != 0) = true := by simp [h0]
   clear hE
   go_wp2
   go_ret
   exact ⟨ay (by rw [HR2.out]), B1.out⟩
  have HR2 : Hid (R = Sx.az Sx.d9 (xs.drop (k + 1))) := Sx.iE Sx.d9 HX.out HR.out (by rw [hE]; exact h0)
  clear hE HR
  subst h0
  go_wp2
  go_roundw
  case rel => exact ⟨k + 1, by omega, by go_num, B1, HR2⟩
  case measure => simp [intOf]; omega
end
section
open Go.RowKit
attribute [local go_sem ↓] Go.wp_at_zero Go.wp_at_succ

theorem GM (s : Sx.Sr) (ra la : Option Addr) (rcap lcap : Nat) (zv : Value) (w : World) (h : fE w zv s.zones) :
  Calls Tryz.prog 88 #[.agg #[.slice ra s.rules.length rcap, zv, .slice la s.links.length lcap]] w fun e w' => e = .returned (.bool (!Sx.eH s)) ∧ Below w.heap.size w w' := by
 obtain ⟨za, zcap, rfl⟩ := ic h
 have BV := hid ((q4B w.heap.size w).alloc (Nat.le_refl _) (.cells #[.slice ra s.rules.length rcap, .slice za s.zones.length zcap, .slice la s.links.length lcap] 26))
 have H := hid h
 clear h
 by_cases h1 : 40 < s.rules.length
 ·have HB : Hid (false = !Sx.eH s) := by show _ = _; simp [Sx.eH, h1]
  go_enter Tryz.func88, Tryz.ntmps88
  go_wp2
  go_ret
  exact ⟨aC HB.out, BV.out⟩
 by_cases h2 : 20 < s.zones.length
 ·have HB : Hid (false = !Sx.eH s) := by show _ = _; simp [Sx.eH, h2]
  go_enter Tryz.func88, Tryz.ntmps88
  go_wp2
  go_ret
  exact ⟨aC HB.out, BV.out⟩
 by_cases h3 : 20 < s.links.length
 ·have HB : Hid (false = !Sx.eH s) := by show _ = _; simp [Sx.eH, h3]
  go_enter Tryz.func88, Tryz.ntmps88
  go_wp2
  go_ret
  exact ⟨aC HB.out, BV.out⟩
 have HN := hid (Sx.zt h1 h2 h3)
 have HY := hid (fun (i : Nat) (z : Sx.Zn) => @Sx.yf s i z)
 have HV := hid (dY H.out BV.out)
 obtain ⟨n, hn⟩ : ∃ n, s.zones.length = n := ⟨_, rfl⟩
 rw [hn] at h2 BV HV ⊢
 have HL := hid hn
 clear hn H
 go_enter Tryz.func88, Tryz.ntmps88
 go_wp2_with fail
 obtain ⟨V, hV⟩ : ∃ V, w.alloc (.cells #[.slice ra s.rules.length rcap, .slice za n zcap, .slice la s.links.length lcap] 26) = V := ⟨_, rfl⟩
 rw [hV] at BV HV ⊢
 clear hV
 go_loopw [24] (fun a wr => ∃ k : Nat, k ≤ n ∧ a = .int .i64 k ∧ Hid (Below V.heap.size V wr) ∧ Hid (∀ (j : Nat) (z : Sx.Zn), j < k → s.zones[j]? = some z → ¬ 8 < z.eras.length)) (fun a _ => n - (intOf a).toNat)
 case atStart => exact ⟨0, by omega, rfl, q4B _ _, fun j z q => absurd q (Nat.not_lt_zero _)⟩
 case round =>
  obtain ⟨k, hk, rfl, B0, HK⟩ := hrel
  by_cases hlt : k < n
  case neg =>
   have HR : Hid (Sx.eH s = false) := HN.out fun j z a b => HK.out j z (by have := HL.out; omega) b
   go_wp2
   go_ret
   exact ⟨aC (by rw [HR.out]; rfl), BV.out.trans (B0.out.mono BV.out.size)⟩
  obtain ⟨x, hx⟩ : ∃ x, s.zones[k]? = some x := ⟨_, q4G (by have := HL.out; omega)⟩
  obtain ⟨rb, ro, ea, ecap, rfl, hrb, c0, c1, hre⟩ := kw (dY HV.out B0.out) hx
  have HX := hid hx
  have B1 := hid (B0.out.alloc B0.out.size (.cells #[ag x.name, .slice ea x.eras.length ecap] 44))
  obtain ⟨L, hL⟩ : ∃ L, x.eras.length = L := ⟨_, rfl⟩
  have HLL := hid hL
  rw [hL] at c1 B1
  clear hx hre hL B0
  by_cases h8 : 8 < L
  ·have HR : Hid (Sx.eH s = true) := HY.out k x HX.out (by rw [HLL.out]; exact h8)
   go_wp2
   go_ret
   exact ⟨aC (by rw [HR.out]; rfl), BV.out.trans (B1.out.mono BV.out.size)⟩
  ·have HK2 : Hid (∀ (j : Nat) (z : Sx.Zn), j < k + 1 → s.zones[j]? = some z → ¬ 8 < z.eras.length) := by
    intro j z hj hz
    by_cases q : j < k
    ·exact HK.out j z q hz
    ·have : j = k := by omega
     subst this
     rw [HX.out] at hz
     cases hz
     rw [HLL.out]; exact h8
   clear HK
   go_wp2
   go_roundw
   case rel => exact ⟨k + 1, by omega, by go_num, B1, HK2⟩
   case measure => simp [intOf]; omega
theorem Kz (s : Sx.Sr) (h : Sx.eH s = false) : Sx.fB s = Sx.az id [Sx.az Sx.dI s.rules, Sx.az Sx.dB s.zones, Sx.az Sx.d9 s.links] := by
 rw [Sx.ul h]
 simp only [Sx.orE, Sx.az, id]
 split
 ·rfl
 ·split
  ·rfl
  ·split <;> simp_all
theorem ny {s : Sx.Sr} (h : Sx.eH s = false) : s.rules.length ≤ 40 ∧ s.zones.length ≤ 20 ∧ s.links.length ≤ 20 ∧ ∀ z ∈ s.zones, z.eras.length ≤ 8 := by
 simp [Sx.eH] at h
 obtain ⟨⟨⟨h1, h2⟩, h3⟩, h4⟩ := h
 exact ⟨by omega, by omega, by omega, fun z hz => by have := h4 z hz; omega⟩
structure SrH (B : Nat) (r z l : Value) (w : World) : Prop where
 c0 : w.cell? ⟨B, 0, none⟩ = some r
 c1 : w.cell? ⟨B, 1, none⟩ = some z
 c2 : w.cell? ⟨B, 2, none⟩ = some l
theorem ou {B : Nat} {r z l : Value} {w w' : World} (h : SrH B r z l w) (hb : Below w.heap.size w w') (hB : B < w.heap.size) : SrH B r z l w' :=
 ⟨(hb.cell (p := ⟨B, 0, none⟩) hB).trans h.c0, (hb.cell (p := ⟨B, 1, none⟩) hB).trans h.c1, (hb.cell (p := ⟨B, 2, none⟩) hB).trans h.c2⟩
structure Hy (r z l : Value) (rs : List Sx.Rl) (zs : List Sx.Zn) (ls : List Sx.Lk) (m : Int) (w : World) : Prop where
 rules : bY w r rs
 zones : fE w z zs
 links : fe w l ls
 cap : oL w z zs
 max : w.cell? ⟨0, 0, none⟩ = some (.int .i64 m)
 pos : 0 < w.heap.size
theorem JA {r z l : Value} {rs : List Sx.Rl} {zs : List Sx.Zn} {ls : List Sx.Lk} {m : Int} {w w' : World} (hb : Below w.heap.size w w') (h1 : bY w r rs) (h2 : fE w z zs) (h3 : fe w l ls) (h4 : oL w z zs) (h5 : w.cell? ⟨0, 0, none⟩ = some (.int .i64 m)) (h6 : 0 < w.heap.size) : Hy r z l rs zs ls m w' :=
 ⟨au h1 hb, dY h2 hb, au h3 hb, mW h4 h2 hb, (hb.cell (p := ⟨0, 0, none⟩) h6).trans h5, q4N h6 hb.size⟩
theorem zU {r z l : Value} {rs : List Sx.Rl} {zs : List Sx.Zn} {ls : List Sx.Lk} {m : Int} {w w' : World} (h : Hy r z l rs zs ls m w) (hb : Below w.heap.size w w') : Hy r z l rs zs ls m w' :=
 JA hb h.rules h.zones h.links h.cap h.max h.pos
theorem DX (s : Sx.Sr) (r z l : Value) (m : Int) (w : World) (h : Hw w r z l s) (hcp : oL w z s.zones) (hs : mO s) (hm : w.cell? ⟨0, 0, none⟩ = some (.int .i64 m)) (h0 : 0 < w.heap.size) :
  Calls Tryz.prog 42 #[.agg #[r, z, l]] w fun e w' => e = .returned (.int .i64 (Sx.fB s)) ∧ Below w.heap.size w w' := by
 obtain ⟨rs, zs, ls⟩ := s
 obtain ⟨h1, h2, h3⟩ := h
 dsimp only at h1 h2 h3 hcp
 obtain ⟨ra, rcap, rfl⟩ := bP h1
 obtain ⟨za, zcap, rfl⟩ := ic h2
 obtain ⟨la, lcap, rfl⟩ := bP h3
 have BV := hid ((q4B w.heap.size w).alloc (Nat.le_refl _) (.cells [.slice ra rs.length rcap, .slice za zs.length zcap, .slice la ls.length lcap].toArray 26))
 have XV := hid (aD w [.slice ra rs.length rcap, .slice za zs.length zcap, .slice la ls.length lcap] 26)
 have FT := hid (GM ⟨rs, zs, ls⟩ ra la rcap lcap (.slice za zs.length zcap) _ (dY h2 BV.out))
 obtain ⟨M, hM⟩ : ∃ M, Sx.eH ⟨rs, zs, ls⟩ = M := ⟨_, rfl⟩
 rw [hM] at FT
 have HM := hid hM
 have H1 := hid h1
 have H2 := hid h2
 have H3 := hid h3
 have HS := hid hs
 have HC := hid hcp
 have HMM := hid hm
 have H0 := hid h0
 clear h1 h2 h3 hs hcp hm h0 hM
 cases M
 case true =>
  have HR : Hid (Sx.fB ⟨rs, zs, ls⟩ = 2) := Sx.kD HM.out
  go_enter Tryz.func42, Tryz.ntmps42
  go_wp2_with fail
  refine FT.out.mono ?_
  rintro e w1 ⟨rfl, hb⟩
  have B1 : Hid (Below w.heap.size w w1) := BV.out.trans (hb.mono BV.out.size)
  go_wp2
  go_ret
  exact ⟨ay HR.out.symm, B1.out⟩
 have HR := hid (Kz ⟨rs, zs, ls⟩ HM.out)
 have HF := hid (ny HM.out)
 dsimp only at HF
 obtain ⟨B, hB⟩ : ∃ B, w.heap.size = B := ⟨_, rfl⟩
 have HB := hid hB
 rw [hB] at XV
 clear hB
 go_enter Tryz.func42, Tryz.ntmps42
 go_wp2_with fail
 refine FT.out.mono ?_
 rintro e w1 ⟨rfl, hb⟩
 have B1 : Hid (Below w.heap.size w w1) := BV.out.trans (hb.mono BV.out.size)
 have X1 := hid (ai XV.out hb)
 clear hb XV BV FT
 go_upto_region 3 with fail
 rw [HB.out]
 have sB : B < w1.heap.size := X1.out.1
 have SD : SrH B (.slice ra rs.length rcap) (.slice za zs.length zcap) (.slice la ls.length lcap) w1.drew := ⟨(aa X1.out 0 rfl).1, (aa X1.out 1 rfl).1, (aa X1.out 2 rfl).1⟩
 have BD : Below w.heap.size w w1.drew := ⟨B1.out.os, B1.out.tape, B1.out.output, B1.out.size, B1.out.block⟩
 have P1 := JA BD H1.out H2.out H3.out HC.out HMM.out H0.out
 refine wp_region_held_drew (S := fun w' => SrH B (.slice ra rs.length rcap) (.slice za zs.length zcap) (.slice la ls.length lcap) w') (by kernel_rfl) SD (fun hHeld => ?_)
 refine tkH 0 ?vz1 rfl ?z1 ?_
 case z1 => (intro w hSw; obtain ⟨s0, s1, s2⟩ := hSw; go_simp; try with_reducible rfl)
 try simp only [Act.put, j]
 refine tkH 1 ?vz2 rfl ?z2 ?_
 case z2 => (intro w hSw; obtain ⟨s0, s1, s2⟩ := hSw; go_simp; try with_reducible rfl)
 try simp only [Act.put, j]
 refine tkH 3 ?vz3 rfl ?z3 ?_
 case z3 => (intro w hSw; obtain ⟨s0, s1, s2⟩ := hSw; go_simp; try with_reducible rfl)
 try simp only [Act.put, j]
 refine tkH 4 ?vz4 rfl ?z4 ?_
 case z4 => (intro w hSw; obtain ⟨s0, s1, s2⟩ := hSw; go_simp; try with_reducible rfl)
 try simp only [Act.put, j]
 refine tkH 6 ?vz5 rfl ?z5 ?_
 case z5 => (intro w hSw; obtain ⟨s0, s1, s2⟩ := hSw; go_simp; try with_reducible rfl)
 try simp only [Act.put, j]
 refine tkH 7 ?vz6 rfl ?z6 ?_
 case z6 => (intro w hSw; obtain ⟨s0, s1, s2⟩ := hSw; go_simp; try with_reducible rfl)
 try simp only [Act.put, j]
 refine rdH 2 rfl fun K hK => ?_
 go_simp
 refine (oM rs _ _ P1.rules HS.out.rules HF.out.1).mono ?_
 rintro e v1 ⟨rfl, hb⟩
 have S1 : SrH B (.slice ra rs.length rcap) (.slice za zs.length zcap) (.slice la ls.length lcap) v1 := ou SD hb sB
 have L1 : B < v1.heap.size := q4N sB hb.size
 have BB1 : Hid (Below w.heap.size w v1) := Below.trans BD (hb.mono (Below.size BD))
 have P2 := zU P1 hb
 clear hb
 refine hK.out _ _ ?_ (fun hHeld => ?_)
 ·exact S1
 clear hK K
 try simp only [Act.put, j]
 refine rdH 5 rfl fun K hK => ?_
 go_simp
 refine (wX zs _ m _ P2.zones (fun x hx => ⟨(HS.out.zones x hx).1, (HS.out.zones x hx).2, by have := HF.out.2.2.2 x hx; omega⟩) P2.cap (by have := HF.out.2.1; omega) P2.max P2.pos).mono ?_
 rintro e v2 ⟨rfl, hb⟩
 have S2 : SrH B (.slice ra rs.length rcap) (.slice za zs.length zcap) (.slice la ls.length lcap) v2 := ou S1 hb L1
 have L2 : B < v2.heap.size := q4N L1 hb.size
 have BB2 : Hid (Below w.heap.size w v2) := Below.trans BB1.out (hb.mono (Below.size BB1.out))
 have P3 := zU P2 hb
 clear hb
 refine hK.out _ _ ?_ (fun hHeld => ?_)
 ·exact S2
 clear hK K
 try simp only [Act.put, j]
 refine rdH 8 rfl fun K hK => ?_
 go_simp
 refine (wV ls _ m _ P3.links HS.out.links (by have := HF.out.2.2.1; omega) P3.max P3.pos).mono ?_
 rintro e v3 ⟨rfl, hb⟩
 have S3 : SrH B (.slice ra rs.length rcap) (.slice za zs.length zcap) (.slice la ls.length lcap) v3 := ou S2 hb L2
 have L3 : B < v3.heap.size := q4N L2 hb.size
 have BB3 : Hid (Below w.heap.size w v3) := Below.trans BB2.out (hb.mono (Below.size BB2.out))
 have P4 := zU P3 hb
 clear hb
 have CN := hid (aD v3 ([Sx.az Sx.dI rs, Sx.az Sx.dB zs, Sx.az Sx.d9 ls].map (Value.int .i64)) 28)
 refine hK.out _ _ ?_ (fun hHeld => ?_)
 ·exact S3
 clear hK K
 try simp only [Act.put, j]
 refine rdH 9 rfl fun K hK => ?_
 go_simp
 refine hK.out _ _ ?_ (fun hHeld => ?_)
 ·exact ou S3 ((q4B _ _).alloc (Nat.le_refl _) _) L3
 clear hK K
 try simp only [Act.put, j]
 refine rdH 10 rfl fun K hK => ?_
 go_simp
 refine (iW [Sx.az Sx.dI rs, Sx.az Sx.dB zs, Sx.az Sx.d9 ls] v3.heap.size 3 _ CN.out (by simp)).mono ?_
 rintro e w2 ⟨rfl, rfl⟩
 refine hK.out _ _ ?_ (fun hHeld => ?_)
 ·exact hHeld
 clear hK K
 try simp only [Act.put, j]
 refine tkH 11 ?vz7 rfl ?z7 ?_
 case z7 => (intro w hSw; obtain ⟨s0, s1, s2⟩ := hSw; go_simp; try with_reducible rfl)
 try simp only [Act.put, j]
 refine wpAnyH_done (by kernel_rfl) ?_ _
 have BF : Below w.heap.size w (v3.alloc (.cells ([Sx.az Sx.dI rs, Sx.az Sx.dB zs, Sx.az Sx.d9 ls].map (Value.int .i64)).toArray 28)) := BB3.out.alloc BB3.out.size _
 go_wp2
 go_ret
 exact ⟨ay (by rw [HR.out]), BF⟩
end
section
open Go.RowKit Go.Shelf
attribute [local go_sem] Oper.semAt_some

theorem qQ {rs : List Sx.Rl} {name : Tx.Bs} {i k : Nat} {r : Sx.Rl} (h : rs[i]? = some r) (hn : (r.name == name) = true) (hk : k ≤ Sx.many r) : (Sx.turnsOf (rs.take i) name ++ Sx.gN r k) <+: Sx.turnsOf rs name := by
 have e := Sx.mq (name := name) h
 rw [hn, if_pos rfl] at e
 have p1 : Sx.gN r k <+: Sx.mr r := by
  rw [← Sx.tN]
  unfold Sx.gN
  refine ⟨((List.range (Sx.many r)).drop k).map (fun (j : Nat) => Sx.mo r (r.frm + (j : Int))), ?_⟩
  rw [← List.map_append]
  congr 1
  have : (List.range (Sx.many r)).take k = List.range k := by rw [List.take_range, Nat.min_eq_left hk]
  rw [← this]; exact List.take_append_drop _ _
 have p2 : Sx.turnsOf (rs.take (i + 1)) name <+: Sx.turnsOf rs name := by
  have : rs = rs.take (i + 1) ++ rs.drop (i + 1) := (List.take_append_drop _ _).symm
  refine ⟨Sx.turnsOf (rs.drop (i + 1)) name, ?_⟩
  conv => rhs; rw [this]
  unfold Sx.turnsOf
  rw [List.filter_append, List.flatMap_append]
 refine List.IsPrefix.trans ?_ p2
 rw [e]
 obtain ⟨t, ht⟩ := p1
 exact ⟨t, by rw [List.append_assoc, ht]⟩
theorem JI {rs : List Sx.Rl} {name : Tx.Bs} {i k : Nat} {r : Sx.Rl} (h : rs[i]? = some r) (hn : (r.name == name) = true) (hk : k < Sx.many r) : (Sx.turnsOf (rs.take i) name ++ Sx.gN r k).length < (Sx.turnsOf rs name).length := by
 have := (qQ h hn (k := k + 1) (by omega)).length_le
 rw [Sx.mD] at this
 simp at this ⊢
 omega
def Kp (n₀ : Nat) (T : TypeId) (Bs : Nat) (W W' : World) : Prop := Below n₀ W W' ∧ xw T Bs W W'
theorem Ha (n l Bl Bn Bs : Nat) (hn : 1 ≤ n) (rs : List Sx.Rl) (name : Tx.Bs) (ra : Option Addr) (rcap : Nat) (W0 W : World) (h : bY W0 (.slice ra rs.length rcap) rs) (hok : ∀ r ∈ rs, Sx.jw r) (hrs : rs.length ≤ 40)
  (cl : W0.cell? ⟨Bl, 0, none⟩ = some (.slice ra rs.length rcap)) (cn : W0.cell? ⟨Bn, 0, none⟩ = some (ag name)) (hBl : Bl < W0.heap.size) (hBn : Bn < W0.heap.size) (hBs : Bs < W.heap.size) (hW : Below W0.heap.size W0 W)
  (J Jx : List Sx.Tn → World → Prop) (hJ : AbidesFrom W.heap.size J)
  (hY : ∀ pre x W1, J pre W1 → pre.length < (Sx.turnsOf rs name).length → YieldAt Fence.wide (n - 1) Tryz.prog l #[wG x] W1 fun e W' => (e = .returned (.bool true) ∧ J (pre ++ [x]) W' ∧ Kp W0.heap.size 120 Bs W1 W') ∨ (e = .returned (.bool false) ∧ Jx (pre ++ [x]) W'))
  (h0 : J [] W) :
  CallsIn Fence.wide n Tryz.prog 127 #[.func (.yield l) #[] #[], .pointer (some ⟨Bl, 0, none⟩), .pointer (some ⟨Bn, 0, none⟩)] W fun e W' => (∃ v, e = .returned v) ∧ ((∃ ys, ys = Sx.turnsOf rs name ∧ J ys W') ∨ (∃ pre, pre <+: Sx.turnsOf rs name ∧ Jx pre W')) := by
 have HY := hid hY
 have HJ := hid hJ
 have H := hid h
 have HOK := hid hok
 have cl1 := (hW.cell (p := ⟨Bl, 0, none⟩) hBl).trans cl
 have HCN := hid cn
 clear hY hJ h hok cl cn
 refine callsIn_of_wp Tryz.func127 rfl trivial ?_ rfl
 simp only [Tryz.ntmps127, List.size_toArray, List.length_cons, List.length_nil, Nat.reduceAdd, Nat.reduceSub, Array.replicate_succ, Array.replicate_zero, List.push_toArray, List.append_toArray, List.nil_append, List.cons_append]
 gi_wp2
 gi_loopw [9] (fun a wr => ∃ i : Nat, i ≤ rs.length ∧ a = .int .i64 i ∧ Hid (J (Sx.turnsOf (rs.take i) name) wr) ∧ Hid (Below W0.heap.size W0 wr) ∧ Hid (W.heap.size ≤ wr.heap.size)) (fun a _ => rs.length - (intOf a).toNat)
 case atStart => exact ⟨0, Nat.zero_le _, rfl, h0, hW, Nat.le_refl _⟩
 case round =>
  obtain ⟨i, hi, rfl, JS, B0, SZ⟩ := hrel
  by_cases hlt : i < rs.length
  case neg =>
   have e : rs.take i = rs := List.take_of_length_le (by omega)
   rw [e] at JS
   gi_wp2
   go_end0
   exact ⟨⟨_, rfl⟩, .inl ⟨_, rfl, JS.out⟩⟩
  obtain ⟨r, hx⟩ : ∃ r, rs[i]? = some r := ⟨_, q4G hlt⟩
  obtain ⟨rb, ro, rfl, hrb, hc⟩ := dx (au H.out B0.out) hx
  obtain ⟨c0, c1, c2, c3, c4, c5, c6, c7, c8, c9, c10⟩ := uj hc
  have HX := hid hx
  have ok := HOK.out r (List.mem_of_getElem? hx)
  have cn1 : wr.cell? ⟨Bn, 0, none⟩ = some (ag name) := (B0.out.cell (p := ⟨Bn, 0, none⟩) hBn).trans HCN.out
  have sBn : Bn < wr.heap.size := q4N hBn B0.out.size
  clear hc hx
  cases hnm : (r.name == name)
  ·have hnm' : (r.name != name) = true := by simp [bne, hnm]
   have JN : Hid (J (Sx.turnsOf (rs.take (i + 1)) name) (wr.alloc (.cells (ah r).toArray 40))) := by
    show J _ _
    rw [Sx.mq HX.out, hnm, if_neg (by decide), List.append_nil]
    exact HJ.out _ _ _ none JS.out (World.grownBy_alloc wr _ none) (fun r e => by cases e)
   have BN := hid (B0.out.alloc B0.out.size (.cells (ah r).toArray 40))
   have SN : Hid (W.heap.size ≤ (wr.alloc (.cells (ah r).toArray 40)).heap.size) := by show _ ≤ _; have := SZ.out; simp; omega
   gi_wp2
   go_roundw
   case rel => exact ⟨i + 1, by omega, by go_num, JN, BN, SN⟩
   case measure => simp [intOf]; omega
  ·have hnm' : (r.name != name) = false := by simp [bne, hnm]
   have HNM := hid hnm
   have J1 : Hid (J (Sx.turnsOf (rs.take i) name ++ Sx.gN r 0) (wr.alloc (.cells (ah r).toArray 40))) := by
    show J _ _
    simp only [Sx.gN, List.range_zero, List.map_nil, List.append_nil]
    exact HJ.out _ _ _ none JS.out (World.grownBy_alloc wr _ none) (fun r e => by cases e)
   have B1 := hid (B0.out.alloc B0.out.size (.cells (ah r).toArray 40))
   have S1 : Hid (W.heap.size ≤ (wr.alloc (.cells (ah r).toArray 40)).heap.size) := by show _ ≤ _; have := SZ.out; simp; omega
   have K1 : Hid ((wr.alloc (.cells (ah r).toArray 40)).heap[wr.heap.size]? = some (.cells (ah r).toArray 40)) := World.alloc_heap_new wr _
   have hRs : Hid (Bs ≠ wr.heap.size) := by show _ ≠ _; have := SZ.out; omega
   have HOKR := hid ok
   have X1 := hid (aD wr (ah r) 40)
   obtain ⟨f1, f2, f3, _, _, fa, _, _⟩ := ok
   have hmany : Hid ((Sx.many r : Int) = r.to - r.frm + 1) := by show _ = _; simp [Sx.many]; omega
   gi_wp2
   obtain ⟨Rb, hRb⟩ : ∃ Rb, wr.heap.size = Rb := ⟨_, rfl⟩
   obtain ⟨V, hV⟩ : ∃ V, wr.alloc (.cells (ah r).toArray 40) = V := ⟨_, rfl⟩
   rw [show wr.alloc (.cells #[ag r.name, .int .i64 r.frm, .int .i64 r.to, .int .i64 r.month, .int .i64 r.kind, .int .i64 r.wk, .int .i64 r.n, .int .i64 r.at_, .int .i64 r.clock, .int .i64 r.save, ag r.letter] 40) = V from hV, hRb]
   rw [hV] at J1 B1 S1 K1 X1
   rw [hRb] at K1 hRs X1
   clear hV c0 c1 c2 c3 c4 c5 c6 c7 c8 c9 c10 hrb JS B0 cn1 sBn SZ
   gi_loopw [6] (fun y wq => ∃ k : Nat, k ≤ Sx.many r ∧ y = .int .i64 (r.frm + (k : Int)) ∧ Hid (J (Sx.turnsOf (rs.take i) name ++ Sx.gN r k) wq) ∧ Hid (Below W0.heap.size W0 wq) ∧ Hid (wq.heap[Rb]? = some (.cells (ah r).toArray 40)) ∧ Hid (ak wq Rb (ah r)) ∧ Hid (W.heap.size ≤ wq.heap.size)) (fun y _ => (r.to + 1 - intOf y).toNat)
   case atStart => exact ⟨0, Nat.zero_le _, by simp, J1, B1, K1, X1, S1⟩
   case round =>
    clear J1 B1 K1 S1 X1
    obtain ⟨k, hk, rfl, J1, B1, K1, X1, S1⟩ := hrel
    have sR := X1.out.1
    obtain ⟨x0, _⟩ := aa X1.out 0 rfl
    obtain ⟨x1, _⟩ := aa X1.out 1 rfl
    obtain ⟨x2, _⟩ := aa X1.out 2 rfl
    obtain ⟨x3, _⟩ := aa X1.out 3 rfl
    obtain ⟨x4, _⟩ := aa X1.out 4 rfl
    obtain ⟨x5, _⟩ := aa X1.out 5 rfl
    obtain ⟨x6, _⟩ := aa X1.out 6 rfl
    obtain ⟨x7, _⟩ := aa X1.out 7 rfl
    obtain ⟨x8, _⟩ := aa X1.out 8 rfl
    obtain ⟨x9, _⟩ := aa X1.out 9 rfl
    obtain ⟨x10, _⟩ := aa X1.out 10 rfl
    by_cases hlk : k < Sx.many r
    case neg =>
     have hke : k = Sx.many r := by omega
     have hgt : ¬ r.frm + (k : Int) ≤ r.to := by have := hmany.out; omega
     have JN : Hid (J (Sx.turnsOf (rs.take (i + 1)) name) wr) := by
      have := J1.out
      rw [hke, Sx.tN] at this
      show J _ _
      rw [Sx.mq HX.out, HNM.out, if_pos rfl]
      exact this
     gi_wp2
     go_roundw
     case rel => exact ⟨i + 1, by omega, by go_num, JN, B1, S1⟩
     case measure => simp [intOf]; omega
    have hle : r.frm + (k : Int) ≤ r.to := by have := hmany.out; omega
    have OY := hid (Sx.EQ HOKR.out (y := r.frm + (k : Int)) (by omega) (by omega))
    have HC := hid (Ej r (r.frm + (k : Int)) wr OY.out.1 fa.1 fa.2)
    obtain ⟨T, hT⟩ : ∃ T, Sx.mo r (r.frm + (k : Int)) = T := ⟨_, rfl⟩
    rw [hT] at HC
    have HT := hid hT
    have HLT := hid (JI HX.out HNM.out hlk)
    clear hT
    gi_wp2_with (refine ⟨trivial, ?_⟩; gi_at_call 128; refine (callsIn_wide.2 HC.out).mono ?_; rintro e w1 ⟨rfl, hb⟩; have J2 := HJ.out _ _ _ none J1.out (below_grown hb) (fun r e => by cases e); obtain ⟨fn, tmps, assign, body, hy, hR⟩ := HY.out _ T w1 J2 HLT.out)
    refine hR.mono ?_
    have KB := K1.out
    have B2 : Below W0.heap.size W0 w1 := B1.out.trans (hb.mono B1.out.size)
    have X2 := ai X1.out hb
    have K2 : w1.heap[Rb]? = some (.cells (ah r).toArray 40) := by rw [hb.block Rb sR]; exact KB
    have S2 : W.heap.size ≤ w1.heap.size := Nat.le_trans S1.out hb.size
    rintro e W3 (⟨rfl, hJ3, hk3⟩ | ⟨rfl, hJx3⟩)
    ·have JN : Hid (J (Sx.turnsOf (rs.take i) name ++ Sx.gN r (k + 1)) W3) := by
      show J _ _
      rw [Sx.mD, HT.out, ← List.append_assoc]
      exact hJ3
     have BN : Hid (Below W0.heap.size W0 W3) := B2.trans hk3.1
     have KN : Hid (W3.heap[Rb]? = some (.cells (ah r).toArray 40)) := hk3.2.cells Rb _ _ K2 (by decide) (Ne.symm hRs.out)
     have XN : Hid (ak W3 Rb (ah r)) := kW X2 (q4N X2.1 hk3.2.size) (by rw [KN.out, K2])
     have SN : Hid (W.heap.size ≤ W3.heap.size) := Nat.le_trans S2 hk3.2.size
     clear hk3 hJ3 B2 X2 K2 S2 hb hR hy J2 KB J1 B1 K1 X1 S1
     gi_wp2
     go_roundw
     case rel => exact ⟨k + 1, by omega, by go_num, JN, BN, KN, XN, SN⟩
     case measure => simp [intOf]; omega
    ·have PX : Hid ((Sx.turnsOf (rs.take i) name ++ Sx.gN r k ++ [T]) <+: Sx.turnsOf rs name) := by
      have := qQ HX.out HNM.out (k := k + 1) (by omega)
      rw [Sx.mD, HT.out, ← List.append_assoc] at this
      exact this
     gi_wp2
     refine bodyPost_ret (results_none rfl _ _ _) rfl ?_
     exact ⟨⟨_, rfl⟩, .inr ⟨_, PX.out, hJx3⟩⟩
end
section
open Go.RowKit Go.Shelf
attribute [local go_sem] Oper.semAt_some

namespace Sx
def ago : Tn := ⟨-1099511627776, 0, 0, []⟩
def cu : Tn → List Tn → List (Tn × Tn)
 | _, [] => []
 | p, t :: r => (p, t) :: cu t r
def bQ (l : List Tn) : List (Tn × Tn) := cu ago l
def lastT (p : Tn) (l : List Tn) : Tn := (l.getLast?).getD p
theorem lw : ∀ (l : List Tn) (p t : Tn), cu p (l ++ [t]) = cu p l ++ [(lastT p l, t)]
 | [], p, t => rfl
 | u :: r, p, t => by
   simp only [List.cons_append, cu, lw r u t, lastT, List.getLast?_cons]
   cases r.getLast? <;> rfl
theorem kT : ∀ (l : List Tn) (p : Tn), (cu p l).length = l.length
 | [], p => rfl
 | u :: r, p => by simp [cu, kT r u]
theorem dm {α : Type} {l : List α} {i : Nat} {t : α} (h : l[i]? = some t) : l.take (i + 1) = l.take i ++ [t] := by
 rw [List.take_add_one, h]; rfl
theorem D9 {l : List Tn} {i : Nat} {t : Tn} (h : l[i]? = some t) : bQ (l.take (i + 1)) = bQ (l.take i) ++ [(lastT ago (l.take i), t)] := by
 unfold bQ; rw [dm h, lw]
theorem F8 {l : List Tn} {i : Nat} {t : Tn} (h : l[i]? = some t) : lastT ago (l.take (i + 1)) = t := by
 rw [dm h]; simp [lastT]
theorem lC : ∀ (a b : List Tn) (p : Tn), cu p a <+: cu p (a ++ b)
 | [], b, p => by simp [cu]
 | u :: r, b, p => by
   simp only [List.cons_append, cu]
   obtain ⟨t, ht⟩ := lC r b u
   exact ⟨t, by simp [ht]⟩
theorem zV (l : List Tn) (i : Nat) : bQ (l.take i) <+: bQ l := by
 have := lC (l.take i) (l.drop i) ago
 rwa [List.take_append_drop] at this
end Sx
def jJ := Rd 4 cZ
def pR := Rd 3 jq
theorem Kq {w : World} {b o i : Nat} {t : Sx.Tn} (h : ∀ k u, (cZ t)[k]? = some u → w.cell? ⟨b, o + i * 4 + k, none⟩ = some u) :
  w.cell? ⟨b, o + i * 4, none⟩ = some (.int .i64 t.stands) ∧ w.cell? ⟨b, o + i * 4 + 1, none⟩ = some (.int .i64 t.clock) ∧ w.cell? ⟨b, o + i * 4 + 2, none⟩ = some (.int .i64 t.save) ∧ w.cell? ⟨b, o + i * 4 + 3, none⟩ = some (ag t.letter) :=
 ⟨h 0 _ rfl, h 1 _ rfl, h 2 _ rfl, h 3 _ rfl⟩
theorem aj {W : World} {b : Nat} {vs : List Value} {t : TypeId} (h : W.heap[b]? = some (.cells vs.toArray t (0, 0))) : ak W b vs := by
 refine ⟨(q4A.1 h).1, fun k v hv => ?_⟩
 simp [World.cell?, World.frozen?, h, hv]
/- four cells of a block written one by one -/
theorem put4 {W : World} {b : Nat} {t : TypeId} {c0 c1 c2 c3 : Value} (v0 v1 v2 v3 : Value) (h : W.heap[b]? = some (.cells #[c0, c1, c2, c3] t)) :
  ((((W.setCell ⟨b, 0, none⟩ v0).setCell ⟨b, 1, none⟩ v1).setCell ⟨b, 2, none⟩ v2).setCell ⟨b, 3, none⟩ v3).heap[b]? = some (.cells #[v0, v1, v2, v3] t) := by
 obtain ⟨hlt, e⟩ := q4A.1 h
 simp [World.setCell, Array.getElem?_modify, h]
theorem Lf (W : World) (b : Nat) (v0 v1 v2 v3 : Value) : W.grownBy ((((W.setCell ⟨b, 0, none⟩ v0).setCell ⟨b, 1, none⟩ v1).setCell ⟨b, 2, none⟩ v2).setCell ⟨b, 3, none⟩ v3) (some b) := by
 refine ⟨rfl, rfl, rfl, by simp, fun k hk hn => ?_⟩
 have hne : k ≠ b := fun e => hn (by rw [e])
 rw [Below.heap_setCell _ _ _ _ hne, Below.heap_setCell _ _ _ _ hne, Below.heap_setCell _ _ _ _ hne, Below.heap_setCell _ _ _ _ hne]

theorem GY (n l Bo Bs : Nat) (hn : 1 ≤ n) (ts : List Sx.Tn) (ra : Option Addr) (rcap : Nat) (W0 W : World) (h : jJ W0 (.slice ra ts.length rcap) ts) (hts : ts.length ≤ 10000)
  (cl : W.cell? ⟨Bo, 0, none⟩ = some (.slice ra ts.length rcap)) (hBo : Bo < W.heap.size) (hBs : Bs < W.heap.size) (hW : Below W0.heap.size W0 W)
  (J Jx : List (Sx.Tn × Sx.Tn) → World → Prop) (hJ : tY W.heap.size J)
  (hY : ∀ pre x W1, J pre W1 → pre ++ [x] <+: Sx.bQ ts → YieldAt Fence.wide (n - 1) Tryz.prog l #[nJ x.1 x.2] W1 fun e W' => (e = .returned (.bool true) ∧ J (pre ++ [x]) W' ∧ Kp W0.heap.size 72 Bs W1 W') ∨ (e = .returned (.bool false) ∧ Jx (pre ++ [x]) W'))
  (h0 : J [] W) :
  CallsIn Fence.wide n Tryz.prog 131 #[.func (.yield l) #[] #[], .pointer (some ⟨Bo, 0, none⟩)] W fun e W' => (∃ v, e = .returned v) ∧ ((∃ ys, ys = Sx.bQ ts ∧ J ys W') ∨ (∃ pre, pre <+: Sx.bQ ts ∧ Jx pre W')) := by
 have HY := hid hY
 have HJ := hid hJ
 have H := hid h
 have cl1 := cl
 have sBo : Bo < W.heap.size := hBo
 have J0 : Hid (J (Sx.bQ (ts.take 0)) (W.alloc (.cells (cZ Sx.ago).toArray 120))) := hJ _ _ _ none h0 (World.grownBy_alloc W _ none) (fun r e => by cases e)
 have B0 := hid (hW.alloc hW.size (.cells (cZ Sx.ago).toArray 120))
 have F0 : Hid ((W.alloc (.cells (cZ Sx.ago).toArray 120)).heap[W.heap.size]? = some (.cells (cZ (Sx.lastT Sx.ago (ts.take 0))).toArray 120)) := World.alloc_heap_new W _
 have S0 : Hid (W.heap.size < (W.alloc (.cells (cZ Sx.ago).toArray 120)).heap.size) := by show _ < _; simp
 have hsB : Hid (Bs ≠ W.heap.size ∧ W0.heap.size ≤ W.heap.size) := ⟨by omega, hW.size⟩
 have BsL := hid hBs
 clear hY hJ h cl h0
 refine callsIn_of_wp Tryz.func131 rfl trivial ?_ rfl
 simp only [Tryz.ntmps131, List.size_toArray, List.length_cons, List.length_nil, Nat.reduceAdd, Nat.reduceSub, Array.replicate_succ, Array.replicate_zero, List.push_toArray, List.append_toArray, List.nil_append, List.cons_append]
 gi_wp2
 obtain ⟨Fb, hFb⟩ : ∃ Fb, W.heap.size = Fb := ⟨_, rfl⟩
 rw [hFb] at HJ F0 S0 hsB BsL ⊢
 obtain ⟨V, hV⟩ : ∃ V, W.alloc (.cells (cZ Sx.ago).toArray 120) = V := ⟨_, rfl⟩
 rw [show W.alloc (.cells #[.int .i64 (-1099511627776), .int .i64 0, .int .i64 0, .string ⟨#[]⟩] 120) = V from hV]
 rw [hV] at J0 B0 F0 S0
 clear hV hFb hW hBs cl1 sBo
 gi_loopw [9] (fun a wr => ∃ i : Nat, i ≤ ts.length ∧ a = .int .i64 i ∧ Hid (J (Sx.bQ (ts.take i)) wr) ∧ Hid (Below W0.heap.size W0 wr) ∧ Hid (wr.heap[Fb]? = some (.cells (cZ (Sx.lastT Sx.ago (ts.take i))).toArray 120)) ∧ Hid (Fb < wr.heap.size)) (fun a _ => ts.length - (intOf a).toNat)
 case atStart => exact ⟨0, Nat.zero_le _, rfl, J0, B0, F0, S0⟩
 case round =>
  clear J0 B0 F0 S0
  obtain ⟨i, hi, rfl, JS, B0, F0, SZ⟩ := hrel
  by_cases hlt : i < ts.length
  case neg =>
   have e : ts.take i = ts := List.take_of_length_le (by omega)
   rw [e] at JS
   gi_wp2
   go_end0
   exact ⟨⟨_, rfl⟩, .inl ⟨_, rfl, JS.out⟩⟩
  obtain ⟨t, hx⟩ : ∃ t, ts[i]? = some t := ⟨_, q4G hlt⟩
  obtain ⟨rb, ro, rfl, hrb, hc⟩ := dx (au H.out B0.out) hx
  obtain ⟨c0, c1, c2, c3⟩ := Kq hc
  have HX := hid hx
  have HL := hid (Sx.D9 hx)
  have HN := hid (Sx.F8 hx)
  obtain ⟨p, hp⟩ : ∃ p, Sx.lastT Sx.ago (ts.take i) = p := ⟨_, rfl⟩
  rw [hp] at F0 HL
  have CF := aj F0.out
  obtain ⟨⟨f0, z0⟩, ⟨f1, z1⟩, ⟨f2, z2⟩, ⟨f3, z3⟩, -⟩ := cp4 CF
  have sF := SZ.out
  have J2 : Hid (J (Sx.bQ (ts.take i)) (wr.alloc (.cells (cZ t).toArray 120))) := HJ.out _ _ _ none JS.out (World.grownBy_alloc wr _ none) (fun r e => by cases e)
  have B2 := hid (B0.out.alloc B0.out.size (.cells (cZ t).toArray 120))
  have PX : Hid ((Sx.bQ (ts.take i) ++ [(p, t)]) <+: Sx.bQ ts) := by
   show _ <+: _
   rw [← HL.out]
   exact Sx.zV ts (i + 1)
  clear hc hx hp CF
  obtain ⟨fn, tmps, assign, body, hy, hR⟩ := HY.out _ (p, t) (wr.alloc (.cells #[.int .i64 t.stands, .int .i64 t.clock, .int .i64 t.save, ag t.letter] 120)) J2.out PX.out
  dsimp only at hy
  have HR := hid hR
  have K2 : Hid ((wr.alloc (.cells (cZ t).toArray 120)).heap[wr.heap.size]? = some (.cells (cZ t).toArray 120)) := World.alloc_heap_new wr _
  have F2 : Hid ((wr.alloc (.cells (cZ t).toArray 120)).heap[Fb]? = some (.cells (cZ p).toArray 120)) := by show _ = _; rw [Below.heap_alloc _ _ _ sF]; exact F0.out
  have hT : Hid (Bs ≠ wr.heap.size ∧ W0.heap.size ≤ wr.heap.size ∧ Fb < wr.heap.size) := ⟨by have := hsB.out; have := BsL.out; omega, B0.out.size, SZ.out⟩
  clear hR
  gi_wp2
  refine HR.out.mono ?_
  clear HR hy f0 f1 f2 f3 z0 z1 z2 z3 c0 c1 c2 c3 hrb F0 JS B0 SZ sF J2
  obtain ⟨Tb, hTb⟩ : ∃ Tb, wr.heap.size = Tb := ⟨_, rfl⟩
  obtain ⟨X, hX⟩ : ∃ X, wr.alloc (.cells (cZ t).toArray 120) = X := ⟨_, rfl⟩
  rw [show wr.alloc (.cells #[.int .i64 t.stands, .int .i64 t.clock, .int .i64 t.save, ag t.letter] 120) = X from hX]
  rw [hX] at K2 F2 B2
  rw [hTb] at K2 hT ⊢
  clear hX hTb
  rintro e W3 (⟨rfl, hJ3, hk3⟩ | ⟨rfl, hJx3⟩)
  ·have F3 : W3.heap[Fb]? = some (.cells (cZ p).toArray 120) := hk3.2.cells Fb _ _ F2.out (by decide) (Ne.symm hsB.out.1)
   have T3 : W3.heap[Tb]? = some (.cells (cZ t).toArray 120) := hk3.2.cells Tb _ _ K2.out (by decide) (Ne.symm hT.out.1)
   have B3 : Below W0.heap.size W0 W3 := B2.out.trans hk3.1
   have s3 : Fb < W3.heap.size := (q4A.1 F3).1
   have st3 : Tb < W3.heap.size := (q4A.1 T3).1
   obtain ⟨⟨f0, z0⟩, ⟨f1, z1⟩, ⟨f2, z2⟩, ⟨f3, z3⟩, -⟩ := cp4 (aj F3)
   obtain ⟨⟨c0, _⟩, ⟨c1, _⟩, ⟨c2, _⟩, ⟨c3, _⟩, -⟩ := cp4 (aj T3)
   have G := Lf W3 Fb (.int .i64 t.stands) (.int .i64 t.clock) (.int .i64 t.save) (ag t.letter)
   have JN : Hid (J (Sx.bQ (ts.take (i + 1))) ((((W3.setCell ⟨Fb, 0, none⟩ (.int .i64 t.stands)).setCell ⟨Fb, 1, none⟩ (.int .i64 t.clock)).setCell ⟨Fb, 2, none⟩ (.int .i64 t.save)).setCell ⟨Fb, 3, none⟩ (ag t.letter))) := by
    show J _ _
    rw [HL.out]
    exact HJ.out _ _ _ _ hJ3 G (fun r e => by cases e; exact ⟨Nat.le_refl _, .inl rfl⟩)
   have BN := hid (B3.grown G B3.size (fun k e => by cases e; exact hsB.out.2))
   have FN : Hid (((((W3.setCell ⟨Fb, 0, none⟩ (.int .i64 t.stands)).setCell ⟨Fb, 1, none⟩ (.int .i64 t.clock)).setCell ⟨Fb, 2, none⟩ (.int .i64 t.save)).setCell ⟨Fb, 3, none⟩ (ag t.letter)).heap[Fb]? = some (.cells (cZ (Sx.lastT Sx.ago (ts.take (i + 1)))).toArray 120)) := by
    show _ = _
    rw [HN.out]
    exact put4 _ _ _ _ F3
   have SN : Hid (Fb < ((((W3.setCell ⟨Fb, 0, none⟩ (.int .i64 t.stands)).setCell ⟨Fb, 1, none⟩ (.int .i64 t.clock)).setCell ⟨Fb, 2, none⟩ (.int .i64 t.save)).setCell ⟨Fb, 3, none⟩ (ag t.letter)).heap.size) := q4N s3 G.size
   clear hk3 hJ3 B3 G F3 T3 F2 K2 B2
   gi_wp2
   go_roundw
   case rel => exact ⟨i + 1, by omega, by go_num, JN, BN, FN, SN⟩
   case measure => simp [intOf]; omega
  ·gi_wp2
   refine bodyPost_ret (results_none rfl _ _ _) rfl ?_
   exact ⟨⟨_, rfl⟩, .inr ⟨_, PX.out, hJx3⟩⟩
theorem tH (n Bo Bs : Nat) (hn : 1 ≤ n) (ts : List Sx.Tn) (ra : Option Addr) (rcap : Nat) (W0 w : World) (h : jJ W0 (.slice ra ts.length rcap) ts) (hts : ts.length ≤ 10000)
  (cl : w.cell? ⟨Bo, 0, none⟩ = some (.slice ra ts.length rcap)) (hBo : Bo < w.heap.size) (hBs : Bs < w.heap.size) (hW : Below W0.heap.size W0 w) :
  SeqC Fence.wide n Tryz.prog 131 #[.pointer (some ⟨Bo, 0, none⟩)] (fun x : Sx.Tn × Sx.Tn => #[nJ x.1 x.2]) (Kp W0.heap.size 72 Bs) (fun ys => ys = Sx.bQ ts) (fun pre => pre <+: Sx.bQ ts) w :=
 fun l J Jx W hW1 hJ hJx hY h0 => GY n l Bo Bs hn ts ra rcap W0 W h hts ((hW1.cell (p := ⟨Bo, 0, none⟩) hBo).trans cl) (q4N hBo hW1.size) (q4N hBs hW1.size) (hW.trans (hW1.mono hW.size)) J Jx hJ hY h0
end
end Go.Proofs.YtkhlkohlccndgaaGreat
