/- Lists of lines in memory: lists that a call makes (OwnLines), and lists that can be read (RdLines). · What holds of the lines of a text, on plain lists. · append onto a row of one's own, inside a region that draws. · What the document's ParseOf has parsed so far, in memory; how a line's Taker begins and ends. · Contracts of the program's First over rules, fitsLimits and Check of a source that has rules alone. · The contract of the program's Check of a source that has rules alone. · Turns and times of rules in memory; contracts of the program's turnIn, step.time, and of how turns are compared. · What a round of a loop over an iterator keeps: all cells but the caller's box, and rows of the type that the caller gathers. · A loop over an iterator that, between two rounds, turns the one block that it laid first. The iterator's contract (SeqC), and the law of such a loop: the caller's invariant does not mind a turn of that block. · The contract of the iterator of rule.turns. · Steps from turn to turn: in plain terms; the contract of the iterator of rule.steps. · Contracts of rule.steps (the function value), rule.checkTurns$1, seek.First and seek.Has over steps, rule.checkTurns. · Rows of one's own, written element by element; turns with their rules in memory. · Formats of names of times: what the document counts sign by sign, and what is found by cutting at a mark. Plain. · Contracts of the program's signs of names of times. · strings.Cut at this dump: one application of the library s contract. · The contract of the program's IsFormat. · The contract of the program's checkEnd. · The contract of the program's checkEra. -/
import Derived.Test.YtkhlkohlccndgaaGreatQz
import Derived.Test.YtkhlkohlccndgaaGreatQad
import Derived.Test.YtkhlkohlccndgaaGreatQaa
import Derived.Laws.AppendOwn
import Derived.Deep.RegionLaw
import Derived.Deep.RegionLawGrows
import Derived.Test.YtkhlkohlccndgaaGreatQae
import Derived.RangeFuncNested
import Derived.RangeFuncBound
import Derived.RangeFuncCalls
import Derived.RangeFuncLeaves
import Derived.Shelf.Abstract
import Derived.Shelf.RegionOpen
import Derived.WalkKit
import Derived.OwnWalkIn
import Derived.TacticsInMore
import Derived.LoopNIn
import Derived.LoopIn
import Derived.Deep.MidRow
import Derived.Lib.IndexMore
import Derived.Shelf.Strings.Cut
import Derived.Test.YtkhlkohlccndgaaGreatProg
import Derived.Test.YtkhlkohlccndgaaGreatQac
set_option linter.unusedVariables false
set_option linter.unusedSimpArgs false
set_option maxRecDepth 100000
set_option maxHeartbeats 16000000
namespace Go.Proofs.YtkhlkohlccndgaaGreat
section
open Go.RowKit

theorem Tryz.infoLine : (Tryz.prog.info? 207).map (fun i => (i.zero, i.size, i.bytes)) = some (some (.agg #[.int .i64 0, .bool false, .slice none 0 0]), 3, 40) := by kernel_rfl

theorem three_cells (w : World) (a b c : Value) {e : TypeId} : ∀ (j : Nat) (x : Value), [a, b, c][j]? = some x → (w.alloc (.cells #[a, b, c] e)).cell? ((⟨w.heap.size, 0, none⟩ : Addr).add j) = some x := by
 intro j x hj
 match j, hj with
 | 0, hj => simp at hj; subst hj; simp [Addr.add]
 | 1, hj => simp at hj; subst hj; simp [Addr.add]
 | 2, hj => simp at hj; subst hj; simp [Addr.add]
theorem three_one (n : Int) (b : Bool) (a : Option Addr) (k c : Nat) : ∀ u ∈ [Value.int .i64 n, .bool b, .slice a k c], u.oneCell' = true := by
 intro u hu; simp at hu; rcases hu with rfl | rfl | rfl <;> rfl
def cellsOf : List Value → List Tx.Ln → List Value
 | v :: vs, l :: ls => .int .i64 l.number :: .bool l.inner :: v :: cellsOf vs ls
 | _, _ => []
theorem cellsOf_snoc : ∀ (vs : List Value) (ls : List Tx.Ln) (v : Value) (l : Tx.Ln), vs.length = ls.length → cellsOf (vs ++ [v]) (ls ++ [l]) = cellsOf vs ls ++ [.int .i64 l.number, .bool l.inner, v]
 | [], [], v, l, _ => rfl
 | a :: vs, b :: ls, v, l, h => by simp [cellsOf, cellsOf_snoc vs ls v l (by simpa using h)]
 | [], b :: ls, _, _, h => by simp at h
 | a :: vs, [], _, _, h => by simp at h
theorem cellsOf_get : ∀ (vs : List Value) (ls : List Tx.Ln) (i : Nat) (v : Value) (l : Tx.Ln), vs[i]? = some v → ls[i]? = some l → (cellsOf vs ls)[3 * i]? = some (.int .i64 l.number) ∧ (cellsOf vs ls)[3 * i + 1]? = some (.bool l.inner) ∧ (cellsOf vs ls)[3 * i + 2]? = some v
 | a :: vs, b :: ls, 0, v, l, h1, h2 => by simp at h1 h2; subst h1 h2; simp [cellsOf]
 | a :: vs, b :: ls, i + 1, v, l, h1, h2 => by
   have := cellsOf_get vs ls i v l (by simpa using h1) (by simpa using h2)
   simp only [cellsOf]
   refine ⟨?_, ?_, ?_⟩
   ·rw [show 3 * (i + 1) = 3 * i + 1 + 1 + 1 by omega]; simpa using this.1
   ·rw [show 3 * (i + 1) + 1 = (3 * i + 1) + 1 + 1 + 1 by omega]; simpa using this.2.1
   ·rw [show 3 * (i + 1) + 2 = (3 * i + 2) + 1 + 1 + 1 by omega]; simpa using this.2.2
 | [], _, i, v, l, h1, _ => by simp at h1
 | a :: vs, [], i, v, l, _, h2 => by simp at h2

def OwnLines (w : World) (B : Nat) (v : Value) (ls : List Tx.Ln) : Prop :=
 ∃ vs : List Value, vs.length = ls.length ∧ w.ownsRow B 207 3 v ls.length (cellsOf vs ls) ∧
  ∀ (i : Nat) (fv : Value) (l : Tx.Ln), vs[i]? = some fv → ls[i]? = some l → w.ownsRow B 9 1 fv l.fields.length (l.fields.map strV)
theorem ownLines_nil (w : World) (B : Nat) : OwnLines w B (.slice none 0 0) [] := ⟨[], rfl, World.ownsRow_nil _ _ _ _, fun i fv l h => by simp at h⟩
theorem ownLines_below {W w' : World} {B : Nat} {v : Value} {ls : List Tx.Ln} (h : OwnLines W B v ls) (hb : Below W.heap.size W w') : OwnLines w' B v ls := by
 obtain ⟨vs, h1, h2, h3⟩ := h
 exact ⟨vs, h1, owns_below h2 hb, fun i fv l a b => owns_below (h3 i fv l a b) hb⟩
theorem ownLines_app {w1 w3 : World} {B : Nat} {v v' fv : Value} {vs : List Value} {ls : List Tx.Ln} {l : Tx.Ln} {o : Obj} (hl : vs.length = ls.length) (hown : w1.ownsRow B 207 3 v ls.length (cellsOf vs ls))
  (hf : ∀ (i : Nat) (fv : Value) (l : Tx.Ln), vs[i]? = some fv → ls[i]? = some l → w1.ownsRow B 9 1 fv l.fields.length (l.fields.map strV)) (hfv : w1.ownsRow B 9 1 fv l.fields.length (l.fields.map strV))
  (hown' : w3.ownsRow B 207 3 v' (ls.length + 1) (cellsOf vs ls ++ [.int .i64 l.number, .bool l.inner, fv])) (hg : (w1.alloc o).grownBy w3 v.ownBlock) : OwnLines w3 B v' (ls ++ [l]) := by
 have keep : ∀ fv (l : Tx.Ln), w1.ownsRow B 9 1 fv l.fields.length (l.fields.map strV) → w3.ownsRow B 9 1 fv l.fields.length (l.fields.map strV) := fun fv l h =>
  (h.alloc o).kept hg (owns_ne h hown (by decide))
 refine ⟨vs ++ [fv], by simp [hl], ?_, ?_⟩
 ·rw [cellsOf_snoc vs ls fv l hl]; simpa using hown'
 ·intro i x y hx hy
  by_cases h : i < ls.length
  ·rw [List.getElem?_append_left (by omega)] at hx
   rw [List.getElem?_append_left h] at hy
   exact keep x y (hf i x y hx hy)
  ·have hi : i = ls.length := by
    have := (List.getElem?_eq_some_iff.1 hy).1
    simp at this; omega
   subst hi
   rw [← hl] at hx
   simp at hx hy
   subst hx hy
   exact keep fv l hfv
theorem ownLines_shape {w : World} {B : Nat} {v : Value} {ls : List Tx.Ln} (h : OwnLines w B v ls) : ∃ a cap, v = .slice a ls.length cap := by
 obtain ⟨vs, _, h2, _⟩ := h
 exact owns_shape0 h2

end
namespace Tx

theorem fields_count : ∀ (m n : Nat) (l : Bs), n ≤ 12 → (fields m n l).1.length + n ≤ 12
 | 0, n, l, h => by simp [fields]; exact h
 | m + 1, n, l, h => by
   unfold fields
   cases hk : skip l with
   | nil => simpa using h
   | cons c r =>
     simp only
     split
     ·simpa using h
     ·cases hf : field (c :: r) with
      | none => simpa using h
      | some p =>
        simp only
        split
        ·simpa using h
        ·rename_i hm
         split
         ·have := fields_count m (n + 1) p.2 (by omega)
          simp at this ⊢; omega
         ·simpa using h
theorem fields_each : ∀ (m n : Nat) (l : Bs), ∀ f ∈ (fields m n l).1, f.length ≤ 24
 | 0, n, l => by simp [fields]
 | m + 1, n, l => by
   unfold fields
   cases hk : skip l with
   | nil => simp
   | cons c r =>
     simp only
     split
     ·simp
     ·cases hf : field (c :: r) with
      | none => simp
      | some p =>
        simp only
        split
        ·simp
        ·rename_i hm
         split
         ·have := fields_each m (n + 1) p.2
          intro f hf'
          simp at hf'
          rcases hf' with rfl | hf'
          ·omega
          ·exact this f hf'
         ·simp
theorem go_lines : ∀ (rs : List Bs) (n : Int), ∀ l ∈ (go n rs).lines, ∃ r ∈ rs, l.fields = (rowF r).1 ∧ l.inner = inner r ∧ (rowF r).2 = 0 ∧ (rowF r).1 ≠ []
 | [], n => by simp [go]
 | r :: rs, n => by
   intro l hl
   unfold go at hl
   split at hl
   ·simp at hl
   ·rename_i h1
    split at hl
    ·simp at hl
    ·simp only at hl
     split at hl
     ·obtain ⟨x, hx, q⟩ := go_lines rs (n + 1) l hl
      exact ⟨x, by simp [hx], q⟩
     ·rename_i h3
      simp at hl
      rcases hl with rfl | hl
      ·exact ⟨r, by simp, rfl, rfl, by simpa using h1, h3⟩
      ·obtain ⟨x, hx, q⟩ := go_lines rs (n + 1) l hl
       exact ⟨x, by simp [hx], q⟩
theorem split_lines (s : Bs) : (split s).lines.length ≤ 200 ∧ ∀ l ∈ (split s).lines, ∃ r, l.fields = (rowF r).1 ∧ l.inner = inner r ∧ (rowF r).2 = 0 ∧ (rowF r).1 ≠ [] := by
 unfold split
 split
 ·simp
 ·split
  ·simp
  ·split
   ·simp
   ·rename_i h
    refine ⟨by simpa using h, ?_⟩
    intro l hl
    obtain ⟨r, _, q⟩ := go_lines _ _ l hl
    exact ⟨r, q⟩
theorem split_counts (s : Bs) : ∀ l ∈ (split s).lines, l.fields.length ≤ 12 ∧ ∀ f ∈ l.fields, f.length ≤ 24 := by
 intro l hl
 obtain ⟨r, h, _⟩ := (split_lines s).2 l hl
 rw [h]
 exact ⟨fields_count (r.length + 1) 0 r (by omega), fields_each _ _ _⟩
end Tx
section
open Go.RowKit

theorem step_append_own {P : Program} {ops : Array Oper} {o : Oper} {a : Act} {w : World} {K : Act → World → Prop} {Q : Exit → Act → World → Prop} {E : Prop}
  (hg : o.guard = none) (s x : Operand) (t : TypeId) (hop : o.op = Op.call { callee := Callee.builtin Builtin.append, args := #[s, x], argTypes := #[t, t] })
  (base : Nat) (e : TypeId) (i : TypeInfo) (z : Value) (size bytes : Nat) (h1 : P.underlying t = some (.slice e)) (h2 : P.info? e = some i) (h3 : i.zero = some z) (h4 : i.size = size) (h5 : i.bytes = bytes) (h6 : z.cells.size = size) (h7 : 0 < size)
  (v : Value) (n : Nat) (xs : List Value) (hs : a.eval s = v) (hown : w.ownsRow base e size v n xs)
  (ad : Addr) (m c : Nat) (news : List Value) (hx : a.eval x = .slice (some ad) m c) (hn : news.length = m * size) (hc : ∀ j u, news[j]? = some u → w.cell? (ad.add j) = some u) (h1c : ∀ u ∈ news, u.oneCell' = true)
  (b1 : n + m ≤ maxLen) (b2 : (n + m) * bytes ≤ 140737488355328) (hbase : base ≤ w.heap.size)
  (hK : ∀ v' w', w'.ownsRow base e size v' (n + m) (xs ++ news) → w.grownBy w' v.ownBlock → K (a.put o.dst v') w') :
  if Region.wanted o (yielded ops a.tmps) = true then Oper.wp P o a w K Q else E := by
 have hw : Region.wanted o (yielded ops a.tmps) = true := by simp [Region.wanted, hg]
 rw [if_pos hw]
 obtain ⟨v', w', hrun, r1, r2, _⟩ := run_append_own (P := P) w base t o.type e i z size bytes h1 h2 h3 h4 h5 h6 h7 v n xs hown ad m c news hn hc h1c b1 b2 hbase
 unfold Oper.wp
 simp [execOp, hop, resolve, invoke, builtin, hs, hx, hrun, Result.andThen]
 exact hK v' w' r1 r2

/- .. and of any list, an empty one too, whether it lies anywhere or not -/
theorem run_append_any {P : Program} (w : World) (base : Nat) (t ty e : TypeId) (i : TypeInfo) (z : Value) (size bytes : Nat) (h1 : P.underlying t = some (.slice e)) (h2 : P.info? e = some i) (h3 : i.zero = some z) (h4 : i.size = size) (h5 : i.bytes = bytes) (h6 : z.cells.size = size) (h7 : 0 < size)
  (v : Value) (n : Nat) (xs : List Value) (hown : w.ownsRow base e size v n xs)
  (xa : Option Addr) (m c : Nat) (news : List Value) (hn : news.length = m * size) (hc : ∀ ad, xa = some ad → ∀ j u, news[j]? = some u → w.cell? (ad.add j) = some u) (h0 : xa = none → m = 0) (h1c : ∀ u ∈ news, u.oneCell' = true)
  (b1 : n + m ≤ maxLen) (b2 : (n + m) * bytes ≤ 140737488355328) (hbase : base ≤ w.heap.size) :
  ∃ v' w', (Builtin.append_ #[t, t] ty #[v, .slice xa m c]).run P w = .ok v' w' ∧ w'.ownsRow base e size v' (n + m) (xs ++ news) ∧ w.grownBy w' v.ownBlock := by
 cases xa with
 | some ad =>
   obtain ⟨v', w', r0, r1, r2, _⟩ := run_append_own (P := P) w base t ty e i z size bytes h1 h2 h3 h4 h5 h6 h7 v n xs hown ad m c news hn (hc ad rfl) h1c b1 b2 hbase
   exact ⟨v', w', r0, r1, r2⟩
 | none =>
   obtain rfl := h0 rfl
   have hnil : news = [] := List.eq_nil_of_length_eq_zero (by simpa using hn)
   subst hnil
   subst h4
   refine ⟨v, w, ?_, by simpa using hown, ⟨rfl, rfl, rfl, Nat.le_refl _, fun _ _ _ => rfl⟩⟩
   rcases hown.2 with ⟨rfl, rfl⟩ | ⟨g, cap, cur, rfl, _, hg, hnc, _⟩
   ·simp [Builtin.append_, run_underlying h1, sizeOf, typeInfo, h2, Builtin.lenOf, Builtin.firstCells]
   ·simp [Builtin.append_, run_underlying h1, sizeOf, typeInfo, h2, Builtin.lenOf, Builtin.firstCells, hnc, storeCells]
theorem wpList_append_any {P : Program} {w : World} {ops : Array Oper} {rest : List Oper} {o : Oper} {a : Act} {Q : Exit → Act → World → Prop} (hgd : o.guard = none) (s x : Operand) (t : TypeId)
  (hop : o.op = Op.call { callee := Callee.builtin Builtin.append, args := #[s, x], argTypes := #[t, t] })
  (base : Nat) (e : TypeId) (i : TypeInfo) (z : Value) (size bytes : Nat) (h1 : P.underlying t = some (.slice e)) (h2 : P.info? e = some i) (h3 : i.zero = some z) (h4 : i.size = size) (h5 : i.bytes = bytes) (h6 : z.cells.size = size) (h7 : 0 < size)
  (v : Value) (n : Nat) (xs : List Value) (hs : a.eval s = v) (hown : w.ownsRow base e size v n xs)
  (xa : Option Addr) (m c : Nat) (news : List Value) (hx : a.eval x = .slice xa m c) (hn : news.length = m * size) (hc : ∀ ad, xa = some ad → ∀ j u, news[j]? = some u → w.cell? (ad.add j) = some u) (h0 : xa = none → m = 0) (h1c : ∀ u ∈ news, u.oneCell' = true)
  (b1 : n + m ≤ maxLen) (b2 : (n + m) * bytes ≤ 140737488355328) (hbase : base ≤ w.heap.size)
  (h : ∀ v' w', w'.ownsRow base e size v' (n + m) (xs ++ news) → w.grownBy w' v.ownBlock → wpList P ops Q rest (a.put o.dst v') w') : wpList P ops Q (o :: rest) a w := by
 refine wpList_plain hgd fun K hK => ?_
 obtain ⟨v', w', hrun, r1, r2⟩ := run_append_any (P := P) w base t o.type e i z size bytes h1 h2 h3 h4 h5 h6 h7 v n xs hown xa m c news hn hc h0 h1c b1 b2 hbase
 unfold Oper.wp
 simp [execOp, hop, resolve, invoke, builtin, hs, hx, hrun, Result.andThen]
 exact hK _ _ (h v' w' r1 r2)
end
section
open Go.RowKit

abbrev nilS : Value := .slice none 0 0
theorem Tryz.infoRule : (Tryz.prog.info? 40).map (fun i => (i.zero, i.size, i.bytes)) = some (some (.agg #[.string ⟨#[]⟩, .int .i64 0, .int .i64 0, .int .i64 0, .int .i64 0, .int .i64 0, .int .i64 0, .int .i64 0, .int .i64 0, .int .i64 0, .string ⟨#[]⟩]), 11, 104) := by kernel_rfl
theorem Tryz.infoEra : (Tryz.prog.info? 67).map (fun i => (i.zero, i.size, i.bytes)) = some (some (.agg #[.int .i64 0, .string ⟨#[]⟩, .int .i64 0, .string ⟨#[]⟩, .bool false, .int .i64 0, .int .i64 0, .int .i64 0, .int .i64 0, .int .i64 0]), 10, 96) := by kernel_rfl
theorem Tryz.infoZone : (Tryz.prog.info? 44).map (fun i => (i.zero, i.size, i.bytes)) = some (some (.agg #[.string ⟨#[]⟩, .slice none 0 0]), 2, 40) := by kernel_rfl
theorem Tryz.infoLink : (Tryz.prog.info? 35).map (fun i => (i.zero, i.size, i.bytes)) = some (some (.agg #[.string ⟨#[]⟩, .string ⟨#[]⟩]), 2, 32) := by kernel_rfl

/- a line of a list of lines that a call has made -/
theorem ownLine_at {w : World} {B : Nat} {a : Option Addr} {n cap : Nat} {ls : List Tx.Ln} {i : Nat} {l : Tx.Ln} (h : OwnLines w B (.slice a n cap) ls) (hl : ls[i]? = some l) :
  ∃ g fa fcap, a = some ⟨g, 0, none⟩ ∧ (B ≤ g ∧ g < w.heap.size) ∧ w.cell? ⟨g, i * 3, none⟩ = some (.int .i64 l.number) ∧ w.cell? ⟨g, i * 3 + 1, none⟩ = some (.bool l.inner) ∧ w.cell? ⟨g, i * 3 + 2, none⟩ = some (.slice fa l.fields.length fcap) ∧ w.ownsRow B 9 1 (.slice fa l.fields.length fcap) l.fields.length (l.fields.map strV) := by
 obtain ⟨vs, hlen, h2, h3⟩ := h
 have hlt := (List.getElem?_eq_some_iff.1 hl).1
 rcases h2.2 with ⟨_, h0⟩ | ⟨g, c, cur, e, hrest⟩
 ·omega
 simp at e
 obtain ⟨rfl, rfl, rfl⟩ := e
 obtain ⟨_, _, q3, q4, q5⟩ := owns_cell (g := 0) h2
 have hv : vs[i]? = some (vs[i]'(by omega)) := List.getElem?_eq_getElem _
 obtain ⟨g0, g1, g2⟩ := cellsOf_get vs ls i _ l hv hl
 have ho := h3 i _ l hv hl
 obtain ⟨fa, fcap, e⟩ := owns_shape0 ho
 rw [Nat.mul_comm 3 i] at g0 g1 g2
 refine ⟨g, fa, fcap, rfl, ⟨q3, q4⟩, q5 _ _ g0, q5 _ _ g1, ?_, ?_⟩
 ·rw [← e]; exact q5 _ _ g2
 ·rw [← e]; exact ho
/- a Taker of its fields -/
theorem tkO_new {w : World} {B : Nat} {fa : Option Addr} {fcap : Nat} {fs : List Tx.Bs} {t : TypeId} (h : w.ownsRow B 9 1 (.slice fa fs.length fcap) fs.length (fs.map strV)) (h12 : fs.length ≤ 12) (h24 : ∀ f ∈ fs, f.length ≤ 24) :
  TkO (w.alloc (.cells #[.slice fa fs.length fcap, .bool false] t)) w.heap.size (w.heap.size + 1) (some fs) := by
 have hc := ca_new w [.slice fa fs.length fcap, .bool false] t
 obtain ⟨c0, z0⟩ := ca_at hc 0 rfl
 obtain ⟨c1, z1⟩ := ca_at hc 1 rfl
 have hcap : fs.length ≤ fcap := by
  rcases h.2 with ⟨e, h0⟩ | ⟨g, c, cur, e, hb, hg, hn, _⟩
  ·omega
  ·simp at e; rw [e.2]; exact hn
 refine ⟨show TkS _ _ _ _ _ from ⟨by omega, by simp, ⟨fa, fcap, c0, hcap, fun hn => ?_⟩, c1, z0, z1, h12, h24⟩⟩
 rcases h.2 with ⟨e, h0⟩ | ⟨g, c, cur, e, hb, hg, hm, hrest⟩
 ·exact absurd (List.length_eq_zero_iff.1 h0) hn
 simp at e
 obtain ⟨rfl, rfl⟩ := e
 obtain ⟨_, _, q3, q4, q5⟩ := owns_cell (g := 0) h
 simp only at q4 q5
 refine ⟨g, 0, rfl, by omega, by omega, fun i f hf => ?_⟩
 rw [World.cell?_of_block (w := w) (Below.heap_alloc _ _ _ q4)]
 rw [show 0 + i = i by omega]
 exact q5 i _ (by simp [hf])
/- how it ends -/
structure TkE (w : World) (b : Nat) (o : Sx.O) : Prop where
 lt : b < w.heap.size
 out : ∃ a n cap bad, w.cell? ⟨b, 0, none⟩ = some (.slice a n cap) ∧ w.cell? ⟨b, 1, none⟩ = some (.bool bad) ∧ (bad = false → ∃ fs, o = some fs ∧ fs.length = n) ∧ (bad = true → o = none)
theorem tkO_end {w : World} {b lim : Nat} {o : Sx.O} (h : TkO w b lim o) : TkE w b o := by
 refine ⟨tkO_lt h, ?_⟩
 match o, h with
 | none, h =>
   obtain ⟨fs, h⟩ := h.out
   obtain ⟨a, cap, c0, _⟩ := h.c0
   exact ⟨a, _, cap, true, c0, h.c1, fun q => (by cases q), fun _ => rfl⟩
 | some fs, h =>
   have h : TkS w b lim false fs := h.out
   obtain ⟨a, cap, c0, _⟩ := h.c0
   exact ⟨a, _, cap, false, c0, h.c1, fun _ => ⟨fs, rfl, rfl⟩, fun q => (by cases q)⟩
theorem tkE_block {w w1 : World} {b : Nat} {o : Sx.O} (h : TkE w b o) (hs : w.heap.size ≤ w1.heap.size) (hk : w1.heap[b]? = w.heap[b]?) : TkE w1 b o := by
 obtain ⟨lt, a, n, cap, bad, c0, c1, e1, e2⟩ := h
 exact ⟨by omega, a, n, cap, bad, by rw [World.cell?_of_block (w := w) hk]; exact c0, by rw [World.cell?_of_block (w := w) hk]; exact c1, e1, e2⟩

/- what was parsed so far: X: the variable; B: rows of its own lie from there on; below W's end nothing turns -/
structure PS (W w : World) (X B : Nat) (r z l : Value) (s : Sx.Sr) : Prop where
 bel : Below W.heap.size W w
 hX : W.heap.size ≤ X
 hXB : X < B
 hB : B ≤ w.heap.size
 box : CellsAt w X [r, z, l]
 own : OwnSrc w B r z l s
section
variable {W w w1 w2 : World} {X B : Nat} {r z l : Value} {s : Sx.Sr}
theorem ps_below (h : PS W w X B r z l s) (hb : Below w.heap.size w w1) : PS W w1 X B r z l s :=
 ⟨h.bel.trans (hb.mono h.bel.size), h.hX, h.hXB, Nat.le_trans h.hB hb.size, ca_below h.box hb, ownSrc_below h.own hb⟩
theorem own_lt {e : TypeId} {k n : Nat} {v : Value} {xs : List Value} (h : w.ownsRow B e k v n xs) : ∀ q, v.ownBlock = some q → B ≤ q ∧ q < w.heap.size := by
 intro q hq
 exact h.lt q hq
/- a rule more -/
theorem ps_rule {x : Sx.Rl} {o : Obj} {v' : Value} (h : PS W w X B r z l s) (hg : (w.alloc o).grownBy w1 r.ownBlock) (hown : w1.ownsRow B 40 11 v' (s.rules.length + 1) (s.rules.flatMap ruleCells ++ ruleCells x)) :
  PS W (w1.setCell ⟨X, 0, none⟩ v') X B v' z l ⟨s.rules ++ [x], s.zones, s.links⟩ := by
 obtain ⟨hbel, hX, hXB, hB, box, ⟨o1, ⟨ps, o2⟩, o3⟩⟩ := h
 have hr := own_lt o1
 have hsz := hg.size
 simp at hsz
 have ha : Below w.heap.size w (w.alloc o) := (Below.refl _ _).alloc (Nat.le_refl _) _
 have p2 := ownZs_other (ownZs_below o2 ha) (owns_below o1 ha) (by decide) (by decide) hg
 have p3 : OwnLinks w1 B l s.links := (owns_below o3 ha).kept hg (owns_ne (owns_below o3 ha) (owns_below o1 ha) (by decide))
 have hX1 : ∀ k, r.ownBlock = some k → k ≠ X := fun k hk => by have := (hr k hk).1; omega
 have hxb : CellsAt w1 X [r, z, l] := ca_grownO (ca_alloc box o) hg hX1
 have hne : ∀ {e : TypeId} {k n : Nat} {u : Value} {xs : List Value}, w1.ownsRow B e k u n xs → (w1.setCell ⟨X, 0, none⟩ v').ownsRow B e k u n xs := by
  intro e k n u xs hu
  refine ownsRow_setCell_other hu ?_ _
  intro q
  have := (own_lt hu X q).1
  omega
 refine ⟨?_, hX, hXB, by simp; omega, ca_put hxb 0 v' (by simp), ⟨ownRules_app (hne hown), ⟨ps, ⟨p2.len, hne p2.row, fun i p y a b => ⟨(p2.eras i p y a b).1, hne (p2.eras i p y a b).2⟩, p2.apart⟩⟩, hne p3⟩⟩
 refine below_set ((hbel.trans (ha.mono hbel.size)).grown hg ?_ ?_) hX _
 ·have := hbel.size; simp; omega
 ·intro k hk; have := (hr k hk).1; omega
/- a link more -/
theorem ps_link {x : Sx.Lk} {o : Obj} {v' : Value} (h : PS W w X B r z l s) (hg : (w.alloc o).grownBy w1 l.ownBlock) (hown : w1.ownsRow B 35 2 v' (s.links.length + 1) (s.links.flatMap linkCells ++ linkCells x)) :
  PS W (w1.setCell ⟨X, 2, none⟩ v') X B r z v' ⟨s.rules, s.zones, s.links ++ [x]⟩ := by
 obtain ⟨hbel, hX, hXB, hB, box, ⟨o1, ⟨ps, o2⟩, o3⟩⟩ := h
 have hr := own_lt o3
 have hsz := hg.size
 simp at hsz
 have ha : Below w.heap.size w (w.alloc o) := (Below.refl _ _).alloc (Nat.le_refl _) _
 have p2 := ownZs_other (ownZs_below o2 ha) (owns_below o3 ha) (by decide) (by decide) hg
 have p1 : OwnRules w1 B r s.rules := (owns_below o1 ha).kept hg (owns_ne (owns_below o1 ha) (owns_below o3 ha) (by decide))
 have hX1 : ∀ k, l.ownBlock = some k → k ≠ X := fun k hk => by have := (hr k hk).1; omega
 have hxb : CellsAt w1 X [r, z, l] := ca_grownO (ca_alloc box o) hg hX1
 have hne : ∀ {e : TypeId} {k n : Nat} {u : Value} {xs : List Value}, w1.ownsRow B e k u n xs → (w1.setCell ⟨X, 2, none⟩ v').ownsRow B e k u n xs := by
  intro e k n u xs hu
  refine ownsRow_setCell_other hu ?_ _
  intro q
  have := (own_lt hu X q).1
  omega
 refine ⟨?_, hX, hXB, by simp; omega, ca_put hxb 2 v' (by simp), ⟨hne p1, ⟨ps, ⟨p2.len, hne p2.row, fun i p y a b => ⟨(p2.eras i p y a b).1, hne (p2.eras i p y a b).2⟩, p2.apart⟩⟩, ownLinks_app (hne hown)⟩⟩
 refine below_set ((hbel.trans (ha.mono hbel.size)).grown hg ?_ ?_) hX _
 ·have := hbel.size; simp; omega
 ·intro k hk; have := (hr k hk).1; omega
/- a zone more, its first era in a row of its own -/
theorem ps_zone {w0 : World} {x : Sx.Er} {nm : Tx.Bs} {ev : Value} {o : Obj} {v' : Value} {ps : List (Tx.Bs × Value)} (h : PS W w X B r z l s) (hz0 : OwnZs w0 B z ps s.zones) (hw : Below w0.heap.size w0 w) (hB0 : B ≤ w0.heap.size)
  (hev : w.ownsRow w0.heap.size 67 10 ev 1 (eraCells x)) (hg : (w.alloc o).grownBy w1 z.ownBlock) (hown : w1.ownsRow B 44 2 v' (ps.length + 1) (ps.flatMap zoneCells ++ zoneCells (nm, ev))) :
  PS W (w1.setCell ⟨X, 1, none⟩ v') X B r v' l ⟨s.rules, s.zones ++ [⟨nm, [x]⟩], s.links⟩ := by
 obtain ⟨hbel, hX, hXB, hB, box, ⟨o1, _, o3⟩⟩ := h
 have o2 := ownZs_below hz0 hw
 have hr := own_lt o2.row
 have hsz := hg.size
 simp at hsz
 have ha : Below w.heap.size w (w.alloc o) := (Below.refl _ _).alloc (Nat.le_refl _) _
 have a2 := ownZs_below o2 ha
 have p1 : OwnRules w1 B r s.rules := (owns_below o1 ha).kept hg (owns_ne (owns_below o1 ha) a2.row (by decide))
 have p3 : OwnLinks w1 B l s.links := (owns_below o3 ha).kept hg (owns_ne (owns_below o3 ha) a2.row (by decide))
 have hX1 : ∀ k, z.ownBlock = some k → k ≠ X := fun k hk => by have := (hr k hk).1; omega
 have hxb : CellsAt w1 X [r, z, l] := ca_grownO (ca_alloc box o) hg hX1
 have he : OwnEras (w.alloc o) B ev (⟨nm, [x]⟩ : Sx.Zn).eras := by
  have := owns_below (owns_base hev hB0) ha
  unfold OwnEras
  simpa using this
 obtain ⟨ge, ecap, rfl⟩ := owns_shape hev
 have hge := (own_lt hev ge rfl).1
 have p2 := ownZs_app (x := ⟨nm, [x]⟩) a2 he (fun i p hp => by
  obtain ⟨y, hy⟩ : ∃ y, s.zones[i]? = some y := ⟨_, List.getElem?_eq_getElem (by rw [← hz0.len]; exact (List.getElem?_eq_some_iff.1 hp).1)⟩
  cases hq : p.2.ownBlock with
  | none => exact .inl rfl
  | some m =>
    right
    have := (own_lt (hz0.eras i p y hp hy).2 m hq).2
    simp [Value.ownBlock]
    omega) (by simp [Value.ownBlock]) hg hown
 have hne : ∀ {e : TypeId} {k n : Nat} {u : Value} {xs : List Value}, w1.ownsRow B e k u n xs → (w1.setCell ⟨X, 1, none⟩ v').ownsRow B e k u n xs := by
  intro e k n u xs hu
  refine ownsRow_setCell_other hu ?_ _
  intro q
  have := (own_lt hu X q).1
  omega
 refine ⟨?_, hX, hXB, by simp; omega, ca_put hxb 1 v' (by simp), ⟨hne p1, ⟨_, ⟨p2.len, hne p2.row, fun i p y a b => ⟨(p2.eras i p y a b).1, hne (p2.eras i p y a b).2⟩, p2.apart⟩⟩, hne p3⟩⟩
 refine below_set ((hbel.trans (ha.mono hbel.size)).grown hg ?_ ?_) hX _
 ·have := hbel.size; simp; omega
 ·intro k hk; have := (hr k hk).1; omega
/- an era more of the last zone -/
theorem ps_era {x : Sx.Er} {g cap : Nat} {nm : Tx.Bs} {ev ev' : Value} {es : List Sx.Er} {o : Obj} {ps : List (Tx.Bs × Value)} {zs : List Sx.Zn} (h : PS W w X B r (.slice (some ⟨g, 0, none⟩) (ps.length + 1) cap) l s)
  (hz : OwnZs w B (.slice (some ⟨g, 0, none⟩) (ps.length + 1) cap) (ps ++ [(nm, ev)]) (zs ++ [⟨nm, es⟩]))
  (hg : (w.alloc o).grownBy w1 ev.ownBlock) (hown : w1.ownsRow B 67 10 ev' (es.length + 1) (es.flatMap eraCells ++ eraCells x)) (hat : ev'.ownBlock = ev.ownBlock ∨ ev'.ownBlock = some (w.alloc o).heap.size) :
  PS W (w1.setCell ⟨g, ps.length * 2 + 1, none⟩ ev') X B r (.slice (some ⟨g, 0, none⟩) (ps.length + 1) cap) l ⟨s.rules, zs ++ [⟨nm, es ++ [x]⟩], s.links⟩ := by
 obtain ⟨hbel, hX, hXB, hB, box, ⟨o1, _, o3⟩⟩ := h
 have hl : ps.length = zs.length := by have := hz.len; simpa using this
 have hown0 := (hz.eras ps.length (nm, ev) ⟨nm, es⟩ (by simp) (by rw [hl]; simp)).2
 have hr := own_lt hown0
 have hgr := own_lt hz.row g rfl
 have hsz := hg.size
 simp at hsz
 have ha : Below w.heap.size w (w.alloc o) := (Below.refl _ _).alloc (Nat.le_refl _) _
 have a2 := ownZs_below hz ha
 have ae := owns_below hown0 ha
 have p1 : OwnRules w1 B r s.rules := (owns_below o1 ha).kept hg (owns_ne (owns_below o1 ha) ae (by decide))
 have p3 : OwnLinks w1 B l s.links := (owns_below o3 ha).kept hg (owns_ne (owns_below o3 ha) ae (by decide))
 have hX1 : ∀ k, ev.ownBlock = some k → k ≠ X := fun k hk => by have := (hr k hk).1; omega
 have hxb : CellsAt w1 X [r, .slice (some ⟨g, 0, none⟩) (ps.length + 1) cap, l] := ca_grownO (ca_alloc box o) hg hX1
 have p2 := ownZs_last a2 hg (ownEras_app hown) (by
  rcases hat with q | q
  ·exact .inl q
  ·exact .inr ⟨_, q, Nat.le_refl _⟩) (by
  obtain ⟨g', cap', rfl⟩ := owns_shape hown
  simp [Value.ownBlock])
 have hne : ∀ {e : TypeId} {k n : Nat} {u : Value} {xs : List Value}, e ≠ 44 → w1.ownsRow B e k u n xs → (w1.setCell ⟨g, ps.length * 2 + 1, none⟩ ev').ownsRow B e k u n xs := by
  intro e k n u xs hne hu
  refine ownsRow_setCell_other hu ?_ _
  have hrow' : w1.ownsRow B 44 2 (.slice (some ⟨g, 0, none⟩) (ps.length + 1) cap) (ps ++ [(nm, ev)]).length ((ps ++ [(nm, ev)]).flatMap zoneCells) := a2.row.kept hg (owns_ne a2.row ae (by decide))
  rcases owns_ne hu hrow' hne with q | q
  ·rw [q]; simp
  ·simpa [Value.ownBlock] using q
 refine ⟨?_, hX, hXB, by simp; omega, ca_far hxb (by omega), ⟨hne (by decide) p1, ⟨_, p2⟩, hne (by decide) p3⟩⟩
 refine below_set ((hbel.trans (ha.mono hbel.size)).grown hg ?_ ?_) (by have := hbel.size; omega) _
 ·have := hbel.size; simp; omega
 ·intro k hk; have := (hr k hk).1; omega
end
section
variable {W w w1 w2 : World} {X B : Nat} {r z l : Value} {s : Sx.Sr}
theorem ps_box {o : Obj} {v : Value} (h : PS W w X B r z l s) (hg : (w.alloc o).grownBy w1 v.ownBlock) (hv : ∀ k, v.ownBlock = some k → B ≤ k) : CellsAt w1 X [r, z, l] :=
 ca_grownO (ca_alloc h.box o) hg fun k hk => by have := hv k hk; have := h.hXB; omega
theorem tkE_app {ob : Obj} {b j : Nat} {row : Option Nat} {o : Sx.O} {v' : Value} {q : Nat} (h : TkE w b o) (hg : (w.alloc ob).grownBy w1 row) (hr : ∀ k, row = some k → k ≠ b) (hq : q ≠ b) : TkE (w1.setCell ⟨q, j, none⟩ v') b o := by
 have hs := hg.size
 have lt := h.lt
 simp at hs
 refine tkE_block h (by simp; omega) ?_
 rw [Below.heap_setCell _ _ _ _ (Ne.symm hq), hg.block b (by simp; omega) (fun e => hr b e.symm rfl), Below.heap_alloc _ _ _ lt]
end
theorem zrow_cell {w : World} {B g n cap : Nat} {ps : List (Tx.Bs × Value)} {nm : Tx.Bs} {ev : Value} (h : w.ownsRow B 44 2 (.slice (some ⟨g, 0, none⟩) n cap) (ps ++ [(nm, ev)]).length ((ps ++ [(nm, ev)]).flatMap zoneCells)) :
  w.cell? ⟨g, ps.length * 2 + 1, none⟩ = some ev ∧ w.frozen? ⟨g, ps.length * 2 + 1, none⟩ = false ∧ g < w.heap.size ∧ B ≤ g := by
 have hn : n = (ps ++ [(nm, ev)]).length := by
  obtain ⟨a, c, e⟩ := owns_shape0 h
  simp only [Value.slice.injEq] at e
  exact e.2.1
 subst hn
 obtain ⟨_, _, q3, q4, q5⟩ := owns_cell (g := 0) h
 exact ⟨q5 _ _ (flat_get zoneCells zoneCells_len _ ps.length (nm, ev) (by simp) 1 ev rfl), h.frozenAt _, q4, q3⟩
theorem zrow_after {w w1 : World} {B g cap : Nat} {ps : List (Tx.Bs × Value)} {zs : List Sx.Zn} {nm : Tx.Bs} {ev : Value} {es : List Sx.Er} {o : Obj} (h : OwnZs w B (.slice (some ⟨g, 0, none⟩) (ps.length + 1) cap) (ps ++ [(nm, ev)]) (zs ++ [⟨nm, es⟩])) (hg : (w.alloc o).grownBy w1 ev.ownBlock) :
  w1.cell? ⟨g, ps.length * 2 + 1, none⟩ = some ev ∧ w1.frozen? ⟨g, ps.length * 2 + 1, none⟩ = false ∧ g < w1.heap.size := by
 have hl : ps.length = zs.length := by have := h.len; simpa using this
 have hown := (h.eras ps.length (nm, ev) ⟨nm, es⟩ (by simp) (by rw [hl]; simp)).2
 have ha : Below w.heap.size w (w.alloc o) := (Below.refl _ _).alloc (Nat.le_refl _) _
 have := zrow_cell ((owns_below h.row ha).kept hg (owns_ne (owns_below h.row ha) (owns_below hown ha) (by decide)))
 exact ⟨this.1, this.2.1, this.2.2.1⟩
section
variable {w w1 : World} {b : Nat} {o : Sx.O}
theorem tkE_alloc (h : TkE w b o) (ob : Obj) : TkE (w.alloc ob) b o := tkE_block h (by simp) (Below.heap_alloc _ _ _ h.lt)
theorem tkE_set {q j : Nat} {u : Value} (h : TkE w b o) (hq : q ≠ b) : TkE (w.setCell ⟨q, j, none⟩ u) b o := tkE_block h (by simp) (Below.heap_setCell _ _ _ _ (Ne.symm hq))
theorem tkE_grown {row : Option Nat} (h : TkE w b o) (hg : w.grownBy w1 row) (hr : ∀ k, row = some k → k ≠ b) : TkE w1 b o := tkE_block h hg.size (hg.block b h.lt (fun e => hr b e.symm rfl))
end
theorem zone_cells (w : World) (a b : Value) {e : TypeId} : ∀ (j : Nat) (x : Value), [a, b][j]? = some x → (w.alloc (.cells #[a, b] e)).cell? ((⟨w.heap.size, 0, none⟩ : Addr).add j) = some x := by
 intro j x hj
 have := (ca_at (ca_new w [a, b] e) j hj).1
 cases j with
 | zero => simpa [Addr.add] using this
 | succ j => simpa [Addr.add] using this
theorem new_cells (w : World) (vs : List Value) {e : TypeId} : ∀ (j : Nat) (x : Value), vs[j]? = some x → (w.alloc (.cells vs.toArray e)).cell? ((⟨w.heap.size, 0, none⟩ : Addr).add j) = some x := by
 intro j x hj
 have := (ca_at (ca_new w vs e) j hj).1
 cases j with
 | zero => simpa [Addr.add] using this
 | succ j => simpa [Addr.add] using this
theorem rule_cells (w : World) (r : Sx.Rl) {e : TypeId} : ∀ (j : Nat) (x : Value), (ruleCells r)[j]? = some x → (w.alloc (.cells #[strV r.name, .int .i64 r.frm, .int .i64 r.to, .int .i64 r.month, .int .i64 r.kind, .int .i64 r.wk, .int .i64 r.n, .int .i64 r.at_, .int .i64 r.clock, .int .i64 r.save, strV r.letter] e)).cell? ((⟨w.heap.size, 0, none⟩ : Addr).add j) = some x := new_cells w (ruleCells r)
theorem era_cells (w : World) (x : Sx.Er) {e : TypeId} : ∀ (j : Nat) (u : Value), (eraCells x)[j]? = some u → (w.alloc (.cells #[.int .i64 x.shift, strV x.rules, .int .i64 x.save, strV x.format, .bool x.opn, .int .i64 x.uy, .int .i64 x.um, .int .i64 x.ud, .int .i64 x.uat, .int .i64 x.uclock] e)).cell? ((⟨w.heap.size, 0, none⟩ : Addr).add j) = some u := new_cells w (eraCells x)
theorem rule_one (r : Sx.Rl) : ∀ u ∈ ruleCells r, u.oneCell' = true := by
 intro u hu; simp only [ruleCells, List.mem_cons, List.not_mem_nil, or_false] at hu; rcases hu with rfl | rfl | rfl | rfl | rfl | rfl | rfl | rfl | rfl | rfl | rfl <;> rfl
theorem era_one (x : Sx.Er) : ∀ u ∈ eraCells x, u.oneCell' = true := by
 intro u hu; simp only [eraCells, List.mem_cons, List.not_mem_nil, or_false] at hu; rcases hu with rfl | rfl | rfl | rfl | rfl | rfl | rfl | rfl | rfl | rfl <;> rfl
/- a call inside a region that draws -/
theorem step_ruleOf {ops : Array Oper} {o : Oper} {a : Act} {w : World} {K : Act → World → Prop} {Q : Exit → Act → World → Prop} {E : Prop}
  (hg : o.guard = none) (x : Operand) (t : TypeId) (hop : o.op = Op.call { callee := Callee.value (Operand.func 148), args := #[x], argTypes := #[t] })
  (vx : Value) (hx : a.eval x = vx) {v : Value} {C : World → Prop} (hc : Calls Tryz.prog 148 #[vx] w fun e w' => e = .returned v ∧ C w') (hK : ∀ w', C w' → K (a.put o.dst v) w') :
  if Region.wanted o (yielded ops a.tmps) = true then Oper.wp Tryz.prog o a w K Q else E := by
 have hw : Region.wanted o (yielded ops a.tmps) = true := by simp [Region.wanted, hg]
 rw [if_pos hw]
 unfold Oper.wp
 simp only [execOp, hop, resolve, invoke, Sem.run_bind, List.map_toArray, List.map_cons, List.map_nil, hx]
 have e : Oper.upon Tryz.prog o a K Q (.ok (.enter 148 #[vx]) w) := by
  rw [Oper.upon_enter]
  exact hc.mono (by rintro e w' ⟨rfl, h⟩; exact hK w' h)
 go_simp
/- append onto a row of one's own, inside a region that draws: and where it lies then -/
theorem step_append_at {P : Program} {ops : Array Oper} {o : Oper} {a : Act} {w : World} {K : Act → World → Prop} {Q : Exit → Act → World → Prop} {E : Prop}
  (hg : o.guard = none) (s x : Operand) (t : TypeId) (hop : o.op = Op.call { callee := Callee.builtin Builtin.append, args := #[s, x], argTypes := #[t, t] })
  (base : Nat) (e : TypeId) (i : TypeInfo) (z : Value) (size bytes : Nat) (h1 : P.underlying t = some (.slice e)) (h2 : P.info? e = some i) (h3 : i.zero = some z) (h4 : i.size = size) (h5 : i.bytes = bytes) (h6 : z.cells.size = size) (h7 : 0 < size)
  (v : Value) (n : Nat) (xs : List Value) (hs : a.eval s = v) (hown : w.ownsRow base e size v n xs)
  (ad : Addr) (m c : Nat) (news : List Value) (hx : a.eval x = .slice (some ad) m c) (hn : news.length = m * size) (hc : ∀ j u, news[j]? = some u → w.cell? (ad.add j) = some u) (h1c : ∀ u ∈ news, u.oneCell' = true)
  (b1 : n + m ≤ maxLen) (b2 : (n + m) * bytes ≤ 140737488355328) (hbase : base ≤ w.heap.size)
  (hK : ∀ v' w', w'.ownsRow base e size v' (n + m) (xs ++ news) → w.grownBy w' v.ownBlock → (v'.ownBlock = v.ownBlock ∨ v'.ownBlock = some w.heap.size) → K (a.put o.dst v') w') :
  if Region.wanted o (yielded ops a.tmps) = true then Oper.wp P o a w K Q else E := by
 have hw : Region.wanted o (yielded ops a.tmps) = true := by simp [Region.wanted, hg]
 rw [if_pos hw]
 obtain ⟨v', w', hrun, r1, r2, _, r3⟩ := run_append_own_at (P := P) w base t o.type e i z size bytes h1 h2 h3 h4 h5 h6 h7 v n xs hown ad m c news hn hc h1c b1 b2 hbase
 unfold Oper.wp
 simp [execOp, hop, resolve, invoke, builtin, hs, hx, hrun, Result.andThen]
 exact hK v' w' r1 r2 r3
end
section
open Go.RowKit
attribute [local go_sem ↓] Go.wp_at_zero Go.wp_at_succ

theorem firstRule_any (rs : List Sx.Rl) (rv : Value) (w : World) (h : RdRules w rv rs) (hs : ∀ r ∈ rs, r.name.length ≤ maxLen ∧ r.letter.length ≤ maxLen) (hl : rs.length ≤ 40) :
  Calls Tryz.prog 90 #[rv, .func (.func 91) #[] #[]] w fun e w' => e = .returned (.int .i64 (Sx.firstE Sx.ruleE rs)) ∧ Below w.heap.size w w' := by
 obtain ⟨R, hR⟩ : ∃ R, Sx.firstE Sx.ruleE rs = R := ⟨_, rfl⟩
 rw [hR]
 have HR : Hid (R = Sx.firstE Sx.ruleE (rs.drop 0)) := hR.symm
 obtain ⟨ra, rcap, rfl⟩ := rd_shape h
 have H := hid h
 have HS := hid hs
 clear hR h hs
 have eg : ∀ args w, (callFunc 91 args).run Tryz.prog w = .ok (.enter 91 args) w := enters_of Tryz.func91 (by kernel_rfl) rfl
 go_enter Tryz.func90, Tryz.ntmps90
 go_wp2_with fail
 go_loopw [10] (fun a wr => ∃ k : Nat, k ≤ rs.length ∧ a = .int .i64 k ∧ Hid (Below w.heap.size w wr) ∧ Hid (R = Sx.firstE Sx.ruleE (rs.drop k))) (fun a _ => rs.length - (intOf a).toNat)
 case atStart => exact ⟨0, by omega, rfl, Below.refl _ _, HR⟩
 case round =>
  clear HR
  obtain ⟨k, hk, rfl, B0, HR⟩ := hrel
  by_cases hlt : k < rs.length
  case neg =>
   have HR2 : Hid (R = 0) := by show _ = _; rw [HR.out]; exact Sx.firstE_end _ hlt
   go_wp2
   go_ret
   exact ⟨ret_int (by rw [HR2.out]), B0.out⟩
  obtain ⟨x, hx⟩ : ∃ x, rs[k]? = some x := ⟨_, List.getElem?_eq_getElem hlt⟩
  obtain ⟨rb, ro, rfl, hrb, hc⟩ := rd_elem (rd_below H.out B0.out) hx
  obtain ⟨c0, c1, c2, c3, c4, c5, c6, c7, c8, c9, c10⟩ := rd_rule hc
  have HX := hid hx
  have SX := hid (HS.out x (List.mem_of_getElem? hx))
  clear hc hx
  have BV := hid (B0.out.alloc B0.out.size (.cells (ruleCells x).toArray 40))
  go_wp2_with fail
  refine (pCheckRule_any x _ SX.out.1 SX.out.2).mono ?_
  rintro e w1 ⟨rfl, hb⟩
  have B1 : Hid (Below w.heap.size w w1) := BV.out.trans (hb.mono BV.out.size)
  clear hb B0 BV c0 c1 c2 c3 c4 c5 c6 c7 c8 c9 c10 hrb
  obtain ⟨E, hE⟩ : ∃ E, Sx.ruleE x = E := ⟨_, rfl⟩
  rw [hE]
  by_cases h0 : E = 0
  case neg =>
   have HR2 : Hid (R = E) := by show _ = _; rw [← hE]; exact Sx.firstE_at _ HX.out HR.out (by rw [hE]; exact h0)
   have h0' : (E != 0) = true := by simp [h0]
   clear hE
   go_wp2
   go_ret
   exact ⟨ret_int (by rw [HR2.out]), B1.out⟩
  have HR2 : Hid (R = Sx.firstE Sx.ruleE (rs.drop (k + 1))) := Sx.firstE_next _ HX.out HR.out (by rw [hE]; exact h0)
  clear hE HR
  subst h0
  go_wp2
  go_roundw
  case rel => exact ⟨k + 1, by omega, by go_num, B1, HR2⟩
  case measure => simp [intOf]; omega
theorem firstZone_nil (f : Value) (w : World) : Calls Tryz.prog 92 #[.slice none 0 0, f] w fun e w' => e = .returned (.int .i64 0) ∧ w' = w := by
 go_enter Tryz.func92, Tryz.ntmps92
 go_wp2_with fail
 go_loop [10] (fun a => a = .int .i64 0) (fun _ => 0)
 case atStart => rfl
 case round =>
  subst hrel
  go_wp2
  go_ret
  exact ⟨rfl, rfl⟩
theorem firstLink_nil (f : Value) (w : World) : Calls Tryz.prog 94 #[.slice none 0 0, f] w fun e w' => e = .returned (.int .i64 0) ∧ w' = w := by
 go_enter Tryz.func94, Tryz.ntmps94
 go_wp2_with fail
 go_loop [10] (fun a => a = .int .i64 0) (fun _ => 0)
 case atStart => rfl
 case round =>
  subst hrel
  go_wp2
  go_ret
  exact ⟨rfl, rfl⟩
theorem fits_rules (n cap : Nat) (a : Option Addr) (w : World) {b : Bool} (h : decide (n ≤ 40) = b) :
  Calls Tryz.prog 88 #[.agg #[.slice a n cap, .slice none 0 0, .slice none 0 0]] w fun e w' => e = .returned (.bool b) ∧ Below w.heap.size w w' := by
 by_cases h1 : 40 < n
 ·have HB : Hid (false = b) := by show _ = _; rw [← h]; simp; omega
  clear h
  go_enter Tryz.func88, Tryz.ntmps88
  go_wp2
  go_ret
  exact ⟨ret_bool HB.out, (Below.refl _ _).alloc (Nat.le_refl _) _⟩
 ·have HB : Hid (true = b) := by show _ = _; rw [← h]; simp; omega
  clear h
  have BV := hid ((Below.refl w.heap.size w).alloc (Nat.le_refl _) (.cells #[.slice a n cap, .slice none 0 0, .slice none 0 0] 26))
  go_enter Tryz.func88, Tryz.ntmps88
  go_wp2_with fail
  go_loop [24] (fun a => a = .int .i64 0) (fun _ => 0)
  case atStart => rfl
  case round =>
   subst hrel
   go_wp2
   go_ret
   exact ⟨ret_bool HB.out, BV.out⟩
end
section
open Go.RowKit
attribute [local go_sem ↓] Go.wp_at_zero Go.wp_at_succ

theorem srcE_rules {rs : List Sx.Rl} (h : rs.length ≤ 40) : Sx.srcE ⟨rs, [], []⟩ = Sx.firstE Sx.ruleE rs := by
 rw [Sx.src_few (Sx.many_no (by simpa using h) (by simp) (by simp) (by intro j z hj; simp at hj))]
 simp only [Sx.firstE]
 by_cases q : Sx.firstE Sx.ruleE rs = 0
 ·rw [Sx.orE_right q, Sx.orE_right rfl, q]
 ·rw [Sx.orE_left q]
theorem or3 (e : Int) : Sx.firstE id [e, 0, 0] = e := by
 by_cases h : e = 0 <;> simp [Sx.firstE, h]
theorem sCheckRules_any (rs : List Sx.Rl) (rv : Value) (w : World) (h : RdRules w rv rs) (hs : ∀ r ∈ rs, r.name.length ≤ maxLen ∧ r.letter.length ≤ maxLen) :
  Calls Tryz.prog 42 #[.agg #[rv, .slice none 0 0, .slice none 0 0]] w fun e w' => e = .returned (.int .i64 (Sx.srcE ⟨rs, [], []⟩)) ∧ Below w.heap.size w w' := by
 obtain ⟨ra, rcap, rfl⟩ := rd_shape h
 have XV := hid (ca_new w [.slice ra rs.length rcap, .slice none 0 0, .slice none 0 0] 26)
 have BV := hid ((Below.refl w.heap.size w).alloc (Nat.le_refl _) (.cells [.slice ra rs.length rcap, .slice none 0 0, .slice none 0 0].toArray 26))
 have H := hid h
 have HS := hid hs
 clear h hs
 by_cases h40 : rs.length ≤ 40
 case neg =>
  have HR : Hid (Sx.srcE ⟨rs, [], []⟩ = 2) := Sx.src_many (by simp [Sx.manyB]; omega)
  have HF : Hid (decide (rs.length ≤ 40) = false) := by show _ = _; simp; omega
  clear h40
  go_enter Tryz.func42, Tryz.ntmps42
  go_wp2_with fail
  refine (fits_rules _ _ _ _ HF.out).mono ?_
  rintro e w1 ⟨rfl, hb⟩
  have B1 : Hid (Below w.heap.size w w1) := BV.out.trans (hb.mono BV.out.size)
  go_wp2
  go_ret
  exact ⟨ret_int HR.out.symm, B1.out⟩
 have HR : Hid (Sx.srcE ⟨rs, [], []⟩ = Sx.firstE Sx.ruleE rs) := srcE_rules h40
 have HF : Hid (decide (rs.length ≤ 40) = true) := by show _ = _; simp; omega
 have H40 := hid h40
 clear h40
 go_enter Tryz.func42, Tryz.ntmps42
 go_wp2_with fail
 refine (fits_rules _ _ _ _ HF.out).mono ?_
 rintro e w1 ⟨rfl, hb⟩
 have B1 : Hid (Below w.heap.size w w1) := BV.out.trans (hb.mono BV.out.size)
 have X1 := hid (ca_below XV.out hb)
 clear hb BV XV
 obtain ⟨B, hB⟩ : ∃ B, w.heap.size = B := ⟨_, rfl⟩
 go_upto_region 3 with fail
 rw [hB] at X1
 obtain ⟨x0, _⟩ := ca_at X1.out 0 rfl
 obtain ⟨x1, _⟩ := ca_at X1.out 1 rfl
 obtain ⟨x2, _⟩ := ca_at X1.out 2 rfl
 have sx := X1.out.1
 have R1 : Hid (RdRules w1.drew (.slice ra rs.length rcap) rs) := rd_below H.out (show Below w.heap.size w w1.drew from ⟨B1.out.os, B1.out.tape, B1.out.output, B1.out.size, B1.out.block⟩)
 have HB := hid hB
 clear hB
 refine wp_region_held_drew (S := fun w' => w'.cell? ⟨B, 0, none⟩ = some (.slice ra rs.length rcap) ∧ w'.cell? ⟨B, 1, none⟩ = some (.slice none 0 0) ∧ w'.cell? ⟨B, 2, none⟩ = some (.slice none 0 0)) (by kernel_rfl) ?_ (fun hHeld => ?_)
 ·go_keep
 refine tkA 0 rfl ?_
 try simp only [Act.put, jP, jO, jS]
 refine tkA 1 rfl ?_
 try simp only [Act.put, jP, jO, jS]
 refine tkA 3 rfl ?_
 try simp only [Act.put, jP, jO, jS]
 refine tkA 4 rfl ?_
 try simp only [Act.put, jP, jO, jS]
 refine tkA 6 rfl ?_
 try simp only [Act.put, jP, jO, jS]
 refine tkA 7 rfl ?_
 try simp only [Act.put, jP, jO, jS]
 refine rdH 2 rfl fun K hK => ?_
 go_simp
 refine (firstRule_any rs _ _ R1.out HS.out H40.out).mono ?_
 rintro e w2 ⟨rfl, hb2⟩
 have C2 := ca_below (show CellsAt w1.drew B [.slice ra rs.length rcap, .slice none 0 0, .slice none 0 0] from X1.out) hb2
 have B2 : Hid (Below w.heap.size w w2) := B1.out.trans ((show Below w1.heap.size w1 w2 from ⟨hb2.os, hb2.tape, hb2.output, hb2.size, hb2.block⟩).mono B1.out.size)
 refine hK.out _ _ ⟨(ca_at C2 0 rfl).1, (ca_at C2 1 rfl).1, (ca_at C2 2 rfl).1⟩ (fun hHeld2 => ?_)
 clear hK K hHeld hb2
 try simp only [Act.put, jP, jO, jS]
 refine rdH 5 rfl fun K hK => ?_
 go_simp
 refine (firstZone_nil _ _).mono ?_
 rintro e w3 ⟨rfl, rfl⟩
 refine hK.out _ _ hHeld2 (fun hHeld3 => ?_)
 clear hK K hHeld2
 try simp only [Act.put, jP, jO, jS]
 refine rdH 8 rfl fun K hK => ?_
 go_simp
 refine (firstLink_nil _ _).mono ?_
 rintro e w4 ⟨rfl, rfl⟩
 refine hK.out _ _ hHeld3 (fun hHeld4 => ?_)
 clear hK K hHeld3
 try simp only [Act.put, jP, jO, jS]
 refine rdH 9 rfl fun K hK => ?_
 go_simp
 have CN := ca_new w4 ([Sx.firstE Sx.ruleE rs, 0, 0].map (Value.int .i64)) 28
 have BN := hid (B2.out.alloc B2.out.size (.cells ([Sx.firstE Sx.ruleE rs, 0, 0].map (Value.int .i64)).toArray 28))
 have C5 := ca_alloc C2 (.cells ([Sx.firstE Sx.ruleE rs, 0, 0].map (Value.int .i64)).toArray 28)
 refine hK.out _ _ ⟨(ca_at C5 0 rfl).1, (ca_at C5 1 rfl).1, (ca_at C5 2 rfl).1⟩ (fun hHeld5 => ?_)
 clear hK K hHeld4
 try simp only [Act.put, jP, jO, jS]
 refine rdH 10 rfl fun K hK => ?_
 go_simp
 refine (or_any [Sx.firstE Sx.ruleE rs, 0, 0] w4.heap.size 3 _ CN (by simp)).mono ?_
 rintro e w6 ⟨rfl, rfl⟩
 refine hK.out _ _ hHeld5 (fun hHeld6 => ?_)
 clear hK K hHeld5
 try simp only [Act.put, jP, jO, jS]
 refine rdH 11 rfl fun K hK => ?_
 go_simp
 refine hK.out _ _ hHeld6 (fun hHeld7 => ?_)
 clear hK K hHeld6
 try simp only [Act.put, jP, jO, jS]
 refine wpAnyH_done (by kernel_rfl) ?_ _
 go_wp2
 go_ret
 rw [show Sx.srcE ⟨rs, [], []⟩ = Sx.firstE id [Sx.firstE Sx.ruleE rs, 0, 0] by rw [HR.out, or3]]
 exact ⟨rfl, BN.out⟩
end
section
open Go.RowKit

def turnC (t : Sx.Tn) : List Value := [.int .i64 t.stands, .int .i64 t.clock, .int .i64 t.save, strV t.letter]
abbrev turnV (t : Sx.Tn) : Value := .agg #[.int .i64 t.stands, .int .i64 t.clock, .int .i64 t.save, strV t.letter]
abbrev stepV (p t : Sx.Tn) : Value := .agg #[.int .i64 p.stands, .int .i64 p.clock, .int .i64 p.save, strV p.letter, .int .i64 t.stands, .int .i64 t.clock, .int .i64 t.save, strV t.letter]
def timeC (t : Sx.Tm) : List Value := [.int .i64 t.at_, .int .i64 t.save, strV t.letter]
abbrev timeV (t : Sx.Tm) : Value := .agg #[.int .i64 t.at_, .int .i64 t.save, strV t.letter]

theorem turnIn_any (r : Sx.Rl) (y : Int) (w : World) (ho : Cv.onE y r.month r.kind r.wk r.n = 0) (h1 : 0 ≤ r.at_) (h2 : r.at_ ≤ 172800) :
  Calls Tryz.prog 128 #[ruleV r, .int .i64 y] w fun e w' => e = .returned (turnV (Sx.turnIn r y)) ∧ Below w.heap.size w w' := by
 obtain ⟨_, _, _, _, t1, t2⟩ := Cv.onE_zero ho
 have HO := hid ho
 have ET : Hid (Sx.turnIn r y = ⟨Cv.tgt y r.month r.kind r.wk r.n * 86400 + r.at_, r.clock, r.save, r.letter⟩) := rfl
 obtain ⟨D, hD⟩ : ∃ D, Cv.tgt y r.month r.kind r.wk r.n = D := ⟨_, rfl⟩
 rw [hD] at ET t1 t2
 have HD := hid hD
 clear ho hD
 have XV := hid (ca_alloc (ca_new w (ruleCells r) 40) (.cells #[.int .i64 0, .int .i64 0, .int .i64 0, .string ⟨#[]⟩] 120))
 have TV : Hid (CellsAt ((w.alloc (.cells (ruleCells r).toArray 40)).alloc (.cells #[.int .i64 0, .int .i64 0, .int .i64 0, .string ⟨#[]⟩] 120)) (w.heap.size + 1) [.int .i64 0, .int .i64 0, .int .i64 0, .string ⟨#[]⟩]) := by
  have := ca_new (w.alloc (.cells (ruleCells r).toArray 40)) [.int .i64 0, .int .i64 0, .int .i64 0, .string ⟨#[]⟩] 120
  rw [World.size_alloc] at this
  exact this
 have BV := hid (((Below.refl w.heap.size w).alloc (Nat.le_refl _) (.cells (ruleCells r).toArray 40)).alloc (by simp) (.cells #[.int .i64 0, .int .i64 0, .int .i64 0, .string ⟨#[]⟩] 120))
 go_enter Tryz.func128, Tryz.ntmps128
 go_wp2_with fail
 refine (on_good _ _ _ _ _ _ HO.out).mono ?_
 rintro e w1 ⟨a, b, d, rfl, hv, hnum, hb⟩
 have X1 := hid (ca_alloc (ca_below XV.out hb) (.cells #[.int .i64 a, .int .i64 b, .int .i64 d] 63))
 have T1 := hid (ca_alloc (ca_below TV.out hb) (.cells #[.int .i64 a, .int .i64 b, .int .i64 d] 63))
 have B0 : Below w.heap.size w w1 := BV.out.trans (hb.mono BV.out.size)
 have B1 := hid (B0.alloc B0.size (.cells #[.int .i64 a, .int .i64 b, .int .i64 d] 63))
 have HV := hid hv
 have HN : Hid (Cv.num a b d = D) := by show _ = _; rw [hnum]; exact HD.out
 clear hb XV TV BV B0 hv hnum
 go_wp2_with fail
 refine (days_yes _ _ _ _ HV.out).mono ?_
 rintro e w2 ⟨rfl, hb⟩
 have X2 := hid (ca_below X1.out hb)
 have T2 := hid (ca_below T1.out hb)
 have B2 : Hid (Below w.heap.size w w2) := B1.out.trans (hb.mono B1.out.size)
 rw [HN.out]
 clear hb X1 T1 B1
 obtain ⟨x7, _⟩ := ca_at X2.out 7 rfl
 obtain ⟨x8, _⟩ := ca_at X2.out 8 rfl
 obtain ⟨x9, _⟩ := ca_at X2.out 9 rfl
 obtain ⟨x10, _⟩ := ca_at X2.out 10 rfl
 obtain ⟨t0, tf0⟩ := ca_at T2.out 0 rfl
 obtain ⟨t1', tf1⟩ := ca_at T2.out 1 rfl
 obtain ⟨t2', tf2⟩ := ca_at T2.out 2 rfl
 obtain ⟨t3', tf3⟩ := ca_at T2.out 3 rfl
 have sx := X2.out.1
 have st := T2.out.1
 go_wp2
 refine bodyPost_ret (v := turnV ⟨D * 86400 + r.at_, r.clock, r.save, r.letter⟩) (by simp [results, Tryz.results128, go_sem, *]) rfl ⟨by rw [ET.out], ?_⟩
 exact below_set (below_set (below_set (below_set B2.out (Nat.le_succ _) _) (Nat.le_succ _) _) (Nat.le_succ _) _) (Nat.le_succ _) _

theorem time_any (p t : Sx.Tn) (shift : Int) (w : World) (h1 : -64800 ≤ shift) (h2 : shift ≤ 64800) (s1 : 0 ≤ p.save) (s2 : p.save ≤ 10800) (b1 : -1000000000000 ≤ t.stands) (b2 : t.stands ≤ 1000000000000) :
  Calls Tryz.prog 69 #[stepV p t, .int .i64 shift] w fun e w' => e = .returned (timeV (Sx.timeOf shift p.save t)) ∧ Below w.heap.size w w' := by
 obtain ⟨A, hA⟩ : ∃ A, (Sx.timeOf shift p.save t).at_ = A := ⟨_, rfl⟩
 have HA : Hid (A = (if t.clock = 3 then t.stands else t.stands - shift) - (if t.clock = 1 then p.save else 0)) := by show _ = _; rw [← hA]; rfl
 have ET : Hid (Sx.timeOf shift p.save t = ⟨A, t.save, t.letter⟩) := by show _ = _; rw [← hA]; rfl
 clear hA
 by_cases c3 : t.clock = 3
 ·have n3 : (t.clock != 3) = false := by simp [c3]
  have n1 : (t.clock == 1) = false := by simp [c3]
  have HA2 : Hid (t.stands = A) := by show _ = _; rw [HA.out]; simp [c3]
  clear c3
  go_enter Tryz.func69, Tryz.ntmps69
  go_wp2
  rw [HA2.out]
  refine bodyPost_ret (v := timeV ⟨A, t.save, t.letter⟩) (by simp [results, Tryz.results69, go_sem, *]) rfl ⟨by rw [ET.out], ?_⟩
  repeat (first | exact Below.refl _ _ | refine Below.alloc ?_ (by simp) _)
 have n3 : (t.clock != 3) = true := by simp [c3]
 by_cases c1 : t.clock = 1
 ·have n1 : (t.clock == 1) = true := by simp [c1]
  have HA2 : Hid (t.stands - shift - p.save = A) := by show _ = _; rw [HA.out]; simp [c1]
  clear c1 c3
  go_enter Tryz.func69, Tryz.ntmps69
  go_wp2
  rw [HA2.out]
  refine bodyPost_ret (v := timeV ⟨A, t.save, t.letter⟩) (by simp [results, Tryz.results69, go_sem, *]) rfl ⟨by rw [ET.out], ?_⟩
  repeat (first | exact Below.refl _ _ | refine Below.alloc ?_ (by simp) _)
 ·have n1 : (t.clock == 1) = false := by simp [c1]
  have HA2 : Hid (t.stands - shift = A) := by show _ = _; rw [HA.out]; simp [c1, c3]
  clear c1 c3
  go_enter Tryz.func69, Tryz.ntmps69
  go_wp2
  rw [HA2.out]
  refine bodyPost_ret (v := timeV ⟨A, t.save, t.letter⟩) (by simp [results, Tryz.results69, go_sem, *]) rfl ⟨by rw [ET.out], ?_⟩
  repeat (first | exact Below.refl _ _ | refine Below.alloc ?_ (by simp) _)

theorem nan_any (n : Int) (w : World) : Calls Tryz.prog 174 #[.int .i64 n] w fun e w' => e = .returned (.bool false) ∧ w' = w := by
 go_enter Tryz.func174, Tryz.ntmps174
 go_wp2
 go_ret
 exact ⟨by simp, rfl⟩
def cmpI (a b : Int) : Int := if a < b then -1 else if b < a then 1 else 0
theorem compare_any (a b : Int) (w : World) : Calls Tryz.prog 126 #[.int .i64 a, .int .i64 b] w fun e w' => e = .returned (.int .i64 (cmpI a b)) ∧ w' = w := by
 by_cases h1 : a < b
 ·go_enter Tryz.func126, Tryz.ntmps126
  go_wp2_with (go_at_call 174; refine (nan_any _ _).mono ?_; rintro e w1 ⟨rfl, rfl⟩)
  go_ret
  exact ⟨ret_int (by simp [cmpI, h1]), rfl⟩
 ·by_cases h2 : b < a
  all_goals
   go_enter Tryz.func126, Tryz.ntmps126
   go_wp2_with (go_at_call 174; refine (nan_any _ _).mono ?_; rintro e w1 ⟨rfl, rfl⟩)
   go_ret
   exact ⟨ret_int (by unfold cmpI; (repeat split) <;> omega), rfl⟩
end
section
open Go.RowKit Go.Shelf

structure KeepT (T : TypeId) (Bs : Nat) (W W' : World) : Prop where
 size : W.heap.size ≤ W'.heap.size
 cells : ∀ (k : Nat) (cs : Array Value) (t : TypeId), W.heap[k]? = some (.cells cs t) → t ≠ T → k ≠ Bs → W'.heap[k]? = some (.cells cs t)
theorem keepT_t {T : TypeId} {Bs : Nat} {A B C : World} (h : KeepT T Bs A B) (k : KeepT T Bs B C) : KeepT T Bs A C :=
 ⟨Nat.le_trans h.size k.size, fun i cs t a b c => k.cells i cs t (h.cells i cs t a b c) b c⟩
theorem keepT_b {T : TypeId} {Bs : Nat} {w : World} (W : World) (l : Nat) (o o' : Obj) (_ : w.heap.size ≤ l) (h : W.heap[l]? = some o) (hc : o.isCells = false) (_ : o.isWalk = false) : KeepT T Bs W (W.putObj l o') := by
 have hg := grownBy_putObj' W l o'
 refine ⟨hg.size, fun k cs t a _ _ => ?_⟩
 have hk : k < W.heap.size := (Array.getElem?_eq_some_iff.1 a).1
 rw [hg.block k hk (by intro q; cases q; rw [h] at a; cases a; simp [Obj.isCells] at hc)]
 exact a
end
section
open Go.RowKit Go.Shelf

def OwnC {β : Type} (B : Nat) (I : β → World → Prop) : Prop :=
 ∀ s W W' row, I s W → W.grownBy W' row → (∀ r, row = some r → B ≤ r ∧ (r = B + 2 ∨ ∃ o : Obj, W.heap[r]? = some o ∧ o.isCells = false)) → I s W'
theorem OwnC.own {β : Type} {B : Nat} {I : β → World → Prop} (h : OwnC B I) : OwnFrom B I :=
 fun s W W' row hs hg hr => h s W W' row hs hg fun r e => ⟨(hr r e).1, .inr (hr r e).2⟩
theorem OwnC.and {β : Type} {B : Nat} {I J : β → World → Prop} (h : OwnC B I) (k : OwnC B J) : OwnC B (fun s W => I s W ∧ J s W) :=
 fun s W W' row hs hg hr => ⟨h s W W' row hs.1 hg hr, k s W W' row hs.2 hg hr⟩
theorem ownC_below {β : Type} {n₀ B : Nat} {w₀ : World} (hn : n₀ ≤ w₀.heap.size) (hB : n₀ ≤ B) : OwnC B (fun (_ : β) W => Below n₀ w₀ W) :=
 fun _ _ _ _ hs hg hr => hs.grown hg (Nat.le_trans hn hs.size) (fun k e => Nat.le_trans hB (hr k e).1)
def AbidesC {β : Type} (B : Nat) (J : β → World → Prop) : Prop :=
 ∀ s W W' row, J s W → W.grownBy W' row → (∀ r, row = some r → B ≤ r ∧ (r = B ∨ ∃ o : Obj, W.heap[r]? = some o ∧ o.isWalk = true)) → J s W'
def SeqC {α : Type} (F : Fence) (n : Nat) (P : Program) (g : Nat) (lb : Array Value) (encs : α → Array Value) (Kp : World → World → Prop) (S Sp : List α → Prop) (w : World) : Prop :=
 ∀ (l : Nat) (J Jx : List α → World → Prop) (W : World), Below w.heap.size w W → AbidesC W.heap.size J → AbidesC W.heap.size Jx →
  (∀ pre x W1, J pre W1 → Sp (pre ++ [x]) → YieldAt F (n - 1) P l (encs x) W1 fun e W' =>
   (e = .returned (.bool true) ∧ J (pre ++ [x]) W' ∧ Kp W1 W') ∨ (e = .returned (.bool false) ∧ Jx (pre ++ [x]) W')) →
  J [] W →
  CallsIn F n P g (#[.func (.yield l) #[] #[]] ++ lb) W fun e W' => (∃ v, e = .returned v) ∧ ((∃ xs, S xs ∧ J xs W') ∨ (∃ pre, Sp pre ∧ Jx pre W'))

theorem wpIn_range_c {α : Type} {F : Fence} {n : Nat} {P : Program} {g : Operand} {ps : Array Tmp} {assign body : Code} {Q : Exit → Act → World → Prop} {a : Act} {w : World}
  (hro : F.round = none) (h1 : 1 ≤ n) {gf : Nat} {lb : Array Value} (hg : a.eval g = .func (.func gf) #[] lb) (hFg : F.fn gf) (eg : ∀ args w, (callFunc gf args).run P w = .ok (.enter gf args) w)
  {encs : α → Array Value} {Kp : World → World → Prop} {S Sp : List α → Prop} {w0 : World} (hseq : SeqC F (n - 1) P gf lb encs Kp S Sp w0)
  (hKt : ∀ {A B C : World}, Kp A B → Kp B C → Kp A C) (hKb : ∀ (W : World) (l : Nat) (o o' : Obj), w.heap.size ≤ l → W.heap[l]? = some o → o.isCells = false → o.isWalk = false → Kp W (W.putObj l o'))
  (hb0 : Below w0.heap.size w0 w) (hps : ∀ x, (encs x).size = ps.size)
  (I : List α → World → Prop) (Ix : Code → List α → World → Prop) (hI : OwnC w.heap.size I) (hIx : ∀ c, OwnC w.heap.size (Ix c)) (h0 : I [] w)
  (Ax : α → Act → World → Prop) (hAx : ∀ x a', OwnFrom w.heap.size (fun (_ : Unit) W => Ax x a' W))
  (hassign : ∀ (l : Nat) (pre : List α) (x : α) (W : World) (K : Act → World → Prop), I pre W → w.heap.size + 2 ≤ W.heap.size → (∀ a' W', KeepsFrom w.heap.size W W' → Kp W W' → I pre W' → Ax x a' W' → K a' W') →
   assign.wpIn (F.inRound l) (n - 1 - 1) P (Exit.then K (fun _ _ _ => False)) { tmps := (ps.zip (encs x)).foldl (fun t (p, v) => t.setIfInBounds p v) a.tmps, defers := [] } W)
  (hbody : ∀ (l : Nat) (pre : List α) (x : α) (a' : Act) (W : World), w.heap.size ≤ l → (∃ r, W.heap[l]? = some (.loop r)) → I pre W → Ax x a' W → Sp (pre ++ [x]) → w.heap.size + 2 ≤ W.heap.size →
   body.wpIn (F.inRound l) (n - 1 - 1) P (ownPostG w.heap.size Kp I Ix (pre ++ [x]) W) a' W)
  (hdone : ∀ (D : Nat) (xs : List α) (W : World), w.heap.size ≤ D → S xs → I xs W → W.heap[D]? = some (.deferred (some [])) → Q .normal { a with defers := { target := .collected D, args := #[] } :: a.defers } W)
  (hstop : ∀ (D : Nat) (c : Code) (pre : List α) (W : World), w.heap.size ≤ D → Sp pre → Ix c pre W → W.heap[D]? = some (.deferred (some [])) → c.wpIn F n P Q { a with defers := { target := .collected D, args := #[] } :: a.defers } W) :
  (Code.rangeFunc g ps assign body).wpIn F n P Q a w := by
 refine wpIn_rangeFunc fun fn hfn => ?_
 rw [hro]
 have oI := hI.own
 have oIx := fun c => (hIx c).own
 obtain ⟨D, hD⟩ : ∃ D, w.heap.size = D := ⟨_, rfl⟩
 obtain ⟨rc, hrc⟩ : ∃ rc : LoopState → Option Code → Loop, rc = fun st pe => { state := st, pending := pe, fn, tmps := a.tmps, params := ps, assign, body, defers := D } := ⟨_, rfl⟩
 obtain ⟨V, hV⟩ : ∃ V, (w.alloc (.deferred (some []))).alloc (.loop (rc .ready none)) = V := ⟨_, rfl⟩
 have sV : V.heap.size = D + 2 := by rw [← hV]; simp [hD]
 have vL : V.heap[D + 1]? = some (.loop (rc .ready none)) := by
  have := World.alloc_heap_new (w.alloc (.deferred (some []))) (.loop (rc .ready none))
  rw [World.size_alloc, hD, hV] at this; exact this
 have vD : V.heap[D]? = some (.deferred (some [])) := by
  rw [← hV, Below.heap_alloc _ _ _ (by simp [hD]), ← hD]; exact World.alloc_heap_new w _
 have vI : I [] V := by rw [← hV]; exact oI.alloc _ (oI.alloc _ h0)
 have vB : Below w0.heap.size w0 V := by
  rw [← hV]; exact hb0.trans ((((Below.refl _ w).alloc (Nat.le_refl _) _).alloc (by simp) _).mono hb0.size)
 rw [hD] at hKb oI oIx hAx hassign hbody hdone hstop hI hIx
 refine ⟨D + 1, [{ target := .collected D, args := #[] }], V, { target := .fn (.func gf) lb, args := #[.func (.yield (D + 1)) #[] #[]] }, V, gf, #[.func (.yield (D + 1)) #[] #[]] ++ lb, V, ?_, ?_, ?_, ?_, fun _ => h1, ?_⟩
 ·rw [← hV, hrc, ← hD]; exact run_enterLoop_outer _ _ _ _ _
 ·simp only [resolve, hg]; simp [go_sem]
 ·intro f' hf'; simp [Target.leads] at hf'; subst hf'; exact hFg
 ·simp [invoke, go_sem, eg]
 /- what stands between two rounds: the caller's own, and the two blocks that the loop laid -/
 have far : ∀ {A B : World} {row : Option Nat} {k : Nat} {o : Obj}, A.grownBy B row → (∀ r, row = some r → V.heap.size ≤ r ∧ (r = V.heap.size ∨ ∃ o : Obj, A.heap[r]? = some o ∧ o.isWalk = true)) → k < D + 2 → A.heap[k]? = some o → B.heap[k]? = some o :=
  fun hg' hr hk ho => (hg'.block _ (Array.getElem?_eq_some_iff.1 ho).1 (fun e => by have := (hr _ e.symm).1; omega)).trans ho
 have near : ∀ {A : World} {row : Option Nat}, (∀ r, row = some r → V.heap.size ≤ r ∧ (r = V.heap.size ∨ ∃ o : Obj, A.heap[r]? = some o ∧ o.isWalk = true)) → ∀ r, row = some r → D ≤ r ∧ (r = D + 2 ∨ ∃ o : Obj, A.heap[r]? = some o ∧ o.isCells = false) :=
  fun hr r e => by
   obtain ⟨q, q2⟩ := hr r e
   refine ⟨by omega, q2.imp (fun h => by omega) (fun ⟨o, ho, hw⟩ => ⟨o, ho, Obj.not_cells_of_walk hw⟩)⟩
 refine (hseq (D + 1)
  (fun pre W => I pre W ∧ W.heap[D + 1]? = some (.loop (rc .ready none)) ∧ W.heap[D]? = some (.deferred (some [])))
  (fun pre W => ∃ c, Ix c pre W ∧ W.heap[D + 1]? = some (.loop (rc .done (some c))) ∧ W.heap[D]? = some (.deferred (some [])))
  V vB
  (fun s A B row hs hg' hr => ⟨hI s A B row hs.1 hg' (near hr), far hg' hr (by omega) hs.2.1, far hg' hr (by omega) hs.2.2⟩)
  (fun s A B row hs hg' hr => by
   obtain ⟨c, hc, hl, hk⟩ := hs
   exact ⟨c, hIx c s A B row hc hg' (near hr), far hg' hr (by omega) hl, far hg' hr (by omega) hk⟩)
  ?_ ⟨vI, vL, vD⟩).mono ?_
 ·rintro pre x W ⟨hi, hl, hk⟩ hlen
  have hlt : D + 1 < W.heap.size := (Array.getElem?_eq_some_iff.1 hl).1
  have hy := run_yield (P := P) (args := encs x) hl (by rw [hrc]; exact hps x)
  rw [hrc] at hy
  refine ⟨fn, _, assign, body, hy, roundIn_of_wpIn hfn (hassign _ pre x W _ hi (by omega) ?_)⟩
  clear hy
  intro a' X kX pX iX aX
  have xl := kX.same _ _ (by omega) hl rfl
  have xk := kX.same _ _ (Nat.le_refl _) hk rfl
  have xs : D + 1 < X.heap.size := (Array.getElem?_eq_some_iff.1 xl).1
  obtain ⟨Y, hY⟩ : ∃ Y, X.putObj (D + 1) (.loop { rc .ready none with state := .busy }) = Y := ⟨_, rfl⟩
  refine ⟨Y, by rw [← hY]; exact run_beginRound xl (by rw [hrc]), ?_⟩
  have yl : Y.heap[D + 1]? = some (.loop { rc .ready none with state := .busy }) := by rw [← hY]; exact World.putObj_heap_same xs
  have yk : Y.heap[D]? = some (.deferred (some [])) := by rw [← hY]; exact (World.putObj_heap_other (by omega)).trans xk
  have ys : D + 1 < Y.heap.size := (Array.getElem?_eq_some_iff.1 yl).1
  have yp : Kp X Y := by rw [← hY]; exact hKb _ _ _ _ (by omega) xl rfl rfl
  have yI : I pre Y := by rw [← hY]; exact oI.putObj _ iX (by omega) xl rfl
  have yA : Ax x a' Y := by rw [← hY]; exact (hAx x a').putObj (s := ()) _ aX (by omega) xl rfl
  refine wpIn_mono (hbody _ pre x a' Y (by omega) ⟨_, yl⟩ yI yA hlen (by omega)) ?_
  /- how a round ends -/
  have fin : ∀ (jump : Option Code) (Z : World), KeepsFrom D Y Z →
    (Instr.endRound (D + 1) jump).run P Z = .ok (.bool jump.isNone) (Z.putObj (D + 1) (.loop (rc (if jump.isNone then .ready else .done) jump))) ∧
    Z.heap[D + 1]? = some (.loop { rc .ready none with state := .busy }) ∧
    (Z.putObj (D + 1) (.loop (rc (if jump.isNone then .ready else .done) jump))).heap[D + 1]? = some (.loop (rc (if jump.isNone then .ready else .done) jump)) ∧
    (Z.putObj (D + 1) (.loop (rc (if jump.isNone then .ready else .done) jump))).heap[D]? = some (.deferred (some [])) := fun jump Z hz => by
   have zl := hz.same _ _ (by omega) yl rfl
   have e := run_endRound (P := P) jump zl
   rw [hrc] at e zl ⊢
   exact ⟨e, zl, World.putObj_heap_same (Array.getElem?_eq_some_iff.1 zl).1, (World.putObj_heap_other (by omega)).trans (hz.same _ _ (Nat.le_refl _) yk rfl)⟩
  have out : ∀ (p : Value → World → Prop) (c : Code) (Z : World), KeepsFrom D Y Z → Ix c (pre ++ [x]) Z → ∃ e Z', (Instr.endRound (D + 1) (some c)).run P Z = .ok e Z' ∧ (p e Z' ∨ Ending.returned e = .returned (.bool false) ∧ ∃ c, Ix c (pre ++ [x]) Z' ∧ Z'.heap[D + 1]? = some (.loop (rc .done (some c))) ∧ Z'.heap[D]? = some (.deferred (some []))) := fun p c Z hz hi3 => by
   obtain ⟨hr, zl, zl2, zk2⟩ := fin (some c) Z hz
   exact ⟨_, _, hr, .inr ⟨rfl, c, (oIx c).putObj _ hi3 (by omega) zl rfl, zl2, zk2⟩⟩
  rintro e a3 Z hp
  cases e with
  | normal =>
    obtain ⟨hz, hkp, hi3⟩ := hp
    obtain ⟨hr, zl, zl2, zk2⟩ := fin none Z hz
    exact ⟨_, _, hr, .inl ⟨rfl, ⟨oI.putObj _ hi3 (by omega) zl rfl, zl2, zk2⟩, hKt pX (hKt (hKt yp hkp) (hKb _ _ _ _ (by omega) zl rfl rfl))⟩⟩
  | ret => exact out (fun e Z' => Ending.returned e = .returned (.bool true) ∧ _) _ Z hp.1 hp.2
  | exit id => exact out (fun e Z' => Ending.returned e = .returned (.bool true) ∧ _) _ Z hp.1 hp.2
  | goto t => exact out (fun e Z' => Ending.returned e = .returned (.bool true) ∧ _) _ Z hp.1 hp.2
  | panic ch => exact hp.elim
  | outgrown => exact hp.elim
 ·rintro e X ⟨⟨v, rfl⟩, (⟨ys, hS, hi, hl, hk⟩ | ⟨pre, hSp, c, hi, hl, hk⟩)⟩
  ·exact ⟨none, _, by have := run_endLoop (P := P) hl (by rw [hrc]; simp); rw [hrc] at this; exact this, hdone _ ys _ (Nat.le_refl _) hS (oI.putObj _ hi (by omega) hl rfl) ((World.putObj_heap_other (by omega)).trans hk)⟩
  ·exact ⟨some c, _, by have := run_endLoop (P := P) hl (by rw [hrc]; simp); rw [hrc] at this; exact this, hstop _ c pre _ (Nat.le_refl _) hSp ((oIx c).putObj _ hi (by omega) hl rfl) ((World.putObj_heap_other (by omega)).trans hk)⟩
end
section
open Go.RowKit Go.Shelf
attribute [local go_sem] Oper.semAt_some

theorem turns_prefix {rs : List Sx.Rl} {name : Tx.Bs} {i k : Nat} {r : Sx.Rl} (h : rs[i]? = some r) (hn : (r.name == name) = true) (hk : k ≤ Sx.many r) : (Sx.turnsOf (rs.take i) name ++ Sx.turnsTo r k) <+: Sx.turnsOf rs name := by
 have e := Sx.turnsOf_take (name := name) h
 rw [hn, if_pos rfl] at e
 have p1 : Sx.turnsTo r k <+: Sx.turnsR r := by
  rw [← Sx.turnsTo_all]
  unfold Sx.turnsTo
  refine ⟨((List.range (Sx.many r)).drop k).map (fun (j : Nat) => Sx.turnIn r (r.frm + (j : Int))), ?_⟩
  rw [← List.map_append]
  congr 1
  have : (List.range (Sx.many r)).take k = List.range k := by rw [List.take_range, Nat.min_eq_left hk]
  rw [← this]; exact List.take_append_drop _ _
 have p2 : Sx.turnsOf (rs.take (i + 1)) name <+: Sx.turnsOf rs name := by
  have : rs = rs.take (i + 1) ++ rs.drop (i + 1) := (List.take_append_drop _ _).symm
  refine ⟨Sx.turnsOf (rs.drop (i + 1)) name, ?_⟩
  conv => rhs; rw [this]
  unfold Sx.turnsOf
  rw [List.filter_append, List.flatMap_append]
 refine List.IsPrefix.trans ?_ p2
 rw [e]
 obtain ⟨t, ht⟩ := p1
 exact ⟨t, by rw [List.append_assoc, ht]⟩
theorem turns_lt {rs : List Sx.Rl} {name : Tx.Bs} {i k : Nat} {r : Sx.Rl} (h : rs[i]? = some r) (hn : (r.name == name) = true) (hk : k < Sx.many r) : (Sx.turnsOf (rs.take i) name ++ Sx.turnsTo r k).length < (Sx.turnsOf rs name).length := by
 have := (turns_prefix h hn (k := k + 1) (by omega)).length_le
 rw [Sx.turnsTo_succ] at this
 simp at this ⊢
 omega
def Kp (n₀ : Nat) (T : TypeId) (Bs : Nat) (W W' : World) : Prop := Below n₀ W W' ∧ KeepT T Bs W W'
theorem turns1_in (n l Bl Bn Bs : Nat) (hn : 1 ≤ n) (rs : List Sx.Rl) (name : Tx.Bs) (ra : Option Addr) (rcap : Nat) (W0 W : World) (h : RdRules W0 (.slice ra rs.length rcap) rs) (hok : ∀ r ∈ rs, Sx.RuleOk r) (hrs : rs.length ≤ 40)
  (cl : W0.cell? ⟨Bl, 0, none⟩ = some (.slice ra rs.length rcap)) (cn : W0.cell? ⟨Bn, 0, none⟩ = some (strV name)) (hBl : Bl < W0.heap.size) (hBn : Bn < W0.heap.size) (hBs : Bs < W.heap.size) (hW : Below W0.heap.size W0 W)
  (J Jx : List Sx.Tn → World → Prop) (hJ : AbidesFrom W.heap.size J)
  (hY : ∀ pre x W1, J pre W1 → pre.length < (Sx.turnsOf rs name).length → YieldAt Fence.wide (n - 1) Tryz.prog l #[turnV x] W1 fun e W' => (e = .returned (.bool true) ∧ J (pre ++ [x]) W' ∧ Kp W0.heap.size 120 Bs W1 W') ∨ (e = .returned (.bool false) ∧ Jx (pre ++ [x]) W'))
  (h0 : J [] W) :
  CallsIn Fence.wide n Tryz.prog 127 #[.func (.yield l) #[] #[], .pointer (some ⟨Bl, 0, none⟩), .pointer (some ⟨Bn, 0, none⟩)] W fun e W' => (∃ v, e = .returned v) ∧ ((∃ ys, ys = Sx.turnsOf rs name ∧ J ys W') ∨ (∃ pre, pre <+: Sx.turnsOf rs name ∧ Jx pre W')) := by
 have HY := hid hY
 have HJ := hid hJ
 have H := hid h
 have HOK := hid hok
 have cl1 := (hW.cell (p := ⟨Bl, 0, none⟩) hBl).trans cl
 have HCN := hid cn
 clear hY hJ h hok cl cn
 refine callsIn_of_wp Tryz.func127 rfl trivial ?_ rfl
 simp only [Tryz.ntmps127, List.size_toArray, List.length_cons, List.length_nil, Nat.reduceAdd, Nat.reduceSub, Array.replicate_succ, Array.replicate_zero, List.push_toArray, List.append_toArray, List.nil_append, List.cons_append]
 gi_wp2
 gi_loopw [9] (fun a wr => ∃ i : Nat, i ≤ rs.length ∧ a = .int .i64 i ∧ Hid (J (Sx.turnsOf (rs.take i) name) wr) ∧ Hid (Below W0.heap.size W0 wr) ∧ Hid (W.heap.size ≤ wr.heap.size)) (fun a _ => rs.length - (intOf a).toNat)
 case atStart => exact ⟨0, Nat.zero_le _, rfl, h0, hW, Nat.le_refl _⟩
 case round =>
  obtain ⟨i, hi, rfl, JS, B0, SZ⟩ := hrel
  by_cases hlt : i < rs.length
  case neg =>
   have e : rs.take i = rs := List.take_of_length_le (by omega)
   rw [e] at JS
   gi_wp2
   go_end0
   exact ⟨⟨_, rfl⟩, .inl ⟨_, rfl, JS.out⟩⟩
  obtain ⟨r, hx⟩ : ∃ r, rs[i]? = some r := ⟨_, List.getElem?_eq_getElem hlt⟩
  obtain ⟨rb, ro, rfl, hrb, hc⟩ := rd_elem (rd_below H.out B0.out) hx
  obtain ⟨c0, c1, c2, c3, c4, c5, c6, c7, c8, c9, c10⟩ := rd_rule hc
  have HX := hid hx
  have ok := HOK.out r (List.mem_of_getElem? hx)
  have cn1 : wr.cell? ⟨Bn, 0, none⟩ = some (strV name) := (B0.out.cell (p := ⟨Bn, 0, none⟩) hBn).trans HCN.out
  have sBn : Bn < wr.heap.size := Nat.lt_of_lt_of_le hBn B0.out.size
  clear hc hx
  cases hnm : (r.name == name)
  ·have hnm' : (r.name != name) = true := by simp [bne, hnm]
   have JN : Hid (J (Sx.turnsOf (rs.take (i + 1)) name) (wr.alloc (.cells (ruleCells r).toArray 40))) := by
    show J _ _
    rw [Sx.turnsOf_take HX.out, hnm, if_neg (by decide), List.append_nil]
    exact HJ.out _ _ _ none JS.out (World.grownBy_alloc wr _ none) (fun r e => by cases e)
   have BN := hid (B0.out.alloc B0.out.size (.cells (ruleCells r).toArray 40))
   have SN : Hid (W.heap.size ≤ (wr.alloc (.cells (ruleCells r).toArray 40)).heap.size) := by show _ ≤ _; have := SZ.out; simp; omega
   gi_wp2
   go_roundw
   case rel => exact ⟨i + 1, by omega, by go_num, JN, BN, SN⟩
   case measure => simp [intOf]; omega
  ·have hnm' : (r.name != name) = false := by simp [bne, hnm]
   have HNM := hid hnm
   have J1 : Hid (J (Sx.turnsOf (rs.take i) name ++ Sx.turnsTo r 0) (wr.alloc (.cells (ruleCells r).toArray 40))) := by
    show J _ _
    simp only [Sx.turnsTo, List.range_zero, List.map_nil, List.append_nil]
    exact HJ.out _ _ _ none JS.out (World.grownBy_alloc wr _ none) (fun r e => by cases e)
   have B1 := hid (B0.out.alloc B0.out.size (.cells (ruleCells r).toArray 40))
   have S1 : Hid (W.heap.size ≤ (wr.alloc (.cells (ruleCells r).toArray 40)).heap.size) := by show _ ≤ _; have := SZ.out; simp; omega
   have K1 : Hid ((wr.alloc (.cells (ruleCells r).toArray 40)).heap[wr.heap.size]? = some (.cells (ruleCells r).toArray 40)) := World.alloc_heap_new wr _
   have hRs : Hid (Bs ≠ wr.heap.size) := by show _ ≠ _; have := SZ.out; omega
   have HOKR := hid ok
   have X1 := hid (ca_new wr (ruleCells r) 40)
   obtain ⟨f1, f2, f3, _, _, fa, _, _⟩ := ok
   have hmany : Hid ((Sx.many r : Int) = r.to - r.frm + 1) := by show _ = _; simp [Sx.many]; omega
   gi_wp2
   obtain ⟨Rb, hRb⟩ : ∃ Rb, wr.heap.size = Rb := ⟨_, rfl⟩
   obtain ⟨V, hV⟩ : ∃ V, wr.alloc (.cells (ruleCells r).toArray 40) = V := ⟨_, rfl⟩
   rw [show wr.alloc (.cells #[strV r.name, .int .i64 r.frm, .int .i64 r.to, .int .i64 r.month, .int .i64 r.kind, .int .i64 r.wk, .int .i64 r.n, .int .i64 r.at_, .int .i64 r.clock, .int .i64 r.save, strV r.letter] 40) = V from hV, hRb]
   rw [hV] at J1 B1 S1 K1 X1
   rw [hRb] at K1 hRs X1
   clear hV c0 c1 c2 c3 c4 c5 c6 c7 c8 c9 c10 hrb JS B0 cn1 sBn SZ
   gi_loopw [6] (fun y wq => ∃ k : Nat, k ≤ Sx.many r ∧ y = .int .i64 (r.frm + (k : Int)) ∧ Hid (J (Sx.turnsOf (rs.take i) name ++ Sx.turnsTo r k) wq) ∧ Hid (Below W0.heap.size W0 wq) ∧ Hid (wq.heap[Rb]? = some (.cells (ruleCells r).toArray 40)) ∧ Hid (CellsAt wq Rb (ruleCells r)) ∧ Hid (W.heap.size ≤ wq.heap.size)) (fun y _ => (r.to + 1 - intOf y).toNat)
   case atStart => exact ⟨0, Nat.zero_le _, by simp, J1, B1, K1, X1, S1⟩
   case round =>
    clear J1 B1 K1 S1 X1
    obtain ⟨k, hk, rfl, J1, B1, K1, X1, S1⟩ := hrel
    have sR := X1.out.1
    obtain ⟨x0, _⟩ := ca_at X1.out 0 rfl
    obtain ⟨x1, _⟩ := ca_at X1.out 1 rfl
    obtain ⟨x2, _⟩ := ca_at X1.out 2 rfl
    obtain ⟨x3, _⟩ := ca_at X1.out 3 rfl
    obtain ⟨x4, _⟩ := ca_at X1.out 4 rfl
    obtain ⟨x5, _⟩ := ca_at X1.out 5 rfl
    obtain ⟨x6, _⟩ := ca_at X1.out 6 rfl
    obtain ⟨x7, _⟩ := ca_at X1.out 7 rfl
    obtain ⟨x8, _⟩ := ca_at X1.out 8 rfl
    obtain ⟨x9, _⟩ := ca_at X1.out 9 rfl
    obtain ⟨x10, _⟩ := ca_at X1.out 10 rfl
    by_cases hlk : k < Sx.many r
    case neg =>
     have hke : k = Sx.many r := by omega
     have hgt : ¬ r.frm + (k : Int) ≤ r.to := by have := hmany.out; omega
     have JN : Hid (J (Sx.turnsOf (rs.take (i + 1)) name) wr) := by
      have := J1.out
      rw [hke, Sx.turnsTo_all] at this
      show J _ _
      rw [Sx.turnsOf_take HX.out, HNM.out, if_pos rfl]
      exact this
     gi_wp2
     go_roundw
     case rel => exact ⟨i + 1, by omega, by go_num, JN, B1, S1⟩
     case measure => simp [intOf]; omega
    have hle : r.frm + (k : Int) ≤ r.to := by have := hmany.out; omega
    have OY := hid (Sx.on_year HOKR.out (y := r.frm + (k : Int)) (by omega) (by omega))
    have HC := hid (turnIn_any r (r.frm + (k : Int)) wr OY.out.1 fa.1 fa.2)
    obtain ⟨T, hT⟩ : ∃ T, Sx.turnIn r (r.frm + (k : Int)) = T := ⟨_, rfl⟩
    rw [hT] at HC
    have HT := hid hT
    have HLT := hid (turns_lt HX.out HNM.out hlk)
    clear hT
    gi_wp2_with (refine ⟨trivial, ?_⟩; gi_at_call 128; refine (callsIn_wide.2 HC.out).mono ?_; rintro e w1 ⟨rfl, hb⟩; have J2 := HJ.out _ _ _ none J1.out (below_grown hb) (fun r e => by cases e); obtain ⟨fn, tmps, assign, body, hy, hR⟩ := HY.out _ T w1 J2 HLT.out)
    refine hR.mono ?_
    have KB := K1.out
    have B2 : Below W0.heap.size W0 w1 := B1.out.trans (hb.mono B1.out.size)
    have X2 := ca_below X1.out hb
    have K2 : w1.heap[Rb]? = some (.cells (ruleCells r).toArray 40) := by rw [hb.block Rb sR]; exact KB
    have S2 : W.heap.size ≤ w1.heap.size := Nat.le_trans S1.out hb.size
    rintro e W3 (⟨rfl, hJ3, hk3⟩ | ⟨rfl, hJx3⟩)
    ·have JN : Hid (J (Sx.turnsOf (rs.take i) name ++ Sx.turnsTo r (k + 1)) W3) := by
      show J _ _
      rw [Sx.turnsTo_succ, HT.out, ← List.append_assoc]
      exact hJ3
     have BN : Hid (Below W0.heap.size W0 W3) := B2.trans hk3.1
     have KN : Hid (W3.heap[Rb]? = some (.cells (ruleCells r).toArray 40)) := hk3.2.cells Rb _ _ K2 (by decide) (Ne.symm hRs.out)
     have XN : Hid (CellsAt W3 Rb (ruleCells r)) := ca_block X2 (Nat.lt_of_lt_of_le X2.1 hk3.2.size) (by rw [KN.out, K2])
     have SN : Hid (W.heap.size ≤ W3.heap.size) := Nat.le_trans S2 hk3.2.size
     clear hk3 hJ3 B2 X2 K2 S2 hb hR hy J2 KB J1 B1 K1 X1 S1
     gi_wp2
     go_roundw
     case rel => exact ⟨k + 1, by omega, by go_num, JN, BN, KN, XN, SN⟩
     case measure => simp [intOf]; omega
    ·have PX : Hid ((Sx.turnsOf (rs.take i) name ++ Sx.turnsTo r k ++ [T]) <+: Sx.turnsOf rs name) := by
      have := turns_prefix HX.out HNM.out (k := k + 1) (by omega)
      rw [Sx.turnsTo_succ, HT.out, ← List.append_assoc] at this
      exact this
     gi_wp2
     refine bodyPost_ret (results_none rfl _ _ _) rfl ?_
     exact ⟨⟨_, rfl⟩, .inr ⟨_, PX.out, hJx3⟩⟩
end
section
open Go.RowKit Go.Shelf
attribute [local go_sem] Oper.semAt_some

namespace Sx
def ago : Tn := ⟨-1099511627776, 0, 0, []⟩
def stepsFrom : Tn → List Tn → List (Tn × Tn)
 | _, [] => []
 | p, t :: r => (p, t) :: stepsFrom t r
def stepsOf (l : List Tn) : List (Tn × Tn) := stepsFrom ago l
def lastT (p : Tn) (l : List Tn) : Tn := (l.getLast?).getD p
theorem stepsFrom_append : ∀ (l : List Tn) (p t : Tn), stepsFrom p (l ++ [t]) = stepsFrom p l ++ [(lastT p l, t)]
 | [], p, t => rfl
 | u :: r, p, t => by
   simp only [List.cons_append, stepsFrom, stepsFrom_append r u t, lastT, List.getLast?_cons]
   cases r.getLast? <;> rfl
theorem stepsFrom_len : ∀ (l : List Tn) (p : Tn), (stepsFrom p l).length = l.length
 | [], p => rfl
 | u :: r, p => by simp [stepsFrom, stepsFrom_len r u]
theorem take_snoc {α : Type} {l : List α} {i : Nat} {t : α} (h : l[i]? = some t) : l.take (i + 1) = l.take i ++ [t] := by
 rw [List.take_add_one, h]; rfl
theorem steps_next {l : List Tn} {i : Nat} {t : Tn} (h : l[i]? = some t) : stepsOf (l.take (i + 1)) = stepsOf (l.take i) ++ [(lastT ago (l.take i), t)] := by
 unfold stepsOf; rw [take_snoc h, stepsFrom_append]
theorem last_next {l : List Tn} {i : Nat} {t : Tn} (h : l[i]? = some t) : lastT ago (l.take (i + 1)) = t := by
 rw [take_snoc h]; simp [lastT]
theorem stepsFrom_prefix : ∀ (a b : List Tn) (p : Tn), stepsFrom p a <+: stepsFrom p (a ++ b)
 | [], b, p => by simp [stepsFrom]
 | u :: r, b, p => by
   simp only [List.cons_append, stepsFrom]
   obtain ⟨t, ht⟩ := stepsFrom_prefix r b u
   exact ⟨t, by simp [ht]⟩
theorem steps_prefix (l : List Tn) (i : Nat) : stepsOf (l.take i) <+: stepsOf l := by
 have := stepsFrom_prefix (l.take i) (l.drop i) ago
 rwa [List.take_append_drop] at this
end Sx
def RdTurns := Rd 4 turnC
def RdTimes := Rd 3 timeC
theorem rd_turn {w : World} {b o i : Nat} {t : Sx.Tn} (h : ∀ k u, (turnC t)[k]? = some u → w.cell? ⟨b, o + i * 4 + k, none⟩ = some u) :
  w.cell? ⟨b, o + i * 4, none⟩ = some (.int .i64 t.stands) ∧ w.cell? ⟨b, o + i * 4 + 1, none⟩ = some (.int .i64 t.clock) ∧ w.cell? ⟨b, o + i * 4 + 2, none⟩ = some (.int .i64 t.save) ∧ w.cell? ⟨b, o + i * 4 + 3, none⟩ = some (strV t.letter) :=
 ⟨h 0 _ rfl, h 1 _ rfl, h 2 _ rfl, h 3 _ rfl⟩
theorem ca_heap2 {W : World} {b : Nat} {vs : List Value} {t : TypeId} (h : W.heap[b]? = some (.cells vs.toArray t (0, 0))) : CellsAt W b vs := by
 refine ⟨(Array.getElem?_eq_some_iff.1 h).1, fun k v hv => ?_⟩
 simp [World.cell?, World.frozen?, h, hv]
/- four cells of a block written one by one -/
theorem put4 {W : World} {b : Nat} {t : TypeId} {c0 c1 c2 c3 : Value} (v0 v1 v2 v3 : Value) (h : W.heap[b]? = some (.cells #[c0, c1, c2, c3] t)) :
  ((((W.setCell ⟨b, 0, none⟩ v0).setCell ⟨b, 1, none⟩ v1).setCell ⟨b, 2, none⟩ v2).setCell ⟨b, 3, none⟩ v3).heap[b]? = some (.cells #[v0, v1, v2, v3] t) := by
 obtain ⟨hlt, e⟩ := Array.getElem?_eq_some_iff.1 h
 simp [World.setCell, Array.getElem?_modify, h]
theorem grown4 (W : World) (b : Nat) (v0 v1 v2 v3 : Value) : W.grownBy ((((W.setCell ⟨b, 0, none⟩ v0).setCell ⟨b, 1, none⟩ v1).setCell ⟨b, 2, none⟩ v2).setCell ⟨b, 3, none⟩ v3) (some b) := by
 refine ⟨rfl, rfl, rfl, by simp, fun k hk hn => ?_⟩
 have hne : k ≠ b := fun e => hn (by rw [e])
 rw [Below.heap_setCell _ _ _ _ hne, Below.heap_setCell _ _ _ _ hne, Below.heap_setCell _ _ _ _ hne, Below.heap_setCell _ _ _ _ hne]

theorem steps1_in (n l Bo Bs : Nat) (hn : 1 ≤ n) (ts : List Sx.Tn) (ra : Option Addr) (rcap : Nat) (W0 W : World) (h : RdTurns W0 (.slice ra ts.length rcap) ts) (hts : ts.length ≤ 10000)
  (cl : W.cell? ⟨Bo, 0, none⟩ = some (.slice ra ts.length rcap)) (hBo : Bo < W.heap.size) (hBs : Bs < W.heap.size) (hW : Below W0.heap.size W0 W)
  (J Jx : List (Sx.Tn × Sx.Tn) → World → Prop) (hJ : AbidesC W.heap.size J)
  (hY : ∀ pre x W1, J pre W1 → pre ++ [x] <+: Sx.stepsOf ts → YieldAt Fence.wide (n - 1) Tryz.prog l #[stepV x.1 x.2] W1 fun e W' => (e = .returned (.bool true) ∧ J (pre ++ [x]) W' ∧ Kp W0.heap.size 72 Bs W1 W') ∨ (e = .returned (.bool false) ∧ Jx (pre ++ [x]) W'))
  (h0 : J [] W) :
  CallsIn Fence.wide n Tryz.prog 131 #[.func (.yield l) #[] #[], .pointer (some ⟨Bo, 0, none⟩)] W fun e W' => (∃ v, e = .returned v) ∧ ((∃ ys, ys = Sx.stepsOf ts ∧ J ys W') ∨ (∃ pre, pre <+: Sx.stepsOf ts ∧ Jx pre W')) := by
 have HY := hid hY
 have HJ := hid hJ
 have H := hid h
 have cl1 := cl
 have sBo : Bo < W.heap.size := hBo
 have J0 : Hid (J (Sx.stepsOf (ts.take 0)) (W.alloc (.cells (turnC Sx.ago).toArray 120))) := hJ _ _ _ none h0 (World.grownBy_alloc W _ none) (fun r e => by cases e)
 have B0 := hid (hW.alloc hW.size (.cells (turnC Sx.ago).toArray 120))
 have F0 : Hid ((W.alloc (.cells (turnC Sx.ago).toArray 120)).heap[W.heap.size]? = some (.cells (turnC (Sx.lastT Sx.ago (ts.take 0))).toArray 120)) := World.alloc_heap_new W _
 have S0 : Hid (W.heap.size < (W.alloc (.cells (turnC Sx.ago).toArray 120)).heap.size) := by show _ < _; simp
 have hsB : Hid (Bs ≠ W.heap.size ∧ W0.heap.size ≤ W.heap.size) := ⟨by omega, hW.size⟩
 have BsL := hid hBs
 clear hY hJ h cl h0
 refine callsIn_of_wp Tryz.func131 rfl trivial ?_ rfl
 simp only [Tryz.ntmps131, List.size_toArray, List.length_cons, List.length_nil, Nat.reduceAdd, Nat.reduceSub, Array.replicate_succ, Array.replicate_zero, List.push_toArray, List.append_toArray, List.nil_append, List.cons_append]
 gi_wp2
 obtain ⟨Fb, hFb⟩ : ∃ Fb, W.heap.size = Fb := ⟨_, rfl⟩
 rw [hFb] at HJ F0 S0 hsB BsL ⊢
 obtain ⟨V, hV⟩ : ∃ V, W.alloc (.cells (turnC Sx.ago).toArray 120) = V := ⟨_, rfl⟩
 rw [show W.alloc (.cells #[.int .i64 (-1099511627776), .int .i64 0, .int .i64 0, .string ⟨#[]⟩] 120) = V from hV]
 rw [hV] at J0 B0 F0 S0
 clear hV hFb hW hBs cl1 sBo
 gi_loopw [9] (fun a wr => ∃ i : Nat, i ≤ ts.length ∧ a = .int .i64 i ∧ Hid (J (Sx.stepsOf (ts.take i)) wr) ∧ Hid (Below W0.heap.size W0 wr) ∧ Hid (wr.heap[Fb]? = some (.cells (turnC (Sx.lastT Sx.ago (ts.take i))).toArray 120)) ∧ Hid (Fb < wr.heap.size)) (fun a _ => ts.length - (intOf a).toNat)
 case atStart => exact ⟨0, Nat.zero_le _, rfl, J0, B0, F0, S0⟩
 case round =>
  clear J0 B0 F0 S0
  obtain ⟨i, hi, rfl, JS, B0, F0, SZ⟩ := hrel
  by_cases hlt : i < ts.length
  case neg =>
   have e : ts.take i = ts := List.take_of_length_le (by omega)
   rw [e] at JS
   gi_wp2
   go_end0
   exact ⟨⟨_, rfl⟩, .inl ⟨_, rfl, JS.out⟩⟩
  obtain ⟨t, hx⟩ : ∃ t, ts[i]? = some t := ⟨_, List.getElem?_eq_getElem hlt⟩
  obtain ⟨rb, ro, rfl, hrb, hc⟩ := rd_elem (rd_below H.out B0.out) hx
  obtain ⟨c0, c1, c2, c3⟩ := rd_turn hc
  have HX := hid hx
  have HL := hid (Sx.steps_next hx)
  have HN := hid (Sx.last_next hx)
  obtain ⟨p, hp⟩ : ∃ p, Sx.lastT Sx.ago (ts.take i) = p := ⟨_, rfl⟩
  rw [hp] at F0 HL
  have CF := ca_heap2 F0.out
  obtain ⟨f0, z0⟩ := ca_at CF 0 rfl
  obtain ⟨f1, z1⟩ := ca_at CF 1 rfl
  obtain ⟨f2, z2⟩ := ca_at CF 2 rfl
  obtain ⟨f3, z3⟩ := ca_at CF 3 rfl
  have sF := SZ.out
  have J2 : Hid (J (Sx.stepsOf (ts.take i)) (wr.alloc (.cells (turnC t).toArray 120))) := HJ.out _ _ _ none JS.out (World.grownBy_alloc wr _ none) (fun r e => by cases e)
  have B2 := hid (B0.out.alloc B0.out.size (.cells (turnC t).toArray 120))
  have PX : Hid ((Sx.stepsOf (ts.take i) ++ [(p, t)]) <+: Sx.stepsOf ts) := by
   show _ <+: _
   rw [← HL.out]
   exact Sx.steps_prefix ts (i + 1)
  clear hc hx hp CF
  obtain ⟨fn, tmps, assign, body, hy, hR⟩ := HY.out _ (p, t) (wr.alloc (.cells #[.int .i64 t.stands, .int .i64 t.clock, .int .i64 t.save, strV t.letter] 120)) J2.out PX.out
  dsimp only at hy
  have HR := hid hR
  have K2 : Hid ((wr.alloc (.cells (turnC t).toArray 120)).heap[wr.heap.size]? = some (.cells (turnC t).toArray 120)) := World.alloc_heap_new wr _
  have F2 : Hid ((wr.alloc (.cells (turnC t).toArray 120)).heap[Fb]? = some (.cells (turnC p).toArray 120)) := by show _ = _; rw [Below.heap_alloc _ _ _ sF]; exact F0.out
  have hT : Hid (Bs ≠ wr.heap.size ∧ W0.heap.size ≤ wr.heap.size ∧ Fb < wr.heap.size) := ⟨by have := hsB.out; have := BsL.out; omega, B0.out.size, SZ.out⟩
  clear hR
  gi_wp2
  refine HR.out.mono ?_
  clear HR hy f0 f1 f2 f3 z0 z1 z2 z3 c0 c1 c2 c3 hrb F0 JS B0 SZ sF J2
  obtain ⟨Tb, hTb⟩ : ∃ Tb, wr.heap.size = Tb := ⟨_, rfl⟩
  obtain ⟨X, hX⟩ : ∃ X, wr.alloc (.cells (turnC t).toArray 120) = X := ⟨_, rfl⟩
  rw [show wr.alloc (.cells #[.int .i64 t.stands, .int .i64 t.clock, .int .i64 t.save, strV t.letter] 120) = X from hX]
  rw [hX] at K2 F2 B2
  rw [hTb] at K2 hT ⊢
  clear hX hTb
  rintro e W3 (⟨rfl, hJ3, hk3⟩ | ⟨rfl, hJx3⟩)
  ·have F3 : W3.heap[Fb]? = some (.cells (turnC p).toArray 120) := hk3.2.cells Fb _ _ F2.out (by decide) (Ne.symm hsB.out.1)
   have T3 : W3.heap[Tb]? = some (.cells (turnC t).toArray 120) := hk3.2.cells Tb _ _ K2.out (by decide) (Ne.symm hT.out.1)
   have B3 : Below W0.heap.size W0 W3 := B2.out.trans hk3.1
   have s3 : Fb < W3.heap.size := (Array.getElem?_eq_some_iff.1 F3).1
   have st3 : Tb < W3.heap.size := (Array.getElem?_eq_some_iff.1 T3).1
   obtain ⟨f0, z0⟩ := ca_at (ca_heap2 F3) 0 rfl
   obtain ⟨f1, z1⟩ := ca_at (ca_heap2 F3) 1 rfl
   obtain ⟨f2, z2⟩ := ca_at (ca_heap2 F3) 2 rfl
   obtain ⟨f3, z3⟩ := ca_at (ca_heap2 F3) 3 rfl
   obtain ⟨c0, _⟩ := ca_at (ca_heap2 T3) 0 rfl
   obtain ⟨c1, _⟩ := ca_at (ca_heap2 T3) 1 rfl
   obtain ⟨c2, _⟩ := ca_at (ca_heap2 T3) 2 rfl
   obtain ⟨c3, _⟩ := ca_at (ca_heap2 T3) 3 rfl
   have G := grown4 W3 Fb (.int .i64 t.stands) (.int .i64 t.clock) (.int .i64 t.save) (strV t.letter)
   have JN : Hid (J (Sx.stepsOf (ts.take (i + 1))) ((((W3.setCell ⟨Fb, 0, none⟩ (.int .i64 t.stands)).setCell ⟨Fb, 1, none⟩ (.int .i64 t.clock)).setCell ⟨Fb, 2, none⟩ (.int .i64 t.save)).setCell ⟨Fb, 3, none⟩ (strV t.letter))) := by
    show J _ _
    rw [HL.out]
    exact HJ.out _ _ _ _ hJ3 G (fun r e => by cases e; exact ⟨Nat.le_refl _, .inl rfl⟩)
   have BN := hid (B3.grown G B3.size (fun k e => by cases e; exact hsB.out.2))
   have FN : Hid (((((W3.setCell ⟨Fb, 0, none⟩ (.int .i64 t.stands)).setCell ⟨Fb, 1, none⟩ (.int .i64 t.clock)).setCell ⟨Fb, 2, none⟩ (.int .i64 t.save)).setCell ⟨Fb, 3, none⟩ (strV t.letter)).heap[Fb]? = some (.cells (turnC (Sx.lastT Sx.ago (ts.take (i + 1)))).toArray 120)) := by
    show _ = _
    rw [HN.out]
    exact put4 _ _ _ _ F3
   have SN : Hid (Fb < ((((W3.setCell ⟨Fb, 0, none⟩ (.int .i64 t.stands)).setCell ⟨Fb, 1, none⟩ (.int .i64 t.clock)).setCell ⟨Fb, 2, none⟩ (.int .i64 t.save)).setCell ⟨Fb, 3, none⟩ (strV t.letter)).heap.size) := Nat.lt_of_lt_of_le s3 G.size
   clear hk3 hJ3 B3 G F3 T3 F2 K2 B2
   gi_wp2
   go_roundw
   case rel => exact ⟨i + 1, by omega, by go_num, JN, BN, FN, SN⟩
   case measure => simp [intOf]; omega
  ·gi_wp2
   refine bodyPost_ret (results_none rfl _ _ _) rfl ?_
   exact ⟨⟨_, rfl⟩, .inr ⟨_, PX.out, hJx3⟩⟩
theorem steps_stops (n Bo Bs : Nat) (hn : 1 ≤ n) (ts : List Sx.Tn) (ra : Option Addr) (rcap : Nat) (W0 w : World) (h : RdTurns W0 (.slice ra ts.length rcap) ts) (hts : ts.length ≤ 10000)
  (cl : w.cell? ⟨Bo, 0, none⟩ = some (.slice ra ts.length rcap)) (hBo : Bo < w.heap.size) (hBs : Bs < w.heap.size) (hW : Below W0.heap.size W0 w) :
  SeqC Fence.wide n Tryz.prog 131 #[.pointer (some ⟨Bo, 0, none⟩)] (fun x : Sx.Tn × Sx.Tn => #[stepV x.1 x.2]) (Kp W0.heap.size 72 Bs) (fun ys => ys = Sx.stepsOf ts) (fun pre => pre <+: Sx.stepsOf ts) w :=
 fun l J Jx W hW1 hJ hJx hY h0 => steps1_in n l Bo Bs hn ts ra rcap W0 W h hts ((hW1.cell (p := ⟨Bo, 0, none⟩) hBo).trans cl) (Nat.lt_of_lt_of_le hBo hW1.size) (Nat.lt_of_lt_of_le hBs hW1.size) (hW.trans (hW1.mono hW.size)) J Jx hJ hY h0
end
section
open Go.RowKit Go.Shelf
attribute [local go_sem] Oper.semAt_some

namespace Sx
def close (x : Tn × Tn) : Bool := decide (x.2.stands - x.1.stands < 172800)
theorem close_apartFrom : ∀ (l : List Tn) (p : Tn), (stepsFrom p l).any close = !apartFrom p.stands l
 | [], p => rfl
 | t :: r, p => by
   simp only [stepsFrom, List.any_cons, close_apartFrom r t, apartFrom, close]
   cases apartFrom t.stands r <;> by_cases h : 172800 ≤ t.stands - p.stands <;> simp [h] <;> omega
theorem close_apart {l : List Tn} (h : ∀ t ∈ l, -1000000000000 ≤ t.stands) : (stepsOf l).any close = !apart l := by
 match l, h with
 | [], _ => rfl
 | t :: r, h =>
   have h1 := h t (by simp)
   simp only [stepsOf, stepsFrom, List.any_cons, close_apartFrom, apart, close, ago]
   rw [decide_eq_false (by omega)]
   rfl
end Sx
def stepC (x : Sx.Tn × Sx.Tn) : List Value := [.int .i64 x.1.stands, .int .i64 x.1.clock, .int .i64 x.1.save, strV x.1.letter, .int .i64 x.2.stands, .int .i64 x.2.clock, .int .i64 x.2.save, strV x.2.letter]
def noT : Sx.Tn := ⟨0, 0, 0, []⟩
def noS : Sx.Tn × Sx.Tn := (noT, noT)
theorem steps_any (ra : Option Addr) (n rcap : Nat) (w : World) :
  Calls Tryz.prog 68 #[.slice ra n rcap] w fun e w' => e = .returned (.func (.func 131) #[] #[.pointer (some ⟨w.heap.size, 0, none⟩)]) ∧ w' = w.alloc (.cells #[.slice ra n rcap] 110) := by
 go_enter Tryz.func68, Tryz.ntmps68
 go_wp2
 go_ret
 exact ⟨rfl, rfl⟩
theorem check1_any (x : Sx.Tn × Sx.Tn) (w : World) (h1 : -2000000000000 ≤ x.1.stands) (h2 : x.1.stands ≤ 2000000000000) (h3 : -2000000000000 ≤ x.2.stands) (h4 : x.2.stands ≤ 2000000000000) :
  Calls Tryz.prog 130 #[stepV x.1 x.2] w fun e w' => e = .returned (.bool (Sx.close x)) ∧ Below w.heap.size w w' := by
 obtain ⟨p, t⟩ := x
 dsimp only at h1 h2 h3 h4 ⊢
 have EC : Hid (Sx.close (p, t) = decide (t.stands - p.stands < 172800)) := rfl
 go_enter Tryz.func130, Tryz.ntmps130
 go_wp2
 go_ret
 exact ⟨by rw [EC.out]; rfl, (Below.refl _ _).alloc (Nat.le_refl _) _⟩
theorem ownC_heap {β : Type} {B k : Nat} {o : Obj} (h : k < B) : OwnC B (fun (_ : β) W => W.heap[k]? = some o) :=
 fun _ W W' row hs hg hr => (hg.block k (Array.getElem?_eq_some_iff.1 hs).1 (fun e => by have := (hr k e.symm).1; omega)).trans hs
theorem ownC_pure {β : Type} {B : Nat} (p : β → Prop) : OwnC B (fun s (_ : World) => p s) := fun _ _ _ _ hs _ _ => hs
theorem kpC_t {n₀ Bs : Nat} {T : TypeId} {A B C : World} (h : Kp n₀ T Bs A B) (k : Kp n₀ T Bs B C) : Kp n₀ T Bs A C := ⟨h.1.trans k.1, keepT_t h.2 k.2⟩
theorem kpC_b {n₀ Bs : Nat} {T : TypeId} {w : World} (hn : n₀ ≤ w.heap.size) (W : World) (l : Nat) (o o' : Obj) (a : w.heap.size ≤ l) (b : W.heap[l]? = some o) (c : o.isCells = false) (d : o.isWalk = false) : Kp n₀ T Bs W (W.putObj l o') :=
 ⟨belowK_b hn W l o o' a b c d, keepT_b (w := w) W l o o' a b c d⟩
theorem kp_grow {n₀ Bs : Nat} {T : TypeId} {W W' : World} (hb : Below W.heap.size W W') (hn : n₀ ≤ W.heap.size) : Kp n₀ T Bs W W' :=
 ⟨hb.mono hn, hb.size, fun k cs t a _ _ => by rw [hb.block k (Array.getElem?_eq_some_iff.1 a).1]; exact a⟩
theorem keeps_below {W W' : World} (hb : Below W.heap.size W W') : KeepsOthers W W' :=
 ⟨hb.size, fun k o hk _ => (hb.block k (Array.getElem?_eq_some_iff.1 hk).1).trans hk⟩
theorem ownC_ex {β γ : Type} {B : Nat} {I : γ → β → World → Prop} (h : ∀ x, OwnC B (I x)) : OwnC B (fun s W => ∃ x, I x s W) :=
 fun s W W' row ⟨x, hs⟩ hg hr => ⟨x, h x s W W' row hs hg hr⟩
theorem steps_mem : ∀ (l : List Sx.Tn) (p : Sx.Tn) (x : Sx.Tn × Sx.Tn), x ∈ Sx.stepsFrom p l → (x.1 = p ∨ x.1 ∈ l) ∧ x.2 ∈ l
 | [], p, x, h => by simp [Sx.stepsFrom] at h
 | t :: r, p, x, h => by
   simp only [Sx.stepsFrom, List.mem_cons] at h
   rcases h with rfl | h
   ·exact ⟨.inl rfl, by simp⟩
   ·have := steps_mem r t x h
    exact ⟨.inr (by rcases this.1 with e | e <;> simp [e]), by simp [this.2]⟩
theorem prefix_mem {α : Type} {pre l : List α} {x : α} (h : pre ++ [x] <+: l) : x ∈ l := h.subset (by simp)
theorem below_put {n : Nat} {A B : World} (h : Below n A B) {k : Nat} (hk : n ≤ k) (c : Nat) (v : Value) : Below n A (B.setCell ⟨k, c, none⟩ v) := below_set h hk v
theorem put_at {W : World} {b : Nat} {t : TypeId} {cs : Array Value} (h : W.heap[b]? = some (.cells cs t)) (i : Nat) (v : Value) : (W.setCell ⟨b, i, none⟩ v).heap[b]? = some (.cells (cs.setIfInBounds i v) t) := by
 obtain ⟨hlt, e⟩ := Array.getElem?_eq_some_iff.1 h
 simp [World.setCell, Array.getElem?_modify, h]
theorem put8 {W : World} {b : Nat} {t : TypeId} {c0 c1 c2 c3 c4 c5 c6 c7 : Value} (v0 v1 v2 v3 v4 v5 v6 v7 : Value) (h : W.heap[b]? = some (.cells #[c0, c1, c2, c3, c4, c5, c6, c7] t)) :
  ((((((((W.setCell ⟨b, 0, none⟩ v0).setCell ⟨b, 1, none⟩ v1).setCell ⟨b, 2, none⟩ v2).setCell ⟨b, 3, none⟩ v3).setCell ⟨b, 4, none⟩ v4).setCell ⟨b, 5, none⟩ v5).setCell ⟨b, 6, none⟩ v6).setCell ⟨b, 7, none⟩ v7).heap[b]? = some (.cells #[v0, v1, v2, v3, v4, v5, v6, v7] t) := by
 have e := put_at (put_at (put_at (put_at (put_at (put_at (put_at (put_at h 0 v0) 1 v1) 2 v2) 3 v3) 4 v4) 5 v5) 6 v6) 7 v7
 simp only [List.setIfInBounds_toArray, List.set_cons_zero, List.set_cons_succ] at e
 exact e
theorem put1 {W : World} {b : Nat} {t : TypeId} {c0 : Value} (v0 : Value) (h : W.heap[b]? = some (.cells #[c0] t)) : (W.setCell ⟨b, 0, none⟩ v0).heap[b]? = some (.cells #[v0] t) := by
 obtain ⟨hlt, e⟩ := Array.getElem?_eq_some_iff.1 h
 simp [World.setCell, Array.getElem?_modify, h]
theorem grown_put {W W' : World} {b : Nat} (h : W.grownBy W' (some b)) (i : Nat) (v : Value) : W.grownBy (W'.setCell ⟨b, i, none⟩ v) (some b) :=
 ⟨h.os, h.tape, h.output, by simpa using h.size, fun k hk hn => (Below.heap_setCell _ _ _ _ (fun e => hn (by rw [e]))).trans (h.block k hk hn)⟩
theorem grown_same (W : World) (b : Nat) : W.grownBy W (some b) := ⟨rfl, rfl, rfl, Nat.le_refl _, fun _ _ _ => rfl⟩
theorem grown8 (W : World) (b : Nat) (v0 v1 v2 v3 v4 v5 v6 v7 : Value) : W.grownBy ((((((((W.setCell ⟨b, 0, none⟩ v0).setCell ⟨b, 1, none⟩ v1).setCell ⟨b, 2, none⟩ v2).setCell ⟨b, 3, none⟩ v3).setCell ⟨b, 4, none⟩ v4).setCell ⟨b, 5, none⟩ v5).setCell ⟨b, 6, none⟩ v6).setCell ⟨b, 7, none⟩ v7) (some b) :=
 grown_put (grown_put (grown_put (grown_put (grown_put (grown_put (grown_put (grown_put (grown_same W b) 0 v0) 1 v1) 2 v2) 3 v3) 4 v4) 5 v5) 6 v6) 7 v7
theorem keeps_grown {W W' : World} {b : Nat} {cs : Array Value} {t : TypeId} (hg : W.grownBy W' (some b)) (h : W.heap[b]? = some (.cells cs t)) : KeepsOthers W W' :=
 KeepsOthers.of_grownBy hg (fun j o e ho => by cases e; rw [h] at ho; cases ho; rfl)
theorem first_end {w W : World} {N D : Nat} {a : Act} {x : Sx.Tn × Sx.Tn} {b : Bool} (hN : w.heap.size = N) (h4 : a.tmps.getD 4 undef = .pointer (some ⟨N + 1, 0, none⟩)) (h5 : a.tmps.getD 5 undef = .pointer (some ⟨N + 1 + 1, 0, none⟩)) (hd : a.defers = [{ target := .collected D, args := #[] }])
  (i1 : W.heap[N + 1]? = some (.cells (stepC x).toArray 122)) (i2 : W.heap[N + 1 + 1]? = some (.cells #[.bool b] 4)) (hD : N + 1 + 1 < D) (hK : W.heap[D]? = some (.deferred (some []))) (hB : Below w.heap.size w W) :
  bodyPostM Fence.wide 4 Tryz.prog Tryz.f175 (fun e w' => ∃ p t : Sx.Tn, e = .returned (.tuple #[stepV p t, .bool b]) ∧ Below w.heap.size w w') .ret a W := by
 obtain ⟨tm, df⟩ := a
 dsimp only at h4 h5 hd
 subst hd
 rw [Array.getD_eq_getD_getElem?] at h4 h5
 have hX := belowK_b (w := w) (Nat.le_refl _) W D _ (.deferred none) (by omega) hK rfl rfl
 have j1 : (W.putObj D (.deferred none)).heap[N + 1]? = some (.cells (stepC x).toArray 122) := (World.putObj_heap_other (by omega)).trans i1
 have j2 : (W.putObj D (.deferred none)).heap[N + 1 + 1]? = some (.cells #[.bool b] 4) := (World.putObj_heap_other (by omega)).trans i2
 refine ⟨by simp, .inl ⟨_, _, rfl, run_takeDeferred hK, ?_⟩⟩
 have BX := hB.trans hX
 generalize W.putObj D (.deferred none) = X at j1 j2 BX ⊢
 obtain ⟨y0, _⟩ := ca_at (ca_heap2 j1) 0 rfl
 obtain ⟨y1, _⟩ := ca_at (ca_heap2 j1) 1 rfl
 obtain ⟨y2, _⟩ := ca_at (ca_heap2 j1) 2 rfl
 obtain ⟨y3, _⟩ := ca_at (ca_heap2 j1) 3 rfl
 obtain ⟨y4, _⟩ := ca_at (ca_heap2 j1) 4 rfl
 obtain ⟨y5, _⟩ := ca_at (ca_heap2 j1) 5 rfl
 obtain ⟨y6, _⟩ := ca_at (ca_heap2 j1) 6 rfl
 obtain ⟨y7, _⟩ := ca_at (ca_heap2 j1) 7 rfl
 have b0 := (ca_at (ca_heap2 (vs := [.bool b]) j2) 0 rfl).1
 clear j1 j2 i1 i2 hK hB hX
 refine ⟨.tuple #[stepV x.1 x.2, .bool b], ?_, x.1, x.2, rfl, BX⟩
 simp [results, Tryz.results175, go_sem, *]
theorem seekFirst_any (Bo : Nat) (ts : List Sx.Tn) (ra : Option Addr) (rcap : Nat) (w : World) (h : RdTurns w (.slice ra ts.length rcap) ts) (hts : ts.length ≤ 10000) (hbd : ∀ t ∈ ts, -1000000000000 ≤ t.stands ∧ t.stands ≤ 1000000000000)
  (cl : w.cell? ⟨Bo, 0, none⟩ = some (.slice ra ts.length rcap)) (hBo : Bo < w.heap.size) :
  Calls Tryz.prog 175 #[.func (.func 131) #[] #[.pointer (some ⟨Bo, 0, none⟩)], .func (.func 130) #[] #[]] w
   fun e w' => ∃ p t : Sx.Tn, e = .returned (.tuple #[stepV p t, .bool ((Sx.stepsOf ts).any Sx.close)]) ∧ Below w.heap.size w w' := by
 refine (callsIn_wide (n := 4)).1 ?_
 refine callsIn_of_wp_marks Tryz.func175 rfl trivial ?_ rfl
 simp only [Tryz.ntmps175, List.size_toArray, List.length_cons, List.length_nil, Nat.reduceAdd, Nat.reduceSub, Array.replicate_succ, Array.replicate_zero, List.push_toArray, List.append_toArray, List.nil_append, List.cons_append]
 gi_wp2
 obtain ⟨N, hN⟩ : ∃ N, w.heap.size = N := ⟨_, rfl⟩
 obtain ⟨V, hV⟩ : ∃ V, (((w.alloc (.cells #[.func (.func 130) #[] #[]] 195)).alloc (.cells (stepC noS).toArray 122)).alloc (.cells #[.bool false] 4)) = V := ⟨_, rfl⟩
 rw [show (((w.alloc (.cells #[.func (.func 130) #[] #[]] 195)).alloc (.cells #[.int .i64 0, .int .i64 0, .int .i64 0, .string ⟨#[]⟩, .int .i64 0, .int .i64 0, .int .i64 0, .string ⟨#[]⟩] 122)).alloc (.cells #[.bool false] 4)) = V from hV]
 have vS : V.heap.size = N + 3 := by rw [← hV, ← hN]; simp
 have v0 : V.heap[N]? = some (.cells #[.func (.func 130) #[] #[]] 195) := by
  rw [← hV, Below.heap_alloc _ _ _ (by simp; omega), Below.heap_alloc _ _ _ (by simp; omega), ← hN]; exact World.alloc_heap_new w _
 have v1 : V.heap[N + 1]? = some (.cells (stepC noS).toArray 122) := by
  rw [← hV, Below.heap_alloc _ _ _ (by simp; omega), ← hN]
  have := World.alloc_heap_new (w.alloc (.cells #[.func (.func 130) #[] #[]] 195)) (.cells (stepC noS).toArray 122)
  rwa [World.size_alloc] at this
 have v2 : V.heap[N + 1 + 1]? = some (.cells #[.bool false] 4) := by
  rw [← hV, ← hN]
  have := World.alloc_heap_new ((w.alloc (.cells #[.func (.func 130) #[] #[]] 195)).alloc (.cells (stepC noS).toArray 122)) (.cells #[.bool false] 4)
  rwa [World.size_alloc, World.size_alloc] at this
 have vB : Below w.heap.size w V := by
  rw [← hV]; exact (((Below.refl _ w).alloc (Nat.le_refl _) _).alloc (by simp) _).alloc (by simp; omega) _
 rw [hN]
 refine wpIn_range_c rfl (by omega) (gf := 131) (lb := #[.pointer (some ⟨Bo, 0, none⟩)]) rfl trivial (enters_of Tryz.func131 (by kernel_rfl) rfl)
  (steps_stops 3 Bo N (by omega) ts ra rcap w _ h hts ((vB.cell (p := ⟨Bo, 0, none⟩) hBo).trans cl) (Nat.lt_of_lt_of_le hBo vB.size) (by omega) vB) kpC_t (kpC_b (by omega)) (Below.refl _ _) (fun _ => rfl)
  (fun pre W => (W.heap[N]? = some (.cells #[.func (.func 130) #[] #[]] 195) ∧ W.heap[N + 1]? = some (.cells (stepC noS).toArray 122) ∧ W.heap[N + 1 + 1]? = some (.cells #[.bool false] 4)) ∧ Below w.heap.size w W ∧ pre.any Sx.close = false)
  (fun c pre W => c = .ret ∧ (∃ x, W.heap[N + 1]? = some (.cells (stepC x).toArray 122)) ∧ W.heap[N + 1 + 1]? = some (.cells #[.bool true] 4) ∧ Below w.heap.size w W ∧ pre.any Sx.close = true)
  (OwnC.and (OwnC.and (ownC_heap (by omega)) (OwnC.and (ownC_heap (by omega)) (ownC_heap (by omega)))) (OwnC.and (ownC_below (Nat.le_refl _) (by omega)) (ownC_pure _)))
  (fun c => OwnC.and (ownC_pure _) (OwnC.and (ownC_ex fun x => ownC_heap (by omega)) (OwnC.and (ownC_heap (by omega)) (OwnC.and (ownC_below (Nat.le_refl _) (by omega)) (ownC_pure _)))))
  ⟨⟨v0, v1, v2⟩, vB, rfl⟩
  (fun x a' W => ∃ Bx, N + 1 + 1 < Bx ∧ W.heap[Bx]? = some (.cells (stepC x).toArray 122 (0, 0)) ∧ a' = { tmps := #[.func (.func 131) #[] #[.pointer (some ⟨Bo, 0, none⟩)], .func (.func 130) #[] #[], undef, .pointer (some ⟨N, 0, none⟩), .pointer (some ⟨N + 1, 0, none⟩), .pointer (some ⟨N + 1 + 1, 0, none⟩), .pointer (some ⟨Bx, 0, none⟩), undef, .func (.func 131) #[] #[.pointer (some ⟨Bo, 0, none⟩)], stepV x.1 x.2, undef, undef, undef, undef, undef], defers := [] })
  ?hAx ?assign ?body ?done ?stop
 case hAx =>
  rintro x a' _ X Y row ⟨Bx, q1, q2, q3⟩ hg hr
  refine ⟨Bx, q1, ?_, q3⟩
  rw [hg.block Bx (Array.getElem?_eq_some_iff.1 q2).1 (fun e => by obtain ⟨_, o, ho, hc⟩ := hr Bx e.symm; rw [q2] at ho; cases ho; simp [Obj.isCells] at hc)]
  exact q2
 case assign =>
  rintro l pre ⟨p, t⟩ W K ⟨⟨i0, i1, i2⟩, iB, iP⟩ sz hK
  rw [vS] at sz
  have KB := hid ((Below.refl W.heap.size W).alloc (Nat.le_refl _) (.cells (stepC (p, t)).toArray 122))
  have R := hid (hK { tmps := #[.func (.func 131) #[] #[.pointer (some ⟨Bo, 0, none⟩)], .func (.func 130) #[] #[], undef, .pointer (some ⟨N, 0, none⟩), .pointer (some ⟨N + 1, 0, none⟩), .pointer (some ⟨N + 1 + 1, 0, none⟩), .pointer (some ⟨W.heap.size, 0, none⟩), undef, .func (.func 131) #[] #[.pointer (some ⟨Bo, 0, none⟩)], stepV p t, undef, undef, undef, undef, undef], defers := [] } (W.alloc (.cells (stepC (p, t)).toArray 122)) ((KeepsOthers.alloc _ _).from _) (kp_grow KB.out iB.size)
   ⟨⟨(KB.out.block _ (Array.getElem?_eq_some_iff.1 i0).1).trans i0, (KB.out.block _ (Array.getElem?_eq_some_iff.1 i1).1).trans i1, (KB.out.block _ (Array.getElem?_eq_some_iff.1 i2).1).trans i2⟩, iB.alloc iB.size _, iP⟩ ⟨W.heap.size, by omega, World.alloc_heap_new W _, rfl⟩)
  clear hK i0 i1 i2
  gi_wp2
  exact R.out
 case body =>
  rintro l pre ⟨p, t⟩ a' W hl ⟨r, hr⟩ ⟨⟨i0, i1, i2⟩, iB, iP⟩ ⟨Bx, hBx, hX, rfl⟩ hpx sz
  have hm := steps_mem ts Sx.ago (p, t) (prefix_mem hpx)
  dsimp only at hm
  have hb1 : -2000000000000 ≤ p.stands ∧ p.stands ≤ 2000000000000 := by
   rcases hm.1 with rfl | e
   ·simp [Sx.ago]
   ·have := hbd _ e; omega
  have hb2 := hbd _ hm.2
  have HC := hid (check1_any (p, t) W hb1.1 hb1.2 (by dsimp only; omega) (by dsimp only; omega))
  obtain ⟨x0, _⟩ := ca_at (ca_heap2 hX) 0 rfl
  obtain ⟨x1, _⟩ := ca_at (ca_heap2 hX) 1 rfl
  obtain ⟨x2, _⟩ := ca_at (ca_heap2 hX) 2 rfl
  obtain ⟨x3, _⟩ := ca_at (ca_heap2 hX) 3 rfl
  obtain ⟨x4, _⟩ := ca_at (ca_heap2 hX) 4 rfl
  obtain ⟨x5, _⟩ := ca_at (ca_heap2 hX) 5 rfl
  obtain ⟨x6, _⟩ := ca_at (ca_heap2 hX) 6 rfl
  obtain ⟨x7, _⟩ := ca_at (ca_heap2 hX) 7 rfl
  have f0 := (ca_at (ca_heap2 (vs := [.func (.func 130) #[] #[]]) i0) 0 rfl).1
  have sx := (Array.getElem?_eq_some_iff.1 hX).1
  have s0 := (Array.getElem?_eq_some_iff.1 i0).1
  have HX := hid hX
  have I0 := hid i0
  have I1 := hid i1
  have I2 := hid i2
  have IB := hid iB
  clear hm hb1 hb2 hX i0 i1 i2 iB hr hpx
  dsimp only at HC
  obtain ⟨C, hC⟩ : ∃ C, Sx.close (p, t) = C := ⟨_, rfl⟩
  rw [hC] at HC
  have HCC := hid hC
  have IP := hid iP
  have SV : Hid (V.heap.size = N + 3 ∧ w.heap.size = N) := ⟨vS, hN⟩
  clear hC iP
  cases C
  case false =>
   gi_wp2_with (refine ⟨trivial, ?_⟩; gi_at_call 130; refine (CallsIn.inRound l (callsIn_wide.2 HC.out)).mono ?_; rintro e w1 ⟨rfl, hb⟩)
   refine ⟨(keeps_below hb).from _, kp_grow hb IB.out.size, ⟨(hb.block _ (Array.getElem?_eq_some_iff.1 I0.out).1).trans I0.out, (hb.block _ (Array.getElem?_eq_some_iff.1 I1.out).1).trans I1.out, (hb.block _ (Array.getElem?_eq_some_iff.1 I2.out).1).trans I2.out⟩, IB.out.trans (hb.mono IB.out.size), ?_⟩
   rw [List.any_append, IP.out]; simp [HCC.out]
  case true =>
   gi_wp2_with (refine ⟨trivial, ?_⟩; gi_at_call 130; refine (CallsIn.inRound l (callsIn_wide.2 HC.out)).mono ?_; rintro e w1 ⟨rfl, hb⟩; have HB := hid hb; have CX := ca_below (ca_heap2 HX.out) hb; obtain ⟨y0, _⟩ := ca_at CX 0 rfl; obtain ⟨y1, _⟩ := ca_at CX 1 rfl; obtain ⟨y2, _⟩ := ca_at CX 2 rfl; obtain ⟨y3, _⟩ := ca_at CX 3 rfl; obtain ⟨y4, _⟩ := ca_at CX 4 rfl; obtain ⟨y5, _⟩ := ca_at CX 5 rfl; obtain ⟨y6, _⟩ := ca_at CX 6 rfl; obtain ⟨y7, _⟩ := ca_at CX 7 rfl; have CR := ca_below (ca_heap2 I1.out) hb; obtain ⟨r0, q0⟩ := ca_at CR 0 rfl; obtain ⟨r1, q1⟩ := ca_at CR 1 rfl; obtain ⟨r2, q2⟩ := ca_at CR 2 rfl; obtain ⟨r3, q3⟩ := ca_at CR 3 rfl; obtain ⟨r4, q4⟩ := ca_at CR 4 rfl; obtain ⟨r5, q5⟩ := ca_at CR 5 rfl; obtain ⟨r6, q6⟩ := ca_at CR 6 rfl; obtain ⟨r7, q7⟩ := ca_at CR 7 rfl; have CB := ca_below (ca_heap2 (vs := [.bool false]) I2.out) hb; obtain ⟨b0, b1⟩ := ca_at CB 0 rfl; have sR := CR.1; have sB := CB.1; clear hb CX CR CB)
   have G1 := grown8 w1 (N + 1) (.int .i64 p.stands) (.int .i64 p.clock) (.int .i64 p.save) (strV p.letter) (.int .i64 t.stands) (.int .i64 t.clock) (.int .i64 t.save) (strV t.letter)
   have hb := HB.out
   have e1 := (hb.block _ (Array.getElem?_eq_some_iff.1 I1.out).1).trans I1.out
   have e2 := (hb.block _ (Array.getElem?_eq_some_iff.1 I2.out).1).trans I2.out
   have p1 := put8 (.int .i64 p.stands) (.int .i64 p.clock) (.int .i64 p.save) (strV p.letter) (.int .i64 t.stands) (.int .i64 t.clock) (.int .i64 t.save) (strV t.letter) e1
   have p2 := (G1.block (N + 1 + 1) (Array.getElem?_eq_some_iff.1 e2).1 (by simp)).trans e2
   have p3 := put1 (.bool true) p2
   have G2 := grownBy_setCell' ((((((((w1.setCell ⟨N + 1, 0, none⟩ (.int .i64 p.stands)).setCell ⟨N + 1, 1, none⟩ (.int .i64 p.clock)).setCell ⟨N + 1, 2, none⟩ (.int .i64 p.save)).setCell ⟨N + 1, 3, none⟩ (strV p.letter)).setCell ⟨N + 1, 4, none⟩ (.int .i64 t.stands)).setCell ⟨N + 1, 5, none⟩ (.int .i64 t.clock)).setCell ⟨N + 1, 6, none⟩ (.int .i64 t.save)).setCell ⟨N + 1, 7, none⟩ (strV t.letter)) (N + 1 + 1) (.bool true)
   have B1 := IB.out.trans (hb.mono IB.out.size)
   have B2 := B1.grown G1 B1.size (fun k e => by cases e; have := SV.out; omega)
   have B3 := B2.grown G2 B2.size (fun k e => by cases e; have := SV.out; omega)
   refine ⟨(((keeps_below hb).trans (keeps_grown G1 e1)).trans (keeps_grown G2 p2)).from _, rfl, ⟨(p, t), ?_⟩, p3, B3, ?_⟩
   ·exact (G2.block (N + 1) (Array.getElem?_eq_some_iff.1 p1).1 (by simp)).trans p1
   ·rw [List.any_append]; simp [HCC.out]
 case done =>
  rintro D ys W hD rfl ⟨⟨i0, i1, i2⟩, iB, iP⟩ hK
  rw [vS] at hD
  have hD0 : N + 1 + 1 < D := by omega
  have CR := ca_heap2 i1
  have CB := ca_heap2 (vs := [.bool false]) i2
  obtain ⟨r0, q0⟩ := ca_at CR 0 rfl
  obtain ⟨r1, q1⟩ := ca_at CR 1 rfl
  obtain ⟨r2, q2⟩ := ca_at CR 2 rfl
  obtain ⟨r3, q3⟩ := ca_at CR 3 rfl
  obtain ⟨r4, q4⟩ := ca_at CR 4 rfl
  obtain ⟨r5, q5⟩ := ca_at CR 5 rfl
  obtain ⟨r6, q6⟩ := ca_at CR 6 rfl
  obtain ⟨r7, q7⟩ := ca_at CR 7 rfl
  obtain ⟨b0, b1⟩ := ca_at CB 0 rfl
  have sR := CR.1
  have sB := CB.1
  have HK := hid hK
  have IB := hid iB
  have IP := hid iP
  have I1 := hid i1
  have I2 := hid i2
  clear i0 i1 i2 CR CB hK iB iP v0 v1 v2 vB hV vS h hbd cl
  gi_wp2
  have G0 := World.grownBy_alloc W (.cells (stepC noS).toArray 122) none
  have G1 := grown8 W (N + 1) (.int .i64 0) (.int .i64 0) (.int .i64 0) (.string ⟨#[]⟩) (.int .i64 0) (.int .i64 0) (.int .i64 0) (.string ⟨#[]⟩)
  have p1 := put8 (.int .i64 0) (.int .i64 0) (.int .i64 0) (.string ⟨#[]⟩) (.int .i64 0) (.int .i64 0) (.int .i64 0) (.string ⟨#[]⟩) I1.out
  have p2 := (G1.block (N + 1 + 1) (Array.getElem?_eq_some_iff.1 I2.out).1 (by simp)).trans I2.out
  have p3 := put1 (.bool false) p2
  have G2 := grownBy_setCell' ((((((((W.setCell ⟨N + 1, 0, none⟩ (.int .i64 0)).setCell ⟨N + 1, 1, none⟩ (.int .i64 0)).setCell ⟨N + 1, 2, none⟩ (.int .i64 0)).setCell ⟨N + 1, 3, none⟩ (.string ⟨#[]⟩)).setCell ⟨N + 1, 4, none⟩ (.int .i64 0)).setCell ⟨N + 1, 5, none⟩ (.int .i64 0)).setCell ⟨N + 1, 6, none⟩ (.int .i64 0)).setCell ⟨N + 1, 7, none⟩ (.string ⟨#[]⟩)) (N + 1 + 1) (.bool false)
  have p4 := (G2.block (N + 1) (Array.getElem?_eq_some_iff.1 p1).1 (by simp)).trans p1
  have d1 := (G1.block D (Array.getElem?_eq_some_iff.1 HK.out).1 (by simp; omega)).trans HK.out
  have d2 := (G2.block D (Array.getElem?_eq_some_iff.1 d1).1 (by simp; omega)).trans d1
  have B2 := IB.out.grown G1 IB.out.size (fun k e => by cases e; omega)
  have B3 := B2.grown G2 B2.size (fun k e => by cases e; omega)
  have B4 := B3.alloc B3.size (.cells (stepC noS).toArray 122)
  rw [show (Sx.stepsOf ts).any Sx.close = false from IP.out]
  exact first_end (x := noS) hN rfl rfl rfl ((Below.heap_alloc _ _ _ (Array.getElem?_eq_some_iff.1 p4).1).trans p4) ((Below.heap_alloc _ _ _ (Array.getElem?_eq_some_iff.1 p3).1).trans p3) hD0 ((Below.heap_alloc _ _ _ (Array.getElem?_eq_some_iff.1 d2).1).trans d2) B4
 case stop =>
  rintro D c pre W hD hpre ⟨rfl, ⟨x, i1⟩, i2, iB, iP⟩ hK
  rw [vS] at hD
  have hA : (Sx.stepsOf ts).any Sx.close = true := by
   obtain ⟨r, hr⟩ := hpre
   rw [← hr, List.any_append, iP]; rfl
  have E := hid (first_end (a := { tmps := #[.func (.func 131) #[] #[.pointer (some ⟨Bo, 0, none⟩)], .func (.func 130) #[] #[], undef, .pointer (some ⟨N, 0, none⟩), .pointer (some ⟨N + 1, 0, none⟩), .pointer (some ⟨N + 1 + 1, 0, none⟩), undef, undef, .func (.func 131) #[] #[.pointer (some ⟨Bo, 0, none⟩)], undef, undef, undef, undef, undef, undef], defers := [{ target := .collected D, args := #[] }] }) hN rfl rfl rfl i1 i2 (show N + 1 + 1 < D by omega) hK iB)
  have HA := hid hA
  clear v0 v1 v2 vB hV vS h hbd cl i1 i2 hK iB iP hA
  gi_wp2
  rw [HA.out]
  exact E.out
theorem seekHas_any (Bo : Nat) (ts : List Sx.Tn) (ra : Option Addr) (rcap : Nat) (w : World) (h : RdTurns w (.slice ra ts.length rcap) ts) (hts : ts.length ≤ 10000) (hbd : ∀ t ∈ ts, -1000000000000 ≤ t.stands ∧ t.stands ≤ 1000000000000)
  (cl : w.cell? ⟨Bo, 0, none⟩ = some (.slice ra ts.length rcap)) (hBo : Bo < w.heap.size) :
  Calls Tryz.prog 129 #[.func (.func 131) #[] #[.pointer (some ⟨Bo, 0, none⟩)], .func (.func 130) #[] #[]] w
   fun e w' => e = .returned (.bool ((Sx.stepsOf ts).any Sx.close)) ∧ Below w.heap.size w w' := by
 have C := hid (seekFirst_any Bo ts ra rcap w h hts hbd cl hBo)
 clear h hbd cl
 go_enter Tryz.func129, Tryz.ntmps129
 go_wp2_with fail
 refine C.out.mono ?_
 rintro e w1 ⟨p, t, rfl, hb⟩
 have HB := hid hb
 clear hb
 go_wp2
 go_ret
 exact ⟨rfl, HB.out.alloc HB.out.size _⟩
/- what is wrong with turns in order -/
def turnsE (ts : List Sx.Tn) : Int := if ts.isEmpty = true then 5 else if (Sx.stepsOf ts).any Sx.close = true then 4 else if 1000 < ts.length then 2 else 0
theorem checkTurns_any (ts : List Sx.Tn) (v : Value) (w : World) (h : RdTurns w v ts) (hts : ts.length ≤ 10000) (hbd : ∀ t ∈ ts, -1000000000000 ≤ t.stands ∧ t.stands ≤ 1000000000000) :
  Calls Tryz.prog 67 #[v] w fun e w' => e = .returned (.int .i64 (turnsE ts)) ∧ Below w.heap.size w w' := by
 obtain ⟨ra, rcap, rfl⟩ := rd_shape h
 by_cases he : ts = []
 ·subst he
  have hz : Hid (turnsE [] = 5) := rfl
  clear h hts hbd
  go_enter Tryz.func67, Tryz.ntmps67
  go_wp2
  go_ret
  exact ⟨ret_int hz.out.symm, Below.refl _ _⟩
 have hl : ts.length ≠ 0 := fun q => he (List.length_eq_zero_iff.1 q)
 have hl0 : (ts.length == 0) = false := by simp [he]
 have hz : (((ts.length : Int)) == 0) = false := by simp; exact he
 have B1 := hid ((Below.refl w.heap.size w).alloc (Nat.le_refl _) (.cells #[.slice ra ts.length rcap] 110))
 have C := hid (seekHas_any w.heap.size ts ra rcap (w.alloc (.cells #[.slice ra ts.length rcap] 110)) (rd_below h B1.out) hts hbd (ca_at (ca_new w [.slice ra ts.length rcap] 110) 0 rfl).1 (by simp))
 obtain ⟨A, hA⟩ : ∃ A, (Sx.stepsOf ts).any Sx.close = A := ⟨_, rfl⟩
 have HE : Hid (turnsE ts = if A = true then 4 else if 1000 < ts.length then 2 else 0) := by
  show _ = _
  unfold turnsE
  rw [if_neg (by simp [he]), hA]
 rw [hA] at C
 clear h hbd hA
 cases A
 case true =>
  go_enter Tryz.func67, Tryz.ntmps67
  go_wp2_with (first | (go_at_call 68; refine (steps_any _ _ _ _).mono ?_; rintro e w1 ⟨rfl, rfl⟩) | (go_at_call 129; refine C.out.mono ?_; rintro e w1 ⟨rfl, hb⟩))
  go_ret
  exact ⟨ret_int (by rw [HE.out]; rfl), B1.out.trans (hb.mono B1.out.size)⟩
 case false =>
  by_cases hm : 1000 < ts.length
  ·have HE2 : Hid (turnsE ts = 2) := by show _ = _; rw [HE.out, if_neg (by decide), if_pos hm]
   go_enter Tryz.func67, Tryz.ntmps67
   go_wp2_with (first | (go_at_call 68; refine (steps_any _ _ _ _).mono ?_; rintro e w1 ⟨rfl, rfl⟩) | (go_at_call 129; refine C.out.mono ?_; rintro e w1 ⟨rfl, hb⟩))
   go_ret
   exact ⟨ret_int HE2.out.symm, B1.out.trans (hb.mono B1.out.size)⟩
  ·have HE2 : Hid (turnsE ts = 0) := by show _ = _; rw [HE.out, if_neg (by decide), if_neg hm]
   go_enter Tryz.func67, Tryz.ntmps67
   go_wp2_with (first | (go_at_call 68; refine (steps_any _ _ _ _).mono ?_; rintro e w1 ⟨rfl, rfl⟩) | (go_at_call 129; refine C.out.mono ?_; rintro e w1 ⟨rfl, hb⟩))
   go_ret
   exact ⟨ret_int HE2.out.symm, B1.out.trans (hb.mono B1.out.size)⟩
end
section
open Go.RowKit
theorem own_cell {w : World} {B g cap n z : Nat} {e : TypeId} {xs : List Value} (h : w.ownsRow B e z (.slice (some ⟨g, 0, none⟩) n cap) n xs) {j : Nat} (u : Value) : (w.setCell ⟨g, j, none⟩ u).ownsRow B e z (.slice (some ⟨g, 0, none⟩) n cap) n (xs.set j u) := by
 obtain ⟨h1, h2⟩ := h
 refine ⟨by rw [List.length_set]; exact h1, ?_⟩
 rcases h2 with ⟨q, _⟩ | ⟨g', cap', cur, hv, hg, hh, r1, r2, r3, r4⟩
 ·cases q
 ·simp only [Value.slice.injEq, Option.some.injEq, Addr.mk.injEq] at hv
  obtain ⟨⟨rfl, _, _⟩, _, rfl⟩ := hv
  refine .inr ⟨g, cap, cur.setIfInBounds j u, rfl, hg, put_at hh j u, r1, r2, by simpa using r3, ?_⟩
  rw [Array.toList_setIfInBounds, List.take_set, r4]
abbrev setRow (w : World) (g o : Nat) (cs : List Value) : World := w.setCells g o cs
def setL : List Value → Nat → List Value → List Value
 | xs, _, [] => xs
 | xs, o, u :: r => setL (xs.set o u) (o + 1) r
theorem own_setRow {B g cap n z : Nat} {e : TypeId} : ∀ (cs : List Value) {w : World} {o : Nat} {xs : List Value}, w.ownsRow B e z (.slice (some ⟨g, 0, none⟩) n cap) n xs → (setRow w g o cs).ownsRow B e z (.slice (some ⟨g, 0, none⟩) n cap) n (setL xs o cs)
 | [], _, _, _, h => h
 | u :: r, w, o, xs, h => own_setRow r (own_cell h u)
theorem below_setRow {N g : Nat} {A : World} (hg : N ≤ g) : ∀ (cs : List Value) {w : World} {o : Nat}, Below N A w → Below N A (setRow w g o cs)
 | [], _, _, h => h
 | u :: r, w, o, h => below_setRow hg r (below_put h hg o u)
theorem ca_setRow {X g : Nat} {vs : List Value} (hX : ¬ X = g) : ∀ (cs : List Value) {w : World} {o : Nat}, CellsAt w X vs → CellsAt (setRow w g o cs) X vs
 | [], _, _, h => h
 | u :: r, w, o, h => ca_setRow hX r (ca_far h hX)
theorem setL_mid : ∀ (C P A Q : List Value), A.length = C.length → setL (P ++ A ++ Q) P.length C = P ++ C ++ Q
 | [], P, [], Q, _ => rfl
 | [], P, a :: A, Q, h => by simp at h
 | c :: C, P, [], Q, h => by simp at h
 | c :: C, P, a :: A, Q, h => by
   have e : (P ++ (a :: A) ++ Q).set P.length c = (P ++ [c]) ++ A ++ Q := by
    rw [List.append_assoc, List.set_append_right _ _ (Nat.le_refl _), Nat.sub_self]
    simp
   show setL ((P ++ (a :: A) ++ Q).set P.length c) (P.length + 1) C = _
   rw [e, show P.length + 1 = (P ++ [c]).length by simp, setL_mid C (P ++ [c]) A Q (by simpa using h)]
   simp
theorem flat_lenE {α : Type} {z : Nat} {cells : α → List Value} (hz : ∀ a, (cells a).length = z) : ∀ l : List α, (l.flatMap cells).length = l.length * z
 | [] => by simp
 | a :: r => by rw [List.flatMap_cons, List.length_append, hz, flat_lenE hz r, List.length_cons, Nat.succ_mul]; omega
theorem setL_flat {α : Type} {z : Nat} {cells : α → List Value} (hz : ∀ a, (cells a).length = z) {l : List α} {k : Nat} (x : α) (hk : k < l.length) : setL (l.flatMap cells) (k * z) (cells x) = (l.set k x).flatMap cells := by
 have e : l = l.take k ++ l[k] :: l.drop (k + 1) := by rw [← List.drop_eq_getElem_cons hk, List.take_append_drop]
 have lk : (l.take k).length = k := by rw [List.length_take]; omega
 have e2 : l.set k x = l.take k ++ x :: l.drop (k + 1) := List.set_eq_take_append_cons_drop.trans (by rw [if_pos hk])
 have e3 : l.flatMap cells = (l.take k).flatMap cells ++ cells l[k] ++ (l.drop (k + 1)).flatMap cells := by
  conv => lhs; rw [e]
  rw [List.flatMap_append, List.flatMap_cons, List.append_assoc]
 rw [e2, e3, List.flatMap_append, List.flatMap_cons]
 have lz : k * z = ((l.take k).flatMap cells).length := by rw [flat_lenE hz, lk]
 rw [lz, setL_mid _ _ _ _ (by rw [hz, hz])]
 simp
theorem own_elem {α : Type} {B g cap n z : Nat} {e : TypeId} {cells : α → List Value} (hz : ∀ a, (cells a).length = z) {w : World} {l : List α} (h : w.ownsRow B e z (.slice (some ⟨g, 0, none⟩) n cap) n (l.flatMap cells)) {k : Nat} (x : α) (hk : k < l.length) :
  (setRow w g (k * z) (cells x)).ownsRow B e z (.slice (some ⟨g, 0, none⟩) n cap) n ((l.set k x).flatMap cells) := by
 rw [← setL_flat hz x hk]; exact own_setRow _ h
/- turns with their rules -/
def trnCells (p : Sx.Trn) : List Value := .int .i64 p.1 :: ruleCells p.2
theorem trnCells_len (p : Sx.Trn) : (trnCells p).length = 12 := rfl
def OwnTrn (w : World) (B : Nat) (v : Value) (l : List Sx.Trn) : Prop := w.ownsRow B 189 12 v l.length (l.flatMap trnCells)
theorem ownTrn_below {W w' : World} {B : Nat} {v : Value} {l : List Sx.Trn} (h : OwnTrn W B v l) (hb : Below W.heap.size W w') : OwnTrn w' B v l := owns_below h hb
theorem ownTrn_nil (w : World) (B : Nat) : OwnTrn w B (.slice none 0 0) [] := World.ownsRow_nil _ _ _ _
theorem ownTrn_rd {w : World} {B : Nat} {v : Value} {l : List Sx.Trn} (h : OwnTrn w B v l) : Rd 12 trnCells w v l := own_rd (fun _ => rfl) h
theorem ownTrn_swap {w : World} {B g cap : Nat} {l : List Sx.Trn} {k : Nat} {t x : Sx.Trn} (hx : l[k]? = some x) (h : OwnTrn w B (.slice (some ⟨g, 0, none⟩) (l.length + 1) cap) (Sx.putAt l (k + 1) t)) :
  OwnTrn (setRow (setRow w g ((k + 1) * 12) (trnCells x)) g (k * 12) (trnCells t)) B (.slice (some ⟨g, 0, none⟩) (l.length + 1) cap) (Sx.putAt l k t) := by
 have hk : k < l.length := (List.getElem?_eq_some_iff.1 hx).1
 have hl := Sx.putAt_len l (k + 1) t
 unfold OwnTrn at h ⊢
 rw [hl] at h
 rw [Sx.putAt_len, ← Sx.putAt_swap hx]
 exact own_elem trnCells_len (own_elem trnCells_len h x (by omega)) t (by rw [List.length_set]; omega)
theorem trn_one (p : Sx.Trn) : ∀ u ∈ trnCells p, u.oneCell' = true := by
 intro u hu
 simp only [trnCells, ruleCells, List.mem_cons, List.not_mem_nil, or_false] at hu
 rcases hu with rfl | rfl | rfl | rfl | rfl | rfl | rfl | rfl | rfl | rfl | rfl | rfl <;> rfl
theorem Tryz.infoTrn : (Tryz.prog.info? 189).map (fun i => (i.zero, i.size, i.bytes)) = some (some (.agg #[.int .i64 0, .string ⟨#[]⟩, .int .i64 0, .int .i64 0, .int .i64 0, .int .i64 0, .int .i64 0, .int .i64 0, .int .i64 0, .int .i64 0, .int .i64 0, .string ⟨#[]⟩]), 12, 112) := by kernel_rfl
/- a block of so many cells, which a row of more than one element can't be -/
def Blk (w : World) (b : Nat) (e : TypeId) (z : Nat) : Prop := ∃ cs : Array Value, cs.size = z ∧ w.heap[b]? = some (.cells cs e (0, 0))
theorem blk_new (w : World) (vs : List Value) (e : TypeId) : Blk (w.alloc (.cells vs.toArray e)) w.heap.size e vs.length := ⟨vs.toArray, by simp, heap_alloc_new _ _⟩
theorem blk_below {w w' : World} {b : Nat} {e : TypeId} {z : Nat} (h : Blk w b e z) (hb : Below w.heap.size w w') : Blk w' b e z := by
 obtain ⟨cs, h1, h2⟩ := h
 exact ⟨cs, h1, (hb.block b (Array.getElem?_eq_some_iff.1 h2).1).trans h2⟩
theorem blk_set {w : World} {b : Nat} {e : TypeId} {z : Nat} (h : Blk w b e z) (o : Nat) (u : Value) : Blk (w.setCell ⟨b, o, none⟩ u) b e z := by
 obtain ⟨cs, h1, h2⟩ := h
 exact ⟨cs.setIfInBounds o u, by simpa using h1, put_at h2 o u⟩
theorem blk_setRow {b : Nat} {e : TypeId} {z : Nat} : ∀ (cs : List Value) {w : World} {o : Nat}, Blk w b e z → Blk (setRow w b o cs) b e z
 | [], _, _, h => h
 | u :: r, w, o, h => blk_setRow r (blk_set h o u)
theorem own_apart {w : World} {B b n z : Nat} {e e' : TypeId} {v : Value} {xs : List Value} (h : w.ownsRow B e z v (n + 2) xs) (hb : Blk w b e' z) (hz : 0 < z) : v.ownBlock ≠ some b := by
 intro q
 rcases h.2 with ⟨rfl, _⟩ | ⟨g, cap, cur, rfl, _, hh, h1, _, h2, _⟩
 ·simp [Value.ownBlock] at q
 ·simp [Value.ownBlock] at q
  subst q
  obtain ⟨cs, h3, h4⟩ := hb
  rw [hh] at h4
  simp at h4
  obtain ⟨rfl, _⟩ := h4
  rw [h2] at h3
  have : 2 * z ≤ cap * z := Nat.mul_le_mul_right z (by omega)
  omega
/- times of one's own -/
def OwnTm (w : World) (B : Nat) (v : Value) (l : List Sx.Tm) : Prop := w.ownsRow B 72 3 v l.length (l.flatMap timeC)
theorem ownTm_rd {w : World} {B : Nat} {v : Value} {l : List Sx.Tm} (h : OwnTm w B v l) : RdTimes w v l := own_rd (fun _ => rfl) h
theorem ownTm_nil (w : World) (B : Nat) : OwnTm w B (.slice none 0 0) [] := World.ownsRow_nil _ _ _ _
theorem tm_one (x : Sx.Tm) : ∀ u ∈ timeC x, u.oneCell' = true := by
 intro u hu; simp only [timeC, List.mem_cons, List.not_mem_nil, or_false] at hu; rcases hu with rfl | rfl | rfl <;> rfl
theorem Tryz.infoTm : (Tryz.prog.info? 72).map (fun i => (i.zero, i.size, i.bytes)) = some (some (.agg #[.int .i64 0, .int .i64 0, .string ⟨#[]⟩]), 3, 32) := by kernel_rfl
def TmEnd (rs : List Sx.Rl) (name : Tx.Bs) (shift : Int) (w : World) (e : Ending) (w' : World) : Prop :=
 ∃ v, e = .returned (.tuple #[v, .int .i64 (Sx.timesE rs name shift)]) ∧ OwnTm w' w.heap.size v (Sx.times rs name shift) ∧ Below w.heap.size w w'
theorem tm_none {rs : List Sx.Rl} {name : Tx.Bs} {shift E : Int} {w w' : World} (hE : Sx.timesE rs name shift = E) (h : E ≠ 0) (hb : Below w.heap.size w w') : TmEnd rs name shift w (.returned (.tuple #[.slice none 0 0, .int .i64 E])) w' := by
 refine ⟨_, by rw [hE], ?_, hb⟩
 have : Sx.times rs name shift = [] := by unfold Sx.times; rw [if_neg (by rw [hE]; exact h)]
 rw [this]; exact ownTm_nil _ _
theorem tm_good {rs : List Sx.Rl} {name : Tx.Bs} {shift : Int} {w w' : World} {v : Value} {l : List Sx.Tm} (hE : Sx.timesE rs name shift = 0) (hl : Sx.times rs name shift = l) (ho : OwnTm w' w.heap.size v l) (hb : Below w.heap.size w w') : TmEnd rs name shift w (.returned (.tuple #[v, .int .i64 0])) w' :=
 ⟨v, by rw [hE], hl ▸ ho, hb⟩
theorem ca_there {w : World} {X : Nat} {vs : List Value} (h : CellsAt w X vs) : w.there X 0 vs.length := fun j hj => by
 obtain ⟨a, b⟩ := h.2 j _ (List.getElem?_eq_getElem hj)
 rw [Nat.zero_add]
 exact ⟨by rw [a]; rfl, b⟩
theorem ca_setAll {X : Nat} : ∀ (cs pre old : List Value) {w : World}, old.length = cs.length → CellsAt w X (pre ++ old) → CellsAt (w.setCells X pre.length cs) X (pre ++ cs)
 | [], pre, [], w, _, h => h
 | [], pre, o :: old, w, hl, h => by simp at hl
 | c :: cs, pre, [], w, hl, h => by simp at hl
 | c :: cs, pre, o :: old, w, hl, h => by
   have h1 := ca_put h pre.length c (by simp)
   have e : (pre ++ o :: old).set pre.length c = (pre ++ [c]) ++ old := by
    rw [List.set_append_right _ _ (Nat.le_refl _), Nat.sub_self]; simp
   rw [e] at h1
   have h2 := ca_setAll cs (pre ++ [c]) old (by simpa using hl) h1
   rw [List.length_append] at h2
   have e2 : (pre ++ [c]) ++ cs = pre ++ c :: cs := by simp
   rw [e2] at h2
   exact h2
theorem ca_setNew {w : World} {X : Nat} {vs cs : List Value} (h : CellsAt w X vs) (hl : vs.length = cs.length) : CellsAt (w.setCells X 0 cs) X cs := by
 have := ca_setAll cs [] vs hl (by simpa using h)
 simpa using this
theorem own_there {w : World} {B g cap n z : Nat} {e : TypeId} {xs : List Value} (h : w.ownsRow B e z (.slice (some ⟨g, 0, none⟩) n cap) n xs) {o k : Nat} (hk : o + k ≤ xs.length) : w.there g o k := fun j hj => by
 rcases h.2 with ⟨q, _⟩ | ⟨g', cap', cur, hv, hg, hh, r1, r2, r3, r4⟩
 ·cases q
 ·simp only [Value.slice.injEq, Option.some.injEq, Addr.mk.injEq] at hv
  obtain ⟨⟨rfl, _, _⟩, _, rfl⟩ := hv
  have hl := h.1
  have hc : o + j < cur.size := by
   have : n * z ≤ cap * z := Nat.mul_le_mul_right z r1
   omega
  constructor
  ·simp [World.cell?, hh, hc]
  ·simp [World.frozen?, hh]
theorem own_range {α : Type} {w : World} {g cap n z : Nat} {cells : α → List Value} {l : List α} (h : Rd z cells w (.slice (some ⟨g, 0, none⟩) n cap) l) {k : Nat} {x : α} (hx : l[k]? = some x) : w.rangeAt g (k * z) (cells x) := by
 obtain ⟨b, o, e, hb, hc⟩ := rd_elem h hx
 simp only [Option.some.injEq, Addr.mk.injEq] at e
 obtain ⟨rfl, rfl, _⟩ := e
 intro j v hv
 have := hc j v hv
 rw [Nat.zero_add] at this
 exact this
theorem own_apart_ty {w : World} {B n1 n2 z1 z2 : Nat} {e1 e2 : TypeId} {v1 v2 : Value} {x1 x2 : List Value} (h1 : w.ownsRow B e1 z1 v1 n1 x1) (h2 : w.ownsRow B e2 z2 v2 n2 x2) (he : e1 ≠ e2) : v1.ownBlock = none ∨ v1.ownBlock ≠ v2.ownBlock := by
 rcases h1.2 with ⟨rfl, _⟩ | ⟨g, cap, cur, rfl, _, hh, _⟩
 ·exact .inl rfl
 ·right
  rcases h2.2 with ⟨rfl, _⟩ | ⟨g', cap', cur', rfl, _, hh', _⟩
  ·intro q; simp [Value.ownBlock] at q
  ·intro q
   simp [Value.ownBlock] at q
   subst q
   rw [hh] at hh'
   simp at hh'
   exact he hh'.2
theorem trn_base {N Z : Nat} {w9 : World} {P : List Sx.Trn} {v : Value} (hnil : P = [] → v = .slice none 0 0) (ho : OwnTrn w9 N v P) (hN : N ≤ w9.heap.size) (hNZ : N ≤ Z) (hZ : Z < w9.heap.size) :
  ∃ Bs, N ≤ Bs ∧ Bs ≤ w9.heap.size ∧ OwnTrn w9 Bs v P ∧ (P = [] → Z < Bs) := by
 by_cases h : P = []
 ·have := hnil h
  subst h
  subst this
  exact ⟨Z + 1, by omega, by omega, ownTrn_nil _ _, fun _ => by omega⟩
 ·exact ⟨N, Nat.le_refl _, hN, ho, fun q => absurd q h⟩
theorem app_trn {N Z Bs : Nat} {P : List Sx.Trn} {p : Sx.Trn} {v v' : Value} {w w9 w10 : World} {o : Obj} {cs : List Value} (hNB : N ≤ Bs) (ho : OwnTrn w9 Bs v P) (hnil : P = [] → Z < Bs) (hOZ : ∀ g, v.ownBlock = some g → g < Z) (hZ : CellsAt w9 Z cs) (hB : Blk w9 Z 189 12)
  (hb : Below N w w9) (hNs : N ≤ w9.heap.size) (hown : w10.ownsRow Bs 189 12 v' (P.length + 1) (P.flatMap trnCells ++ trnCells p)) (hg : (w9.alloc o).grownBy w10 v.ownBlock) :
  ∃ g cap, v' = .slice (some ⟨g, 0, none⟩) (P.length + 1) cap ∧ N ≤ g ∧ ¬ Z = g ∧ OwnTrn w10 N v' (P ++ [p]) ∧ CellsAt w10 Z cs ∧ Below N w w10 := by
 have hZo : v.ownBlock ≠ some Z := fun q => by have := hOZ Z q; omega
 have hB9 : Blk (w9.alloc o) Z 189 12 := blk_below hB ((Below.refl _ _).alloc (Nat.le_refl _) o)
 have hB10 : Blk w10 Z 189 12 := by
  obtain ⟨c, h1, h2⟩ := hB9
  exact ⟨c, h1, (hg.block Z (Array.getElem?_eq_some_iff.1 h2).1 fun q => hZo q.symm).trans h2⟩
 obtain ⟨g, cap, rfl⟩ := ownsRow_succ hown
 have hg1 := hown.lt g rfl
 refine ⟨g, cap, rfl, by omega, ?_, ?_, ?_, ?_⟩
 ·by_cases h : P = []
  ·have := hnil h; omega
  ·intro q
   subst q
   obtain ⟨a, l, rfl⟩ := List.exists_cons_of_ne_nil h
   exact own_apart (n := l.length) (by simpa using hown) hB10 (by omega) rfl
 ·have := owns_base hown hNB
  unfold OwnTrn
  simpa using this
 ·exact ca_grownO (ca_alloc hZ _) hg (fun k hk => by
   intro q; subst q; exact hZo hk)
 ·exact Below.grown (hb.alloc hNs _) hg (by simp; omega) (fun k hk => by have := (ho.lt k hk).1; omega)
theorem putAt_own {w : World} {B g cap : Nat} {P : List Sx.Trn} {p : Sx.Trn} (h : OwnTrn w B (.slice (some ⟨g, 0, none⟩) (P.length + 1) cap) (P ++ [p])) : OwnTrn w B (.slice (some ⟨g, 0, none⟩) (P.length + 1) cap) (Sx.putAt P P.length p) := by
 rw [Sx.putAt_end]; exact h
theorem ca_drew {w : World} {X : Nat} {vs : List Value} (h : CellsAt w X vs) : CellsAt w.drew X vs := h
theorem trn_there {w : World} {B g n cap k : Nat} {l : List Sx.Trn} (h : OwnTrn w B (.slice (some ⟨g, 0, none⟩) n cap) l) (hl : l.length = n) (hk : k < l.length) : w.there g (k * 12) 12 := by
 subst hl
 exact own_there h (by rw [flat_lenE trnCells_len]; omega)
/- a row is as it was behind an append to one of another kind -/
theorem own_other {w w9 : World} {B n1 n2 z1 z2 : Nat} {e1 e2 : TypeId} {v1 v2 : Value} {x1 x2 : List Value} {o : Obj} (h1 : w.ownsRow B e1 z1 v1 n1 x1) (h2 : w.ownsRow B e2 z2 v2 n2 x2) (he : e1 ≠ e2) (hg : (w.alloc o).grownBy w9 v2.ownBlock) : w9.ownsRow B e1 z1 v1 n1 x1 :=
 (h1.alloc o).kept hg (own_apart_ty h1 h2 he)
theorem app_tm {N : Nat} {w wr w9 : World} {v v1 v' : Value} {out : List Sx.Tm} {P : List Sx.Trn} {t : Sx.Tm} {o : Obj} (ht : OwnTm wr N v out) (hw : OwnTrn wr N v1 P) (hb : Below N w wr) (hNs : N ≤ wr.heap.size)
  (hown : w9.ownsRow N 72 3 v' (out.length + 1) (out.flatMap timeC ++ timeC t)) (hg : (wr.alloc o).grownBy w9 v.ownBlock) : OwnTm w9 N v' (out ++ [t]) ∧ OwnTrn w9 N v1 P ∧ Below N w w9 := by
 refine ⟨?_, own_other hw ht (by decide) hg, Below.grown (hb.alloc hNs _) hg (by simp; omega) (fun k hk => by have := (ht.lt k hk).1; omega)⟩
 unfold OwnTm
 simpa using hown
end
namespace Sx
open Tx (Bs)

def pct : Bs := [37, 115]
def slash : Bs := [47]
theorem pre_cons (a c : UInt8) (l r : Bs) : List.isPrefixOf (a :: l) (c :: r) = (a == c && List.isPrefixOf l r) := rfl
/- by cutting; f: nothing is ahead -/
def fmtH (f : Bool) (s : Bs) : Bool :=
 if (Lib.cut s pct).2.2 = true then plainB (Lib.cut s pct).1 && plainB (Lib.cut s pct).2.1
 else if (Lib.cut s slash).2.2 = true then (!f || !(Lib.cut s slash).1.isEmpty) && !(Lib.cut s slash).2.1.isEmpty && plainB (Lib.cut s slash).1 && plainB (Lib.cut s slash).2.1
 else plainB s
theorem cut_nil (sub : Bs) (h : sub.isEmpty = false) : Lib.cut [] sub = ([], [], false) := by simp [Lib.cut, Lib.index, h]
theorem cut_here {c : UInt8} {r sub : Bs} (h : sub.isPrefixOf (c :: r) = true) : Lib.cut (c :: r) sub = ([], (c :: r).drop sub.length, true) := by
 have e : Lib.index (c :: r) sub = 0 := by simp [Lib.index, h]
 simp [Lib.cut, e]
theorem cut_on {c : UInt8} {r sub : Bs} (h : sub.isPrefixOf (c :: r) = false) : Lib.cut (c :: r) sub = (c :: (Lib.cut r sub).1, (Lib.cut r sub).2.1, (Lib.cut r sub).2.2) := by
 have g := Lib.index_ge r sub
 have e : Lib.index (c :: r) sub = if Lib.index r sub == -1 then -1 else Lib.index r sub + 1 := by simp [Lib.index, h]
 unfold Lib.cut
 rw [e]
 by_cases q : Lib.index r sub = -1
 ·simp [q]
 ·have q' : 0 ≤ Lib.index r sub := by omega
  have q3 : (Lib.index r sub == -1) = false := by simpa using q
  rw [q3]
  simp only [Bool.false_eq_true, if_false]
  rw [if_pos (by omega), if_pos q']
  have e1 : (Lib.index r sub + 1).toNat = (Lib.index r sub).toNat + 1 := by omega
  rw [e1]
  simp [Nat.add_right_comm]
theorem plain_37 : plainC 37 = false := by decide
theorem plain_47 : plainC 47 = false := by decide
theorem plain_115 : plainC 115 = true := by decide
theorem fmtM_zero : ∀ (s : Bs) (f : Bool), fmtM f s = some 0 ↔ plainB s = true
 | [], f => by simp [fmtM, plainB]
 | c :: r, f => by
   have ih := fmtM_zero r false
   unfold fmtM
   by_cases h1 : c = 47
   ·subst h1
    rw [if_pos rfl]
    have : plainB (47 :: r) = false := by simp [plainB, plain_47]
    rw [this]
    split
    ·simp
    ·cases fmtM false r <;> simp
   ·rw [if_neg h1]
    by_cases h2 : c = 37
    ·subst h2
     rw [if_pos rfl]
     have : plainB (37 :: r) = false := by simp [plainB, plain_37]
     rw [this]
     split
     ·cases fmtM false r <;> simp
     ·simp
    ·rw [if_neg h2]
     by_cases h3 : plainC c = true
     ·rw [if_pos h3, ih]; simp [plainB, h3]
     ·rw [if_neg h3]; simp [plainB, h3]
theorem few_succ (r : Bs) : few ((fmtM false r).map (· + 1)) = plainB r := by
 have h := fmtM_zero r false
 cases q : fmtM false r with
 | none =>
   rw [q] at h
   cases k : plainB r with
   | false => rfl
   | true => simp [k] at h
 | some m =>
   rw [q] at h
   cases k : plainB r with
   | false =>
     simp [k] at h
     simp [few]; omega
   | true =>
     simp [k] at h
     simp [few, h]
theorem cut_has {s sub : Bs} {c : UInt8} (hs : sub = c :: sub.drop 1) (h : (Lib.cut s sub).2.2 = true) : c ∈ s := by
 induction s with
 | nil =>
   rw [cut_nil sub (by rw [hs]; rfl)] at h
   simp at h
 | cons d r ih =>
   cases q : sub.isPrefixOf (d :: r) with
   | true =>
     rw [hs] at q
     simp at q
     simp [q.1]
   | false =>
     rw [cut_on q] at h
     simp [ih h]
theorem plain_has {s : Bs} {c : UInt8} (hc : plainC c = false) (h : c ∈ s) : plainB s = false := by
 unfold plainB
 rw [List.all_eq_false]
 exact ⟨c, h, by simp [hc]⟩
theorem few_fmt : ∀ (s : Bs) (f : Bool), few (fmtM f s) = fmtH f s
 | [], f => by simp [fmtM, few, fmtH, cut_nil, pct, slash, plainB]
 | c :: r, f => by
   have ih := few_fmt r false
   by_cases h1 : c = 47
   ·subst h1
    have p1 : pct.isPrefixOf (47 :: r) = false := by rw [pct, pre_cons, show ((37 : UInt8) == 47) = false by decide]; rfl
    have p2 : slash.isPrefixOf (47 :: r) = true := by rw [slash, pre_cons]; rfl
    unfold fmtM fmtH
    rw [if_pos rfl, cut_on p1, cut_here p2]
    simp only [List.drop_succ_cons, slash, List.length_cons, List.length_nil, List.drop_zero, List.isEmpty_nil, Bool.not_true, Bool.or_false, if_true]
    have hh : plainB (47 :: (Lib.cut r pct).1) = false := by simp [plainB, plain_47]
    rw [hh]
    by_cases q : (Lib.cut r pct).2.2 = true
    ·have hp := plain_has plain_37 (cut_has (c := 37) (by rfl) q)
     rw [if_pos q]
     split
     ·simp [few]
     ·rw [few_succ, hp]; rfl
    ·rw [if_neg q]
     by_cases k : f = true ∨ r = []
     ·rw [if_pos k]
      rcases k with rfl | rfl <;> simp [few]
     ·rw [if_neg k, few_succ]
      have k1 : f = false := by cases f <;> simp at k ⊢
      have k2 : r ≠ [] := fun e => k (.inr e)
      have k3 : r.isEmpty = false := by cases r <;> simp at k2 ⊢
      simp [k1, k3, plainB]
   ·have p2 : slash.isPrefixOf (c :: r) = false := by rw [slash, pre_cons, show ((47 : UInt8) == c) = false by simpa using Ne.symm h1]; rfl
    by_cases h2 : c = 37
    ·subst h2
     by_cases h3 : r.head? = some 115
     ·obtain ⟨r', rfl⟩ : ∃ r', r = 115 :: r' := by cases r <;> simp at h3 ⊢; exact h3
      have p1 : pct.isPrefixOf (37 :: 115 :: r') = true := by rw [pct, pre_cons, pre_cons]; rfl
      unfold fmtM fmtH
      rw [if_neg h1, if_pos rfl, if_pos h3, few_succ, cut_here p1, if_pos rfl]
      simp [pct, plainB, plain_115]
     ·have p1 : pct.isPrefixOf (37 :: r) = false := by
       cases r with
       | nil => rfl
       | cons d r' =>
         have h4 : d ≠ 115 := by simpa using h3
         rw [pct, pre_cons, pre_cons, show ((115 : UInt8) == d) = false by simpa using Ne.symm h4]; rfl
      unfold fmtM fmtH
      rw [if_neg h1, if_pos rfl, if_neg h3, cut_on p1, cut_on p2]
      have hh : ∀ l : Bs, plainB (37 :: l) = false := fun l => by simp [plainB, plain_37]
      simp [hh, few]
    ·have p1 : pct.isPrefixOf (c :: r) = false := by rw [pct, pre_cons, show ((37 : UInt8) == c) = false by simpa using Ne.symm h2]; rfl
     have hh : ∀ l : Bs, plainB (c :: l) = (plainC c && plainB l) := fun l => by simp [plainB]
     have e : few (fmtM f (c :: r)) = (plainC c && few (fmtM false r)) := by
      have e0 : fmtM f (c :: r) = if plainC c = true then fmtM false r else none := by conv => lhs; unfold fmtM; rw [if_neg h1, if_neg h2]
      rw [e0]
      cases plainC c with
      | false => rfl
      | true => rw [if_pos rfl, Bool.true_and]
     rw [e, ih]
     unfold fmtH
     rw [cut_on p1, cut_on p2]
     simp only [hh, List.isEmpty_cons, Bool.not_false, Bool.or_true, Bool.true_and]
     split
     ·simp [Bool.and_assoc]
     ·split
      ·simp [Bool.and_assoc, Bool.and_left_comm]
      ·rfl
theorem format_cut (s : Bs) : formatB s = (!s.isEmpty && decide (s.length ≤ 24) && fmtH true s) := by unfold formatB; rw [few_fmt]
end Sx
section
open Go.RowKit

theorem plain1_any (c : UInt8) (w : World) :
  Calls Tryz.prog 204 #[.int .u8 (c.toNat : Int)] w fun e w' => e = .returned (.bool (Sx.plainC c)) ∧ w' = w := by
 have HN : Hid (Sx.plainC c = (Sx.letB c || Sx.digB c || c == 43 || c == 45)) := rfl
 cases h1 : Sx.letB c
 case true =>
  have H1 := hid h1
  clear h1
  go_enter Tryz.func204, Tryz.ntmps204
  go_wp2_with (go_at_call 191; refine (pLetter_is _ _ H1.out).mono ?_; rintro e w1 ⟨rfl, rfl⟩)
  go_ret
  exact ⟨ret_bool (by rw [HN.out, H1.out]; rfl), rfl⟩
 case false =>
  have H1 := hid h1
  clear h1
  cases h2 : Sx.digB c
  case true =>
   have H2 := hid h2
   clear h2
   go_enter Tryz.func204, Tryz.ntmps204
   go_wp2_with (first | (go_at_call 191; refine (pLetter_is _ _ H1.out).mono ?_; rintro e w1 ⟨rfl, rfl⟩) | (go_at_call 194; refine (pDigit_is _ _ H2.out).mono ?_; rintro e w1 ⟨rfl, rfl⟩))
   go_ret
   exact ⟨ret_bool (by rw [HN.out, H1.out, H2.out]; rfl), rfl⟩
  case false =>
   have H2 := hid h2
   clear h2
   cases h3 : (c == 43)
   case true =>
    have e3 : ((c.toNat : Int) == 43) = true := (u8_eq c 43).trans h3
    have H3 := hid h3
    clear h3
    go_enter Tryz.func204, Tryz.ntmps204
    go_wp2_with (first | (go_at_call 191; refine (pLetter_is _ _ H1.out).mono ?_; rintro e w1 ⟨rfl, rfl⟩) | (go_at_call 194; refine (pDigit_is _ _ H2.out).mono ?_; rintro e w1 ⟨rfl, rfl⟩))
    go_ret
    exact ⟨ret_bool (by rw [HN.out, H1.out, H2.out, H3.out]; rfl), rfl⟩
   case false =>
    have e3 : ((c.toNat : Int) == 43) = false := (u8_eq c 43).trans h3
    have H3 := hid h3
    clear h3
    cases h4 : (c == 45)
    all_goals
     have e4 := (u8_eq c 45).trans h4
     change ((c.toNat : Int) == 45) = _ at e4
     have H4 := hid h4
     clear h4
     go_enter Tryz.func204, Tryz.ntmps204
     go_wp2_with (first | (go_at_call 191; refine (pLetter_is _ _ H1.out).mono ?_; rintro e w1 ⟨rfl, rfl⟩) | (go_at_call 194; refine (pDigit_is _ _ H2.out).mono ?_; rintro e w1 ⟨rfl, rfl⟩))
     go_ret
     exact ⟨ret_bool (by rw [HN.out, H1.out, H2.out, H3.out, H4.out]; rfl), rfl⟩
theorem plain1_is (c : UInt8) (w : World) {b : Bool} (h : Sx.plainC c = b) :
  Calls Tryz.prog 204 #[.int .u8 (c.toNat : Int)] w fun e w' => e = .returned (.bool b) ∧ w' = w := by subst h; exact plain1_any c w

theorem spanPlain_any (s : ByteArray) (w : World) (hs : s.size ≤ maxLen) :
  Calls Tryz.prog 210 #[.string s, .func (.func 204) #[] #[]] w fun e w' => (∃ n : Int, e = .returned (.int .i64 n) ∧ (n == (s.size : Int)) = Sx.plainB s.data.toList) ∧ w' = w := by
 unfold maxLen at hs
 have HG : Hid (Sx.plainB s.data.toList = s.data.toList.all Sx.plainC) := rfl
 have eg : ∀ args w, (callFunc 204 args).run Tryz.prog w = .ok (.enter 204 args) w := enters_of Tryz.func204 (by kernel_rfl) rfl
 go_enter Tryz.func210, Tryz.ntmps210
 go_wp2_with fail
 go_loop [8] (fun a => ∃ k : Nat, k ≤ s.size ∧ a = .int .i64 k ∧ Hid ((s.data.toList.take k).all Sx.plainC = true)) (fun a => s.size - (intOf a).toNat)
 case atStart => exact ⟨0, by omega, rfl, by show _ = _; simp⟩
 case round =>
  obtain ⟨k, hk, rfl, HA⟩ := hrel
  by_cases hlt : k < s.size
  ·obtain ⟨c, hc⟩ : ∃ c, s[k] = c := ⟨_, rfl⟩
   have HC := hid hc
   cases h1 : Sx.plainC c
   case true =>
    have H1 := hid h1
    clear h1
    go_wp2_with (go_at_call 204; refine (plain1_is _ _ H1.out).mono ?_; rintro e w1 ⟨rfl, rfl⟩)
    go_round
    case rel => exact ⟨k + 1, by omega, by go_num, all_snoc s _ k hlt HA.out (by rw [HC.out, H1.out])⟩
    case measure => simp [intOf]; omega
   case false =>
    have H1 := hid h1
    clear h1
    go_wp2_with (go_at_call 204; refine (plain1_is _ _ H1.out).mono ?_; rintro e w1 ⟨rfl, rfl⟩)
    go_ret
    exact ⟨⟨_, rfl, by rw [HG.out, all_no s _ k hlt (by rw [HC.out, H1.out])]; simp; omega⟩, rfl⟩
  ·go_wp2
   go_ret
   exact ⟨⟨_, rfl, by rw [HG.out, all_end s _ k (by omega) HA.out]; simp⟩, rfl⟩
theorem isAllPlain_any (s : ByteArray) (w : World) (hs : s.size ≤ maxLen) :
  Calls Tryz.prog 192 #[.string s, .func (.func 204) #[] #[]] w fun e w' => e = .returned (.bool (decide (s.size ≤ 24) && Sx.plainB s.data.toList)) ∧ w' = w := by
 have HS := hid (spanPlain_any s w hs)
 clear hs
 obtain ⟨b, hb⟩ : ∃ b, Sx.plainB s.data.toList = b := ⟨_, rfl⟩
 rw [hb] at HS ⊢
 clear hb
 by_cases h : s.size ≤ 24
 ·go_enter Tryz.func192, Tryz.ntmps192
  go_wp2_with (go_at_call 210; refine HS.out.mono ?_; rintro e w1 ⟨⟨n, rfl, hn⟩, rfl⟩)
  go_ret
  exact ⟨ret_bool (by simp [h]), rfl⟩
 ·go_enter Tryz.func192, Tryz.ntmps192
  go_wp2_with fail
  go_ret
  exact ⟨ret_bool (by simp [h]), rfl⟩
theorem isAllPlain_is (s : ByteArray) (w : World) (hs : s.size ≤ maxLen) {b : Bool} (h : (decide (s.size ≤ 24) && Sx.plainB s.data.toList) = b) :
  Calls Tryz.prog 192 #[.string s, .func (.func 204) #[] #[]] w fun e w' => e = .returned (.bool b) ∧ w' = w := by subst h; exact isAllPlain_any s w hs
theorem pPlain_is (s : ByteArray) (w : World) (hs : s.size ≤ maxLen) {b : Bool} (h : (decide (s.size ≤ 24) && Sx.plainB s.data.toList) = b) :
  Calls Tryz.prog 178 #[.string s] w fun e w' => e = .returned (.bool b) ∧ w' = w := by
 have HS := hid (isAllPlain_is s w hs h)
 clear h hs
 go_enter Tryz.func178, Tryz.ntmps178
 go_wp2_with (go_at_call 192; refine HS.out.mono ?_; rintro e w1 ⟨rfl, rfl⟩)
 go_ret
 exact ⟨rfl, rfl⟩
end
end Go.Proofs.YtkhlkohlccndgaaGreat
namespace Go.Proofs
open Go.Shelf
def Tryz.lays145_ren : Go.Shelf.Ren := ⟨fun | 145 => 162 | 220 => 198 | 219 => 212 | 217 => 211 | 225 => 233 | 224 => 234 | 267 => 235 | 266 => 232 | 314 => 244 | n => n, fun | 9 => 9 | 4 => 4 | 59 => 219 | 3 => 3 | 5 => 5 | 46 => 230 | 146 => 274 | 51 => 258 | n => n, fun | 1 => 0 | n => n⟩
theorem Tryz.lays145 : Go.Proofs.Lays.n145 Tryz.prog Tryz.lays145_ren := {
 mixed := by kernel_rfl
 f145 := Tryz.func162.trans (congrArg some (by kernel_rfl))
 f217 := Tryz.func211.trans (congrArg some (by kernel_rfl))
 f219 := Tryz.func212.trans (congrArg some (by kernel_rfl))
 f220 := Tryz.func198.trans (congrArg some (by kernel_rfl))
 f224 := Tryz.func234.trans (congrArg some (by kernel_rfl))
 f225 := Tryz.func233.trans (congrArg some (by kernel_rfl))
 f266 := Tryz.func232.trans (congrArg some (by kernel_rfl))
 f267 := Tryz.func235.trans (congrArg some (by kernel_rfl))
 f314 := Tryz.func244.trans (congrArg some (by kernel_rfl))
 t3 := Tryz.underlying3
 a3 := Tryz.isAgg3
 z3 := Tryz.sizeOf3
 v3 := Tryz.zeroValue3
 t4 := Tryz.underlying4
 a4 := Tryz.isAgg4
 z4 := Tryz.sizeOf4
 v4 := Tryz.zeroValue4
 t5 := Tryz.underlying5
 a5 := Tryz.isAgg5
 z5 := Tryz.sizeOf5
 v5 := Tryz.zeroValue5
 t9 := Tryz.underlying9
 a9 := Tryz.isAgg9
 z9 := Tryz.sizeOf9
 v9 := Tryz.zeroValue9
 t46 := Tryz.underlying230
 a46 := Tryz.isAgg230
 z46 := Tryz.sizeOf230
 v46 := Tryz.zeroValue230
 t51 := Tryz.underlying258
 a51 := Tryz.isAgg258
 z51 := Tryz.sizeOf258
 v51 := Tryz.zeroValue258
 t59 := Tryz.underlying219
 a59 := Tryz.isAgg219
 z59 := Tryz.sizeOf219
 v59 := Tryz.zeroValue219
 t146 := Tryz.underlying274
 a146 := Tryz.isAgg274
 z146 := Tryz.sizeOf274
 v146 := Tryz.zeroValue274
 g1 := by kernel_rfl }
open Go.RowKit Go.Lib in
/-- strings.Cut: "Cut slices s around the first instance of sep, returning the text before and after sep. The found result reports whether sep appears in s. If sep does not appear in s, cut returns s, "", false.": IT RETURNS 'Lib.cut s sep'; the world is as it was but for the count of draws. (LAID: no walk: one application.) -/
theorem Tryz.strings_Cut (s sep : ByteArray) (m : Int) (w : World) (hs : s.size < 4294967281) (hm : w.cell? ⟨0, 0, none⟩ = some (.int .i64 m)) :
  Calls Tryz.prog 162 #[.string s, .string sep] w fun e w' => e = .returned (.tuple #[.string ⟨(Lib.cut s.data.toList sep.data.toList).1.toArray⟩, .string ⟨(Lib.cut s.data.toList sep.data.toList).2.1.toArray⟩, .bool (Lib.cut s.data.toList sep.data.toList).2.2]) ∧ ∃ n, w' = w.drewN n := Any.strings_Cut Tryz.lays145 s sep m w hs hm
end Go.Proofs
namespace Go.Proofs.YtkhlkohlccndgaaGreat
section
open Go.RowKit

theorem belowN (w : World) (n : Nat) : Below w.heap.size w (w.drewN n) := ⟨rfl, rfl, rfl, Nat.le_refl _, fun _ _ => rfl⟩
theorem cut_any (l sep : Tx.Bs) (m : Int) (w : World) (hs : l.length < 4294967281) (hm : w.cell? ⟨0, 0, none⟩ = some (.int .i64 m)) :
  Calls Tryz.prog 162 #[strV l, strV sep] w fun e w' => e = .returned (.tuple #[strV (Lib.cut l sep).1, strV (Lib.cut l sep).2.1, .bool (Lib.cut l sep).2.2]) ∧ ∃ n, w' = w.drewN n := by
 have h := Tryz.strings_Cut ⟨l.toArray⟩ ⟨sep.toArray⟩ m w (by simpa [ByteArray.size] using hs) hm
 exact h
theorem plain_str (l : Tx.Bs) (w : World) (hs : l.length ≤ 24) {b : Bool} (h : Sx.plainB l = b) : Calls Tryz.prog 178 #[strV l] w fun e w' => e = .returned (.bool b) ∧ w' = w :=
 pPlain_is ⟨l.toArray⟩ w (by simp [ByteArray.size, maxLen]; omega) (by rw [← h]; simp [ByteArray.size, hs])
theorem cut_len (l sep : Tx.Bs) : (Lib.cut l sep).1.length ≤ l.length ∧ (Lib.cut l sep).2.1.length ≤ l.length := by
 unfold Lib.cut
 split
 ·exact ⟨by simp; omega, by simp⟩
 ·exact ⟨Nat.le_refl _, by simp⟩
theorem pFormat_is (l : Tx.Bs) (m : Int) (w : World) (hs : l.length ≤ maxLen) (hm : w.cell? ⟨0, 0, none⟩ = some (.int .i64 m)) {b : Bool} (h : Sx.formatB l = b) :
  Calls Tryz.prog 196 #[strV l] w fun e w' => e = .returned (.bool b) ∧ ∃ n, w' = w.drewN n := by
 rw [Sx.format_cut] at h
 cases he : l.isEmpty
 case true =>
  have HB : Hid (b = false) := by show _ = _; rw [← h, he]; rfl
  clear h hm
  go_enter Tryz.func196, Tryz.ntmps196
  go_wp2_with fail
  go_ret
  exact ⟨ret_bool (by rw [HB.out]), 0, rfl⟩
 by_cases h24 : l.length ≤ 24
 case neg =>
  have HB : Hid (b = false) := by show _ = _; rw [← h, decide_eq_false h24]; simp
  clear h hm
  go_enter Tryz.func196, Tryz.ntmps196
  go_wp2_with fail
  go_ret
  exact ⟨ret_bool (by rw [HB.out]), 0, rfl⟩
 have HB : Hid (Sx.fmtH true l = b) := by show _ = _; rw [← h, he, decide_eq_true h24]; rfl
 have C1 := hid (cut_any l [37, 115] m w (by omega) hm)
 have C2 := hid (fun n => cut_any l [47] m (w.drewN n) (by omega) hm)
 have L1 := cut_len l [37, 115]
 have L2 := cut_len l [47]
 unfold Sx.fmtH Sx.pct Sx.slash at HB
 have HB1 : Hid ((if (Lib.cut l [37, 115]).2.2 = true then Sx.plainB (Lib.cut l [37, 115]).1 && Sx.plainB (Lib.cut l [37, 115]).2.1 else if (Lib.cut l [47]).2.2 = true then !(Lib.cut l [47]).1.isEmpty && !(Lib.cut l [47]).2.1.isEmpty && Sx.plainB (Lib.cut l [47]).1 && Sx.plainB (Lib.cut l [47]).2.1 else Sx.plainB l) = b) := by
  show _ = _; rw [← HB.out]; simp
 clear HB h hm
 obtain ⟨c1, hc1⟩ : ∃ c, Lib.cut l [37, 115] = c := ⟨_, rfl⟩
 obtain ⟨c2, hc2⟩ : ∃ c, Lib.cut l [47] = c := ⟨_, rfl⟩
 rw [hc1] at L1 C1 HB1
 rw [hc2] at L2 C2 HB1
 clear hc1 hc2
 obtain ⟨a1, a2, ao⟩ := c1
 obtain ⟨b1, b2, bo⟩ := c2
 dsimp only at L1 L2 C1 C2 HB1
 have HL := hid L1
 have HL2 := hid L2
 have H24 := hid h24
 clear L1 L2
 cases ao
 case true =>
  simp only [if_true] at HB1
  cases h1 : Sx.plainB a1
  case false =>
   have HBB : Hid (b = false) := by show _ = _; rw [← HB1.out, h1]; rfl
   have HA := hid (fun w' => plain_str a1 w' (by have := HL.out; have := H24.out; omega) h1)
   clear HB1 h1
   go_enter Tryz.func196, Tryz.ntmps196
   go_wp2_with fail
   refine C1.out.mono ?_
   rintro e w1 ⟨rfl, n, rfl⟩
   go_wp2_with (go_at_call 178; refine (HA.out _).mono ?_; rintro e w2 ⟨rfl, rfl⟩)
   go_ret
   exact ⟨ret_bool (by rw [HBB.out]), n, rfl⟩
  case true =>
   have HBB : Hid (Sx.plainB a2 = b) := by show _ = _; rw [← HB1.out, h1]; simp
   have HA := hid (fun w' => plain_str a1 w' (by have := HL.out; have := H24.out; omega) h1)
   have HA2 := hid (fun w' => plain_str a2 w' (by have := HL.out; have := H24.out; omega) HBB.out)
   clear HB1 h1
   go_enter Tryz.func196, Tryz.ntmps196
   go_wp2_with fail
   refine C1.out.mono ?_
   rintro e w1 ⟨rfl, n, rfl⟩
   go_wp2_with (go_at_call 178; (first | (with_reducible refine (HA.out _).mono ?_) | (with_reducible refine (HA2.out _).mono ?_)); rintro e w2 ⟨rfl, rfl⟩)
   go_ret
   exact ⟨rfl, n, rfl⟩
 simp only [Bool.false_eq_true, if_false] at HB1
 cases bo
 case false =>
  simp only [Bool.false_eq_true, if_false] at HB1
  have HA := hid (fun w' => plain_str l w' H24.out HB1.out)
  go_enter Tryz.func196, Tryz.ntmps196
  go_wp2_with fail
  refine C1.out.mono ?_
  rintro e w1 ⟨rfl, n, rfl⟩
  go_wp2_with fail
  refine (C2.out n).mono ?_
  rintro e w2 ⟨rfl, n2, rfl⟩
  go_wp2_with (go_at_call 178; refine (HA.out _).mono ?_; rintro e w2 ⟨rfl, rfl⟩)
  go_ret
  exact ⟨rfl, n + n2, rfl⟩
 simp only [if_true] at HB1
 cases e1 : b1.isEmpty
 case true =>
  have HBB : Hid (b = false) := by show _ = _; rw [← HB1.out, e1]; rfl
  clear HB1
  go_enter Tryz.func196, Tryz.ntmps196
  go_wp2_with fail
  refine C1.out.mono ?_
  rintro e w1 ⟨rfl, n, rfl⟩
  go_wp2_with fail
  refine (C2.out n).mono ?_
  rintro e w2 ⟨rfl, n2, rfl⟩
  go_wp2
  go_ret
  exact ⟨ret_bool (by rw [HBB.out]), n + n2, rfl⟩
 cases e2 : b2.isEmpty
 case true =>
  have HBB : Hid (b = false) := by show _ = _; rw [← HB1.out, e1, e2]; rfl
  clear HB1
  go_enter Tryz.func196, Tryz.ntmps196
  go_wp2_with fail
  refine C1.out.mono ?_
  rintro e w1 ⟨rfl, n, rfl⟩
  go_wp2_with fail
  refine (C2.out n).mono ?_
  rintro e w2 ⟨rfl, n2, rfl⟩
  go_wp2
  go_ret
  exact ⟨ret_bool (by rw [HBB.out]), n + n2, rfl⟩
 have HB2 : Hid ((Sx.plainB b1 && Sx.plainB b2) = b) := by show _ = _; rw [← HB1.out, e1, e2]; simp
 clear HB1
 cases h1 : Sx.plainB b1
 case false =>
  have HBB : Hid (b = false) := by show _ = _; rw [← HB2.out, h1]; rfl
  have HA := hid (fun w' => plain_str b1 w' (by have := HL2.out; have := H24.out; omega) h1)
  clear HB2 h1
  go_enter Tryz.func196, Tryz.ntmps196
  go_wp2_with fail
  refine C1.out.mono ?_
  rintro e w1 ⟨rfl, n, rfl⟩
  go_wp2_with fail
  refine (C2.out n).mono ?_
  rintro e w2 ⟨rfl, n2, rfl⟩
  go_wp2_with (go_at_call 178; refine (HA.out _).mono ?_; rintro e w2 ⟨rfl, rfl⟩)
  go_ret
  exact ⟨ret_bool (by rw [HBB.out]), n + n2, rfl⟩
 case true =>
  have HBB : Hid (Sx.plainB b2 = b) := by show _ = _; rw [← HB2.out, h1]; simp
  have HA := hid (fun w' => plain_str b1 w' (by have := HL2.out; have := H24.out; omega) h1)
  have HA2 := hid (fun w' => plain_str b2 w' (by have := HL2.out; have := H24.out; omega) HBB.out)
  clear HB2 h1
  go_enter Tryz.func196, Tryz.ntmps196
  go_wp2_with fail
  refine C1.out.mono ?_
  rintro e w1 ⟨rfl, n, rfl⟩
  go_wp2_with fail
  refine (C2.out n).mono ?_
  rintro e w2 ⟨rfl, n2, rfl⟩
  go_wp2_with (go_at_call 178; (first | (with_reducible refine (HA.out _).mono ?_) | (with_reducible refine (HA2.out _).mono ?_)); rintro e w2 ⟨rfl, rfl⟩)
  go_ret
  exact ⟨rfl, n + n2, rfl⟩
end
section
open Go.RowKit
attribute [local go_sem ↓] Go.wp_at_zero Go.wp_at_succ

theorem endE_or {sh sv uy um ud ua uc : Int} {rl fm : Tx.Bs} : Sx.endE ⟨sh, rl, sv, fm, false, uy, um, ud, ua, uc⟩ = Sx.firstE id [if Cv.vldB uy um ud = true then 0 else 3, uE (Sx.inB ua 0 172800) 3, uE (uc == 2 || uc == 3) 7] := by
 simp only [Sx.endE, Sx.firstE, id, uE, Bool.false_eq_true, if_false]
 cases Cv.vldB uy um ud <;> cases Sx.inB ua 0 172800 <;> by_cases h2 : uc = 2 <;> by_cases h3 : uc = 3 <;> simp [h2, h3]
theorem pCheckEnd_open (sh sv uy um ud ua uc : Int) (rl fm : Tx.Bs) (w : World) :
  Calls Tryz.prog 197 #[eraV ⟨sh, rl, sv, fm, true, uy, um, ud, ua, uc⟩] w fun e w' => e = .returned (.int .i64 (Sx.endE ⟨sh, rl, sv, fm, true, uy, um, ud, ua, uc⟩)) ∧ Below w.heap.size w w' := by
 have HE : Hid (Sx.endE ⟨sh, rl, sv, fm, true, uy, um, ud, ua, uc⟩ = uE (Sx.untilZ ⟨sh, rl, sv, fm, true, uy, um, ud, ua, uc⟩) 1) := by
  show _ = _; simp only [Sx.endE, uE, if_true]
 have BV := hid ((Below.refl w.heap.size w).alloc (Nat.le_refl _) (.cells (eraCells ⟨sh, rl, sv, fm, true, uy, um, ud, ua, uc⟩).toArray 67))
 have HU : Hid (Sx.untilZ ⟨sh, rl, sv, fm, true, uy, um, ud, ua, uc⟩ = decide (uy = 0 ∧ um = 0 ∧ ud = 0 ∧ ua = 0 ∧ uc = 0)) := rfl
 have h6 : ¬ uy = 0 ∨ (uy = 0 ∧ ¬ um = 0) ∨ (uy = 0 ∧ um = 0 ∧ ¬ ud = 0) ∨ (uy = 0 ∧ um = 0 ∧ ud = 0 ∧ ¬ ua = 0) ∨ (uy = 0 ∧ um = 0 ∧ ud = 0 ∧ ua = 0 ∧ ¬ uc = 0) ∨ (uy = 0 ∧ um = 0 ∧ ud = 0 ∧ ua = 0 ∧ uc = 0) := by omega
 rcases h6 with h | ⟨rfl, h⟩ | ⟨rfl, rfl, h⟩ | ⟨rfl, rfl, rfl, h⟩ | ⟨rfl, rfl, rfl, rfl, h⟩ | ⟨rfl, rfl, rfl, rfl, rfl⟩
 all_goals
  go_enter Tryz.func197, Tryz.ntmps197
  go_wp2_with (go_at_call 150; refine (unless_any _ _ _).mono ?_; rintro e w1 ⟨rfl, rfl⟩)
  go_ret
  refine ⟨ret_int ?_, BV.out⟩
  rw [HE.out, HU.out]
  simp [*]
theorem days_err (y m d : Int) (w : World) {E : Int} (h : (if Cv.vldB y m d = true then 0 else 3) = E) :
  Calls Tryz.prog 40 #[.agg #[.int .i64 y, .int .i64 m, .int .i64 d]] w fun e w' => (∃ n, e = .returned (.tuple #[.int .i64 n, .int .i64 E])) ∧ Below w.heap.size w w' := by
 cases q : Cv.vldB y m d
 ·rw [q] at h
  refine (days_no y m d w q).mono ?_
  rintro e w1 ⟨rfl, hb⟩
  exact ⟨⟨0, by rw [← h]; rfl⟩, hb⟩
 ·rw [q] at h
  refine (days_yes y m d w q).mono ?_
  rintro e w1 ⟨rfl, hb⟩
  exact ⟨⟨_, by rw [← h]; rfl⟩, hb⟩
theorem pCheckEnd_shut (sh sv uy um ud ua uc : Int) (rl fm : Tx.Bs) (w : World) :
  Calls Tryz.prog 197 #[eraV ⟨sh, rl, sv, fm, false, uy, um, ud, ua, uc⟩] w fun e w' => e = .returned (.int .i64 (Sx.endE ⟨sh, rl, sv, fm, false, uy, um, ud, ua, uc⟩)) ∧ Below w.heap.size w w' := by
 rw [endE_or]
 obtain ⟨O, hO⟩ : ∃ O, (if Cv.vldB uy um ud = true then (0 : Int) else 3) = O := ⟨_, rfl⟩
 obtain ⟨A, hA⟩ : ∃ A, Sx.inB ua 0 172800 = A := ⟨_, rfl⟩
 rw [hO, hA]
 have HO := hid hO
 have HA := hid hA
 clear hO hA
 have XV := hid (ca_new w (eraCells ⟨sh, rl, sv, fm, false, uy, um, ud, ua, uc⟩) 67)
 have BV := hid ((Below.refl w.heap.size w).alloc (Nat.le_refl _) (.cells (eraCells ⟨sh, rl, sv, fm, false, uy, um, ud, ua, uc⟩).toArray 67))
 obtain ⟨B, hB⟩ : ∃ B, w.heap.size = B := ⟨_, rfl⟩
 have HB := hid hB
 rw [hB] at XV
 clear hB
 have h3 : uc = 2 ∨ (¬ uc = 2 ∧ uc = 3) ∨ (¬ uc = 2 ∧ ¬ uc = 3) := by omega
 go_enter Tryz.func197, Tryz.ntmps197
 go_wp2_with fail
 refine (days_err _ _ _ _ HO.out).mono ?_
 rintro e w1 ⟨⟨dn, rfl⟩, hb⟩
 have X1 := hid (ca_below XV.out hb)
 have B1 : Hid (Below w.heap.size w w1) := BV.out.trans (hb.mono BV.out.size)
 clear hb XV BV
 go_upto_region 4 with fail
 rw [HB.out]
 obtain ⟨x8, _⟩ := ca_at X1.out 8 rfl
 obtain ⟨x9, _⟩ := ca_at X1.out 9 rfl
 have sx := X1.out.1
 rcases h3 with rfl | ⟨h2, rfl⟩ | ⟨h2, h3⟩
 ·have CN : Hid (CellsAt (w1.alloc (.cells ([O, uE A 3, uE true 7].map (Value.int .i64)).toArray 28)).drew w1.heap.size ([O, uE A 3, uE true 7].map (Value.int .i64))) := ca_new w1 _ _
  have BN0 := B1.out.alloc B1.out.size (.cells ([O, uE A 3, uE true 7].map (Value.int .i64)).toArray 28)
  have BN : Hid (Below w.heap.size w (w1.alloc (.cells ([O, uE A 3, uE true 7].map (Value.int .i64)).toArray 28)).drew) := ⟨BN0.os, BN0.tape, BN0.output, BN0.size, BN0.block⟩
  clear BN0
  have e2 : ((2 : Int) == 2 || (2 : Int) == 3) = true := by simp
  have e2 := hid e2
  refine wp_region_held_drew (S := fun w' => w'.cell? ⟨B, 8, none⟩ = some (.int .i64 ua) ∧ w'.cell? ⟨B, 9, none⟩ = some (.int .i64 2)) (by kernel_rfl) ?_ (fun hHeld => ?_)
  ·go_keep
  refine tkA 0 rfl ?_
  try simp only [Act.put, j]
  refine tkA 1 rfl ?_
  try simp only [Act.put, j]
  refine tkA 2 rfl ?_
  try simp only [Act.put, j]
  refine tkA 3 rfl ?_
  try simp only [Act.put, j]
  refine tkA 6 rfl ?_
  try simp only [Act.put, j]
  refine tkA 7 rfl ?_
  try simp only [Act.put, j]
  refine tkA 8 rfl ?_
  try simp only [Act.put, j]
  refine tkA 9 rfl ?_
  try simp only [Act.put, j]
  refine rdH 4 rfl fun K hK => ?_
  go_simp
  refine (within_is ua 0 172800 _ HA.out).mono ?_
  rintro e w2 ⟨rfl, rfl⟩
  refine hK.out _ _ ?_ (fun hHeld => ?_)
  ·go_keep
  clear hK K
  try simp only [Act.put, j]
  refine rdH 5 rfl fun K hK => ?_
  go_simp
  refine (unless_any _ _ _).mono ?_
  rintro e w2 ⟨rfl, rfl⟩
  refine hK.out _ _ ?_ (fun hHeld => ?_)
  ·go_keep
  clear hK K
  try simp only [Act.put, j]
  refine tkA 10 rfl ?_
  try simp only [Act.put, j]
  refine tkU 11 rfl ?_
  try simp only [Act.put, j]
  refine tkU 12 rfl ?_
  try simp only [Act.put, j]
  refine tkU 13 rfl ?_
  try simp only [Act.put, j]
  refine tkU 14 rfl ?_
  try simp only [Act.put, j]
  refine tkA 15 rfl ?_
  try simp only [Act.put, j]
  refine rdH 16 rfl fun K hK => ?_
  go_simp
  refine (unless_any _ _ _).mono ?_
  rintro e w2 ⟨rfl, rfl⟩
  refine hK.out _ _ ?_ (fun hHeld => ?_)
  ·go_keep
  clear hK K
  try simp only [Act.put, j]
  refine rdH 17 rfl fun K hK => ?_
  go_simp
  refine hK.out _ _ ?_ (fun hHeld => ?_)
  ·go_keep
  clear hK K
  try simp only [Act.put, j]
  refine rdH 18 rfl fun K hK => ?_
  go_simp
  refine (or_any [O, uE A 3, uE true 7] w1.heap.size 3 _ CN.out (by simp)).mono ?_
  rintro e w2 ⟨rfl, rfl⟩
  refine hK.out _ _ ?_ (fun hHeld => ?_)
  ·go_keep
  clear hK K
  try simp only [Act.put, j]
  refine tkA 19 rfl ?_
  try simp only [Act.put, j]
  refine wpAnyH_done (by kernel_rfl) ?_ _
  go_wp2
  go_ret
  exact ⟨ret_int (by first | rfl | rw [e2.out]), BN.out⟩
 ·have CN : Hid (CellsAt (w1.alloc (.cells ([O, uE A 3, uE true 7].map (Value.int .i64)).toArray 28)).drew w1.heap.size ([O, uE A 3, uE true 7].map (Value.int .i64))) := ca_new w1 _ _
  have BN0 := B1.out.alloc B1.out.size (.cells ([O, uE A 3, uE true 7].map (Value.int .i64)).toArray 28)
  have BN : Hid (Below w.heap.size w (w1.alloc (.cells ([O, uE A 3, uE true 7].map (Value.int .i64)).toArray 28)).drew) := ⟨BN0.os, BN0.tape, BN0.output, BN0.size, BN0.block⟩
  clear BN0
  have e2 : ((3 : Int) == 2 || (3 : Int) == 3) = true := by simp
  have e2 := hid e2
  have d2 : ((3 : Int) == 2) = false := by simp
  refine wp_region_held_drew (S := fun w' => w'.cell? ⟨B, 8, none⟩ = some (.int .i64 ua) ∧ w'.cell? ⟨B, 9, none⟩ = some (.int .i64 3)) (by kernel_rfl) ?_ (fun hHeld => ?_)
  ·go_keep
  refine tkA 0 rfl ?_
  try simp only [Act.put, j]
  refine tkA 1 rfl ?_
  try simp only [Act.put, j]
  refine tkA 2 rfl ?_
  try simp only [Act.put, j]
  refine tkA 3 rfl ?_
  try simp only [Act.put, j]
  refine tkA 6 rfl ?_
  try simp only [Act.put, j]
  refine tkA 7 rfl ?_
  try simp only [Act.put, j]
  refine tkA 8 rfl ?_
  try simp only [Act.put, j]
  refine tkA 9 rfl ?_
  try simp only [Act.put, j]
  refine rdH 4 rfl fun K hK => ?_
  go_simp
  refine (within_is ua 0 172800 _ HA.out).mono ?_
  rintro e w2 ⟨rfl, rfl⟩
  refine hK.out _ _ ?_ (fun hHeld => ?_)
  ·go_keep
  clear hK K
  try simp only [Act.put, j]
  refine rdH 5 rfl fun K hK => ?_
  go_simp
  refine (unless_any _ _ _).mono ?_
  rintro e w2 ⟨rfl, rfl⟩
  refine hK.out _ _ ?_ (fun hHeld => ?_)
  ·go_keep
  clear hK K
  try simp only [Act.put, j]
  refine tkA 10 rfl ?_
  try simp only [Act.put, j]
  refine tkA 11 rfl ?_
  try simp only [Act.put, j]
  refine tkA 12 rfl ?_
  try simp only [Act.put, j]
  refine tkA 13 rfl ?_
  try simp only [Act.put, j]
  refine tkA 14 rfl ?_
  try simp only [Act.put, j]
  refine tkA 15 rfl ?_
  try simp only [Act.put, j]
  refine rdH 16 rfl fun K hK => ?_
  go_simp
  refine (unless_any _ _ _).mono ?_
  rintro e w2 ⟨rfl, rfl⟩
  refine hK.out _ _ ?_ (fun hHeld => ?_)
  ·go_keep
  clear hK K
  try simp only [Act.put, j]
  refine rdH 17 rfl fun K hK => ?_
  go_simp
  refine hK.out _ _ ?_ (fun hHeld => ?_)
  ·go_keep
  clear hK K
  try simp only [Act.put, j]
  refine rdH 18 rfl fun K hK => ?_
  go_simp
  refine (or_any [O, uE A 3, uE true 7] w1.heap.size 3 _ CN.out (by simp)).mono ?_
  rintro e w2 ⟨rfl, rfl⟩
  refine hK.out _ _ ?_ (fun hHeld => ?_)
  ·go_keep
  clear hK K
  try simp only [Act.put, j]
  refine tkA 19 rfl ?_
  try simp only [Act.put, j]
  refine wpAnyH_done (by kernel_rfl) ?_ _
  go_wp2
  go_ret
  exact ⟨ret_int (by first | rfl | rw [e2.out]), BN.out⟩
 ·have CN : Hid (CellsAt (w1.alloc (.cells ([O, uE A 3, uE false 7].map (Value.int .i64)).toArray 28)).drew w1.heap.size ([O, uE A 3, uE false 7].map (Value.int .i64))) := ca_new w1 _ _
  have BN0 := B1.out.alloc B1.out.size (.cells ([O, uE A 3, uE false 7].map (Value.int .i64)).toArray 28)
  have BN : Hid (Below w.heap.size w (w1.alloc (.cells ([O, uE A 3, uE false 7].map (Value.int .i64)).toArray 28)).drew) := ⟨BN0.os, BN0.tape, BN0.output, BN0.size, BN0.block⟩
  clear BN0
  have e2 : ((uc : Int) == 2 || (uc : Int) == 3) = false := by simp [h2, h3]
  have e2 := hid e2
  have d2 : ((uc : Int) == 2) = false := by simp [h2]
  have d3 : ((uc : Int) == 3) = false := by simp [h3]
  refine wp_region_held_drew (S := fun w' => w'.cell? ⟨B, 8, none⟩ = some (.int .i64 ua) ∧ w'.cell? ⟨B, 9, none⟩ = some (.int .i64 uc)) (by kernel_rfl) ?_ (fun hHeld => ?_)
  ·go_keep
  refine tkA 0 rfl ?_
  try simp only [Act.put, j]
  refine tkA 1 rfl ?_
  try simp only [Act.put, j]
  refine tkA 2 rfl ?_
  try simp only [Act.put, j]
  refine tkA 3 rfl ?_
  try simp only [Act.put, j]
  refine tkA 6 rfl ?_
  try simp only [Act.put, j]
  refine tkA 7 rfl ?_
  try simp only [Act.put, j]
  refine tkA 8 rfl ?_
  try simp only [Act.put, j]
  refine tkA 9 rfl ?_
  try simp only [Act.put, j]
  refine rdH 4 rfl fun K hK => ?_
  go_simp
  refine (within_is ua 0 172800 _ HA.out).mono ?_
  rintro e w2 ⟨rfl, rfl⟩
  refine hK.out _ _ ?_ (fun hHeld => ?_)
  ·go_keep
  clear hK K
  try simp only [Act.put, j]
  refine rdH 5 rfl fun K hK => ?_
  go_simp
  refine (unless_any _ _ _).mono ?_
  rintro e w2 ⟨rfl, rfl⟩
  refine hK.out _ _ ?_ (fun hHeld => ?_)
  ·go_keep
  clear hK K
  try simp only [Act.put, j]
  refine tkA 10 rfl ?_
  try simp only [Act.put, j]
  refine tkA 11 rfl ?_
  try simp only [Act.put, j]
  refine tkA 12 rfl ?_
  try simp only [Act.put, j]
  refine tkA 13 rfl ?_
  try simp only [Act.put, j]
  refine tkA 14 rfl ?_
  try simp only [Act.put, j]
  refine tkA 15 rfl ?_
  try simp only [Act.put, j]
  refine rdH 16 rfl fun K hK => ?_
  go_simp
  refine (unless_any _ _ _).mono ?_
  rintro e w2 ⟨rfl, rfl⟩
  refine hK.out _ _ ?_ (fun hHeld => ?_)
  ·go_keep
  clear hK K
  try simp only [Act.put, j]
  refine rdH 17 rfl fun K hK => ?_
  go_simp
  refine hK.out _ _ ?_ (fun hHeld => ?_)
  ·go_keep
  clear hK K
  try simp only [Act.put, j]
  refine rdH 18 rfl fun K hK => ?_
  go_simp
  refine (or_any [O, uE A 3, uE false 7] w1.heap.size 3 _ CN.out (by simp)).mono ?_
  rintro e w2 ⟨rfl, rfl⟩
  refine hK.out _ _ ?_ (fun hHeld => ?_)
  ·go_keep
  clear hK K
  try simp only [Act.put, j]
  refine tkA 19 rfl ?_
  try simp only [Act.put, j]
  refine wpAnyH_done (by kernel_rfl) ?_ _
  go_wp2
  go_ret
  exact ⟨ret_int (by first | rfl | rw [e2.out]), BN.out⟩
theorem pCheckEnd_any (x : Sx.Er) (w : World) : Calls Tryz.prog 197 #[eraV x] w fun e w' => e = .returned (.int .i64 (Sx.endE x)) ∧ Below w.heap.size w w' := by
 obtain ⟨sh, rl, sv, fm, op, uy, um, ud, ua, uc⟩ := x
 cases op
 ·exact pCheckEnd_shut _ _ _ _ _ _ _ _ _ _
 ·exact pCheckEnd_open _ _ _ _ _ _ _ _ _ _
end
section
open Go.RowKit
attribute [local go_sem ↓] Go.wp_at_zero Go.wp_at_succ

def EraH (B : Nat) (x : Sx.Er) (w : World) : Prop := w.cell? ⟨B, 0, none⟩ = some (.int .i64 x.shift) ∧ w.cell? ⟨B, 1, none⟩ = some (strV x.rules) ∧ w.cell? ⟨B, 2, none⟩ = some (.int .i64 x.save) ∧ w.cell? ⟨B, 3, none⟩ = some (strV x.format) ∧ w.cell? ⟨B, 4, none⟩ = some (.bool x.opn) ∧ w.cell? ⟨B, 5, none⟩ = some (.int .i64 x.uy) ∧ w.cell? ⟨B, 6, none⟩ = some (.int .i64 x.um) ∧ w.cell? ⟨B, 7, none⟩ = some (.int .i64 x.ud) ∧ w.cell? ⟨B, 8, none⟩ = some (.int .i64 x.uat) ∧ w.cell? ⟨B, 9, none⟩ = some (.int .i64 x.uclock)
theorem eraH_below {B : Nat} {x : Sx.Er} {w w' : World} (h : EraH B x w) (hb : Below w.heap.size w w') (hB : B < w.heap.size) : EraH B x w' := by
 obtain ⟨b0, b1, b2, b3, b4, b5, b6, b7, b8, b9⟩ := h
 have e := fun k => hb.cell (p := ⟨B, k, none⟩) hB
 exact ⟨(e 0).trans b0, (e 1).trans b1, (e 2).trans b2, (e 3).trans b3, (e 4).trans b4, (e 5).trans b5, (e 6).trans b6, (e 7).trans b7, (e 8).trans b8, (e 9).trans b9⟩
theorem below_drewn {V w3 : World} {n : Nat} (h : Below (V.drewN n).heap.size (V.drewN n) w3) : Below V.heap.size V w3 := ⟨h.os, h.tape, h.output, h.size, h.block⟩
theorem below_drew1 {V w3 : World} (h : Below V.drew.heap.size V.drew w3) : Below V.heap.size V w3 := ⟨h.os, h.tape, h.output, h.size, h.block⟩
theorem eraH_of {B : Nat} {x : Sx.Er} {w : World} (h : CellsAt w B (eraCells x)) : EraH B x w :=
 ⟨(ca_at h 0 rfl).1, (ca_at h 1 rfl).1, (ca_at h 2 rfl).1, (ca_at h 3 rfl).1, (ca_at h 4 rfl).1, (ca_at h 5 rfl).1, (ca_at h 6 rfl).1, (ca_at h 7 rfl).1, (ca_at h 8 rfl).1, (ca_at h 9 rfl).1⟩
theorem eraE_or (x : Sx.Er) (last : Bool) : Sx.eraE x last = Sx.firstE id [uE ((x.rules.isEmpty || Sx.nameB x.rules) && Sx.formatB x.format) 1, uE (Sx.inB x.shift (-64800) 64800) 3, uE (Sx.inB x.save 0 10800) 3, uE (x.rules.isEmpty || x.save == 0) 1, uE (x.opn == last) 4, Sx.endE x] := by
 have e1 : (x.save == 0) = decide (x.save = 0) := by rw [Bool.eq_iff_iff]; simp
 have e2 : (if x.opn ≠ last then (4 : Int) else Sx.endE x) = if (x.opn == last) = false then 4 else Sx.endE x := by cases x.opn <;> cases last <;> rfl
 unfold Sx.eraE
 rw [e2, e1]
 simp only [Sx.firstE, id, uE]
 cases (x.rules.isEmpty || Sx.nameB x.rules) && Sx.formatB x.format <;> cases Sx.inB x.shift (-64800) 64800 <;> cases Sx.inB x.save 0 10800 <;> cases x.rules.isEmpty || decide (x.save = 0) <;> cases x.opn == last <;> simp
theorem pCheckEra_any (x : Sx.Er) (last : Bool) (m : Int) (w : World) (hr : x.rules.length ≤ maxLen) (hf : x.format.length ≤ maxLen) (hm : w.cell? ⟨0, 0, none⟩ = some (.int .i64 m)) (h0 : 0 < w.heap.size) :
  Calls Tryz.prog 156 #[eraV x, .bool last] w fun e w' => e = .returned (.int .i64 (Sx.eraE x last)) ∧ Below w.heap.size w w' := by
 rw [eraE_or]
 have XV := hid (eraH_of (ca_new w (eraCells x) 67))
 have BV := hid ((Below.refl w.heap.size w).alloc (Nat.le_refl _) (.cells (eraCells x).toArray 67))
 have HMV : Hid ((w.alloc (.cells (eraCells x).toArray 67)).cell? ⟨0, 0, none⟩ = some (.int .i64 m)) := (BV.out.cell (p := ⟨0, 0, none⟩) h0).trans hm
 have SV : Hid (w.heap.size < (w.alloc (.cells (eraCells x).toArray 67)).heap.size) := by show _ < _; simp
 clear hm h0
 have HR := hid hr
 have HF := hid hf
 clear hr hf
 obtain ⟨sh, rl, sv, fm, op, uy, um, ud, ua, uc⟩ := x
 dsimp only at HR HF
 obtain ⟨F, hF⟩ : ∃ F, Sx.formatB fm = F := ⟨_, rfl⟩
 obtain ⟨A1, hA1⟩ : ∃ A, Sx.inB sh (-64800) 64800 = A := ⟨_, rfl⟩
 obtain ⟨A2, hA2⟩ : ∃ A, Sx.inB sv 0 10800 = A := ⟨_, rfl⟩
 obtain ⟨E, hE⟩ : ∃ E, Sx.endE ⟨sh, rl, sv, fm, op, uy, um, ud, ua, uc⟩ = E := ⟨_, rfl⟩
 dsimp only
 rw [hF, hA1, hA2, hE]
 have HFF := hid hF
 have HA1 := hid hA1
 have HA2 := hid hA2
 have HE := hid hE
 clear hF hA1 hA2 hE
 obtain ⟨B, hB⟩ : ∃ B, w.heap.size = B := ⟨_, rfl⟩
 have HB := hid hB
 rw [hB] at XV SV
 obtain ⟨V, hV⟩ : ∃ V, w.alloc (.cells (eraCells ⟨sh, rl, sv, fm, op, uy, um, ud, ua, uc⟩).toArray 67) = V := ⟨_, rfl⟩
 go_enter Tryz.func156, Tryz.ntmps156
 go_upto_region 1 with fail
 rw [show w.alloc (.cells #[.int .i64 sh, strV rl, .int .i64 sv, strV fm, .bool op, .int .i64 uy, .int .i64 um, .int .i64 ud, .int .i64 ua, .int .i64 uc] 67) = V from hV]
 try rw [hB]
 rw [hV] at XV BV HMV SV
 clear hB hV
 cases hr : rl.isEmpty
 case true =>
  obtain rfl : rl = [] := List.isEmpty_iff.1 hr
  clear hr
  have SS : EraH B ⟨sh, [], sv, fm, op, uy, um, ud, ua, uc⟩ V.drew := XV.out
  have HMD : V.drew.cell? ⟨0, 0, none⟩ = some (.int .i64 m) := HMV.out
  have SD : B < V.drew.heap.size := SV.out
  refine wp_region_held_drew (S := fun w' => EraH B ⟨sh, [], sv, fm, op, uy, um, ud, ua, uc⟩ w') (by kernel_rfl) SS (fun hHeld => ?_)
  refine tkH 0 ?vz1 rfl ?z1 ?_
  case z1 => (intro w hSw; obtain ⟨s0, s1, s2, s3, s4, s5, s6, s7, s8, s9⟩ := hSw; go_simp; try with_reducible rfl)
  try simp only [Act.put, j]
  refine tkH 1 ?vz2 rfl ?z2 ?_
  case z2 => (intro w hSw; obtain ⟨s0, s1, s2, s3, s4, s5, s6, s7, s8, s9⟩ := hSw; go_simp; try with_reducible rfl)
  try simp only [Act.put, j]
  refine tkH 2 ?vz3 rfl ?z3 ?_
  case z3 => (intro w hSw; obtain ⟨s0, s1, s2, s3, s4, s5, s6, s7, s8, s9⟩ := hSw; go_simp; try with_reducible rfl)
  try simp only [Act.put, j]
  refine tkH 3 ?vz4 rfl ?z4 ?_
  case z4 => (intro w hSw; obtain ⟨s0, s1, s2, s3, s4, s5, s6, s7, s8, s9⟩ := hSw; go_simp; try with_reducible rfl)
  try simp only [Act.put, j]
  refine tkU 4 rfl ?_
  try simp only [Act.put, j]
  refine tkU 5 rfl ?_
  try simp only [Act.put, j]
  refine tkU 6 rfl ?_
  try simp only [Act.put, j]
  refine tkH 7 ?vz5 rfl ?z5 ?_
  case z5 => (intro w hSw; obtain ⟨s0, s1, s2, s3, s4, s5, s6, s7, s8, s9⟩ := hSw; go_simp; try with_reducible rfl)
  try simp only [Act.put, j]
  refine tkH 8 ?vz6 rfl ?z6 ?_
  case z6 => (intro w hSw; obtain ⟨s0, s1, s2, s3, s4, s5, s6, s7, s8, s9⟩ := hSw; go_simp; try with_reducible rfl)
  try simp only [Act.put, j]
  refine tkH 9 ?vz7 rfl ?z7 ?_
  case z7 => (intro w hSw; obtain ⟨s0, s1, s2, s3, s4, s5, s6, s7, s8, s9⟩ := hSw; go_simp; try with_reducible rfl)
  try simp only [Act.put, j]
  refine tkH 10 ?vz8 rfl ?z8 ?_
  case z8 => (intro w hSw; obtain ⟨s0, s1, s2, s3, s4, s5, s6, s7, s8, s9⟩ := hSw; go_simp; try with_reducible rfl)
  try simp only [Act.put, j]
  refine tkH 14 ?vz9 rfl ?z9 ?_
  case z9 => (intro w hSw; obtain ⟨s0, s1, s2, s3, s4, s5, s6, s7, s8, s9⟩ := hSw; go_simp; try with_reducible rfl)
  try simp only [Act.put, j]
  refine tkH 15 ?vz10 rfl ?z10 ?_
  case z10 => (intro w hSw; obtain ⟨s0, s1, s2, s3, s4, s5, s6, s7, s8, s9⟩ := hSw; go_simp; try with_reducible rfl)
  try simp only [Act.put, j]
  refine tkH 18 ?vz11 rfl ?z11 ?_
  case z11 => (intro w hSw; obtain ⟨s0, s1, s2, s3, s4, s5, s6, s7, s8, s9⟩ := hSw; go_simp; try with_reducible rfl)
  try simp only [Act.put, j]
  refine tkH 19 ?vz12 rfl ?z12 ?_
  case z12 => (intro w hSw; obtain ⟨s0, s1, s2, s3, s4, s5, s6, s7, s8, s9⟩ := hSw; go_simp; try with_reducible rfl)
  try simp only [Act.put, j]
  refine tkH 22 ?vz13 rfl ?z13 ?_
  case z13 => (intro w hSw; obtain ⟨s0, s1, s2, s3, s4, s5, s6, s7, s8, s9⟩ := hSw; go_simp; try with_reducible rfl)
  try simp only [Act.put, j]
  refine tkH 23 ?vz14 rfl ?z14 ?_
  case z14 => (intro w hSw; obtain ⟨s0, s1, s2, s3, s4, s5, s6, s7, s8, s9⟩ := hSw; go_simp; try with_reducible rfl)
  try simp only [Act.put, j]
  refine tkH 24 ?vz15 rfl ?z15 ?_
  case z15 => (intro w hSw; obtain ⟨s0, s1, s2, s3, s4, s5, s6, s7, s8, s9⟩ := hSw; go_simp; try with_reducible rfl)
  try simp only [Act.put, j]
  refine tkH 31 ?vz16 rfl ?z16 ?_
  case z16 => (intro w hSw; obtain ⟨s0, s1, s2, s3, s4, s5, s6, s7, s8, s9⟩ := hSw; go_simp; try with_reducible rfl)
  try simp only [Act.put, j]
  refine tkH 32 ?vz17 rfl ?z17 ?_
  case z17 => (intro w hSw; obtain ⟨s0, s1, s2, s3, s4, s5, s6, s7, s8, s9⟩ := hSw; go_simp; try with_reducible rfl)
  try simp only [Act.put, j]
  refine tkH 33 ?vz18 rfl ?z18 ?_
  case z18 => (intro w hSw; obtain ⟨s0, s1, s2, s3, s4, s5, s6, s7, s8, s9⟩ := hSw; go_simp; try with_reducible rfl)
  try simp only [Act.put, j]
  refine tkH 34 ?vz19 rfl ?z19 ?_
  case z19 => (intro w hSw; obtain ⟨s0, s1, s2, s3, s4, s5, s6, s7, s8, s9⟩ := hSw; go_simp; try with_reducible rfl)
  try simp only [Act.put, j]
  refine tkH 36 ?vz20 rfl ?z20 ?_
  case z20 => (intro w hSw; obtain ⟨s0, s1, s2, s3, s4, s5, s6, s7, s8, s9⟩ := hSw; go_simp; try with_reducible rfl)
  try simp only [Act.put, j]
  refine rdH 11 rfl fun K hK => ?_
  go_simp
  refine (pFormat_is fm m _ HF.out HMD HFF.out).mono ?_
  rintro e w2 ⟨rfl, nf, rfl⟩
  refine hK.out _ _ ?_ (fun hHeld => ?_)
  ·exact hHeld
  clear hK K
  try simp only [Act.put, j]
  refine tkH 12 ?vz21 rfl ?z21 ?_
  case z21 => (intro w hSw; obtain ⟨s0, s1, s2, s3, s4, s5, s6, s7, s8, s9⟩ := hSw; go_simp; try with_reducible rfl)
  try simp only [Act.put, j]
  refine rdH 13 rfl fun K hK => ?_
  go_simp
  refine (unless_any _ _ _).mono ?_
  rintro e w2 ⟨rfl, rfl⟩
  refine hK.out _ _ ?_ (fun hHeld => ?_)
  ·exact hHeld
  clear hK K
  try simp only [Act.put, j]
  refine rdH 16 rfl fun K hK => ?_
  go_simp
  refine (within_is sh (-64800) 64800 _ HA1.out).mono ?_
  rintro e w2 ⟨rfl, rfl⟩
  refine hK.out _ _ ?_ (fun hHeld => ?_)
  ·exact hHeld
  clear hK K
  try simp only [Act.put, j]
  refine rdH 17 rfl fun K hK => ?_
  go_simp
  refine (unless_any _ _ _).mono ?_
  rintro e w2 ⟨rfl, rfl⟩
  refine hK.out _ _ ?_ (fun hHeld => ?_)
  ·exact hHeld
  clear hK K
  try simp only [Act.put, j]
  refine rdH 20 rfl fun K hK => ?_
  go_simp
  refine (within_is sv 0 10800 _ HA2.out).mono ?_
  rintro e w2 ⟨rfl, rfl⟩
  refine hK.out _ _ ?_ (fun hHeld => ?_)
  ·exact hHeld
  clear hK K
  try simp only [Act.put, j]
  refine rdH 21 rfl fun K hK => ?_
  go_simp
  refine (unless_any _ _ _).mono ?_
  rintro e w2 ⟨rfl, rfl⟩
  refine hK.out _ _ ?_ (fun hHeld => ?_)
  ·exact hHeld
  clear hK K
  try simp only [Act.put, j]
  refine tkH 25 ?vz22 rfl ?z22 ?_
  case z22 => (intro w hSw; obtain ⟨s0, s1, s2, s3, s4, s5, s6, s7, s8, s9⟩ := hSw; go_simp; try with_reducible rfl)
  try simp only [Act.put, j]
  refine tkU 26 rfl ?_
  try simp only [Act.put, j]
  refine tkU 27 rfl ?_
  try simp only [Act.put, j]
  refine tkU 28 rfl ?_
  try simp only [Act.put, j]
  refine tkH 29 ?vz23 rfl ?z23 ?_
  case z23 => (intro w hSw; obtain ⟨s0, s1, s2, s3, s4, s5, s6, s7, s8, s9⟩ := hSw; go_simp; try with_reducible rfl)
  try simp only [Act.put, j]
  refine rdH 30 rfl fun K hK => ?_
  go_simp
  refine (unless_any _ _ _).mono ?_
  rintro e w2 ⟨rfl, rfl⟩
  refine hK.out _ _ ?_ (fun hHeld => ?_)
  ·exact hHeld
  clear hK K
  try simp only [Act.put, j]
  refine rdH 35 rfl fun K hK => ?_
  go_simp
  refine (unless_any _ _ _).mono ?_
  rintro e w2 ⟨rfl, rfl⟩
  refine hK.out _ _ ?_ (fun hHeld => ?_)
  ·exact hHeld
  clear hK K
  try simp only [Act.put, j]
  refine rdH 37 rfl fun K hK => ?_
  go_simp
  refine (pCheckEnd_any ⟨sh, [], sv, fm, op, uy, um, ud, ua, uc⟩ _).mono ?_
  rintro e w3 ⟨rfl, hb3⟩
  rw [HE.out]
  have S3 : EraH B ⟨sh, [], sv, fm, op, uy, um, ud, ua, uc⟩ w3 := eraH_below hHeld hb3 SD
  have BB : Hid (Below V.heap.size V w3) := by first | exact below_drewn hb3 | exact below_drew1 hb3
  have S4 : B < w3.heap.size := Nat.lt_of_lt_of_le SD hb3.size
  have CN := hid (ca_new w3 ([uE F 1, uE A1 3, uE A2 3, uE true 1, uE (op == last) 4, E].map (Value.int .i64)) 28)
  clear hb3
  refine hK.out _ _ ?_ (fun hHeld => ?_)
  ·exact S3
  clear hK K
  try simp only [Act.put, j]
  refine rdH 38 rfl fun K hK => ?_
  go_simp
  refine hK.out _ _ ?_ (fun hHeld => ?_)
  ·exact eraH_below S3 ((Below.refl _ _).alloc (Nat.le_refl _) _) S4
  clear hK K
  try simp only [Act.put, j]
  refine rdH 39 rfl fun K hK => ?_
  go_simp
  refine (or_any [uE F 1, uE A1 3, uE A2 3, uE true 1, uE (op == last) 4, E] w3.heap.size 6 _ CN.out (by simp)).mono ?_
  rintro e w2 ⟨rfl, rfl⟩
  refine hK.out _ _ ?_ (fun hHeld => ?_)
  ·exact hHeld
  clear hK K
  try simp only [Act.put, j]
  refine tkH 40 ?vz24 rfl ?z24 ?_
  case z24 => (intro w hSw; obtain ⟨s0, s1, s2, s3, s4, s5, s6, s7, s8, s9⟩ := hSw; go_simp; try with_reducible rfl)
  try simp only [Act.put, j]
  refine wpAnyH_done (by kernel_rfl) ?_ _
  have BF : Below w.heap.size w (w3.alloc (.cells ([uE F 1, uE A1 3, uE A2 3, uE true 1, uE (op == last) 4, E].map (Value.int .i64)).toArray 28)) := BV.out.trans ((BB.out.alloc BB.out.size _).mono BV.out.size)
  go_wp2
  go_ret
  exact ⟨ret_int (by simp []), BF⟩
 case false =>
  cases hN : Sx.nameB rl
  case true =>
   have HN := hid hN
   clear hN
   have SS : EraH B ⟨sh, rl, sv, fm, op, uy, um, ud, ua, uc⟩ V.drew := XV.out
   have HMD : V.drew.cell? ⟨0, 0, none⟩ = some (.int .i64 m) := HMV.out
   have SD : B < V.drew.heap.size := SV.out
   refine wp_region_held_drew (S := fun w' => EraH B ⟨sh, rl, sv, fm, op, uy, um, ud, ua, uc⟩ w') (by kernel_rfl) SS (fun hHeld => ?_)
   refine tkH 0 ?vz25 rfl ?z25 ?_
   case z25 => (intro w hSw; obtain ⟨s0, s1, s2, s3, s4, s5, s6, s7, s8, s9⟩ := hSw; go_simp; try with_reducible rfl)
   try simp only [Act.put, j]
   refine tkH 1 ?vz26 rfl ?z26 ?_
   case z26 => (intro w hSw; obtain ⟨s0, s1, s2, s3, s4, s5, s6, s7, s8, s9⟩ := hSw; go_simp; try with_reducible rfl)
   try simp only [Act.put, j]
   refine tkH 2 ?vz27 rfl ?z27 ?_
   case z27 => (intro w hSw; obtain ⟨s0, s1, s2, s3, s4, s5, s6, s7, s8, s9⟩ := hSw; go_simp; try with_reducible rfl)
   try simp only [Act.put, j]
   refine tkH 3 ?vz28 rfl ?z28 ?_
   case z28 => (intro w hSw; obtain ⟨s0, s1, s2, s3, s4, s5, s6, s7, s8, s9⟩ := hSw; go_simp; try with_reducible rfl)
   try simp only [Act.put, j]
   refine tkH 4 ?vz29 rfl ?z29 ?_
   case z29 => (intro w hSw; obtain ⟨s0, s1, s2, s3, s4, s5, s6, s7, s8, s9⟩ := hSw; go_simp; try with_reducible rfl)
   try simp only [Act.put, j]
   refine tkH 5 ?vz30 rfl ?z30 ?_
   case z30 => (intro w hSw; obtain ⟨s0, s1, s2, s3, s4, s5, s6, s7, s8, s9⟩ := hSw; go_simp; try with_reducible rfl)
   try simp only [Act.put, j]
   refine tkH 14 ?vz31 rfl ?z31 ?_
   case z31 => (intro w hSw; obtain ⟨s0, s1, s2, s3, s4, s5, s6, s7, s8, s9⟩ := hSw; go_simp; try with_reducible rfl)
   try simp only [Act.put, j]
   refine tkH 15 ?vz32 rfl ?z32 ?_
   case z32 => (intro w hSw; obtain ⟨s0, s1, s2, s3, s4, s5, s6, s7, s8, s9⟩ := hSw; go_simp; try with_reducible rfl)
   try simp only [Act.put, j]
   refine tkH 18 ?vz33 rfl ?z33 ?_
   case z33 => (intro w hSw; obtain ⟨s0, s1, s2, s3, s4, s5, s6, s7, s8, s9⟩ := hSw; go_simp; try with_reducible rfl)
   try simp only [Act.put, j]
   refine tkH 19 ?vz34 rfl ?z34 ?_
   case z34 => (intro w hSw; obtain ⟨s0, s1, s2, s3, s4, s5, s6, s7, s8, s9⟩ := hSw; go_simp; try with_reducible rfl)
   try simp only [Act.put, j]
   refine tkH 22 ?vz35 rfl ?z35 ?_
   case z35 => (intro w hSw; obtain ⟨s0, s1, s2, s3, s4, s5, s6, s7, s8, s9⟩ := hSw; go_simp; try with_reducible rfl)
   try simp only [Act.put, j]
   refine tkH 23 ?vz36 rfl ?z36 ?_
   case z36 => (intro w hSw; obtain ⟨s0, s1, s2, s3, s4, s5, s6, s7, s8, s9⟩ := hSw; go_simp; try with_reducible rfl)
   try simp only [Act.put, j]
   refine tkH 24 ?vz37 rfl ?z37 ?_
   case z37 => (intro w hSw; obtain ⟨s0, s1, s2, s3, s4, s5, s6, s7, s8, s9⟩ := hSw; go_simp; try with_reducible rfl)
   try simp only [Act.put, j]
   refine tkH 31 ?vz38 rfl ?z38 ?_
   case z38 => (intro w hSw; obtain ⟨s0, s1, s2, s3, s4, s5, s6, s7, s8, s9⟩ := hSw; go_simp; try with_reducible rfl)
   try simp only [Act.put, j]
   refine tkH 32 ?vz39 rfl ?z39 ?_
   case z39 => (intro w hSw; obtain ⟨s0, s1, s2, s3, s4, s5, s6, s7, s8, s9⟩ := hSw; go_simp; try with_reducible rfl)
   try simp only [Act.put, j]
   refine tkH 33 ?vz40 rfl ?z40 ?_
   case z40 => (intro w hSw; obtain ⟨s0, s1, s2, s3, s4, s5, s6, s7, s8, s9⟩ := hSw; go_simp; try with_reducible rfl)
   try simp only [Act.put, j]
   refine tkH 34 ?vz41 rfl ?z41 ?_
   case z41 => (intro w hSw; obtain ⟨s0, s1, s2, s3, s4, s5, s6, s7, s8, s9⟩ := hSw; go_simp; try with_reducible rfl)
   try simp only [Act.put, j]
   refine tkH 36 ?vz42 rfl ?z42 ?_
   case z42 => (intro w hSw; obtain ⟨s0, s1, s2, s3, s4, s5, s6, s7, s8, s9⟩ := hSw; go_simp; try with_reducible rfl)
   try simp only [Act.put, j]
   refine rdH 6 rfl fun K hK => ?_
   go_simp
   refine (pName_str rl _ HR.out HN.out).mono ?_
   rintro e w2 ⟨rfl, rfl⟩
   refine hK.out _ _ ?_ (fun hHeld => ?_)
   ·exact hHeld
   clear hK K
   try simp only [Act.put, j]
   refine tkH 7 ?vz43 rfl ?z43 ?_
   case z43 => (intro w hSw; obtain ⟨s0, s1, s2, s3, s4, s5, s6, s7, s8, s9⟩ := hSw; go_simp; try with_reducible rfl)
   try simp only [Act.put, j]
   refine tkH 8 ?vz44 rfl ?z44 ?_
   case z44 => (intro w hSw; obtain ⟨s0, s1, s2, s3, s4, s5, s6, s7, s8, s9⟩ := hSw; go_simp; try with_reducible rfl)
   try simp only [Act.put, j]
   refine tkH 9 ?vz45 rfl ?z45 ?_
   case z45 => (intro w hSw; obtain ⟨s0, s1, s2, s3, s4, s5, s6, s7, s8, s9⟩ := hSw; go_simp; try with_reducible rfl)
   try simp only [Act.put, j]
   refine tkH 10 ?vz46 rfl ?z46 ?_
   case z46 => (intro w hSw; obtain ⟨s0, s1, s2, s3, s4, s5, s6, s7, s8, s9⟩ := hSw; go_simp; try with_reducible rfl)
   try simp only [Act.put, j]
   refine rdH 11 rfl fun K hK => ?_
   go_simp
   refine (pFormat_is fm m _ HF.out HMD HFF.out).mono ?_
   rintro e w2 ⟨rfl, nf, rfl⟩
   refine hK.out _ _ ?_ (fun hHeld => ?_)
   ·exact hHeld
   clear hK K
   try simp only [Act.put, j]
   refine tkH 12 ?vz47 rfl ?z47 ?_
   case z47 => (intro w hSw; obtain ⟨s0, s1, s2, s3, s4, s5, s6, s7, s8, s9⟩ := hSw; go_simp; try with_reducible rfl)
   try simp only [Act.put, j]
   refine rdH 13 rfl fun K hK => ?_
   go_simp
   refine (unless_any _ _ _).mono ?_
   rintro e w2 ⟨rfl, rfl⟩
   refine hK.out _ _ ?_ (fun hHeld => ?_)
   ·exact hHeld
   clear hK K
   try simp only [Act.put, j]
   refine rdH 16 rfl fun K hK => ?_
   go_simp
   refine (within_is sh (-64800) 64800 _ HA1.out).mono ?_
   rintro e w2 ⟨rfl, rfl⟩
   refine hK.out _ _ ?_ (fun hHeld => ?_)
   ·exact hHeld
   clear hK K
   try simp only [Act.put, j]
   refine rdH 17 rfl fun K hK => ?_
   go_simp
   refine (unless_any _ _ _).mono ?_
   rintro e w2 ⟨rfl, rfl⟩
   refine hK.out _ _ ?_ (fun hHeld => ?_)
   ·exact hHeld
   clear hK K
   try simp only [Act.put, j]
   refine rdH 20 rfl fun K hK => ?_
   go_simp
   refine (within_is sv 0 10800 _ HA2.out).mono ?_
   rintro e w2 ⟨rfl, rfl⟩
   refine hK.out _ _ ?_ (fun hHeld => ?_)
   ·exact hHeld
   clear hK K
   try simp only [Act.put, j]
   refine rdH 21 rfl fun K hK => ?_
   go_simp
   refine (unless_any _ _ _).mono ?_
   rintro e w2 ⟨rfl, rfl⟩
   refine hK.out _ _ ?_ (fun hHeld => ?_)
   ·exact hHeld
   clear hK K
   try simp only [Act.put, j]
   refine tkH 25 ?vz48 rfl ?z48 ?_
   case z48 => (intro w hSw; obtain ⟨s0, s1, s2, s3, s4, s5, s6, s7, s8, s9⟩ := hSw; go_simp; try with_reducible rfl)
   try simp only [Act.put, j]
   refine tkH 26 ?vz49 rfl ?z49 ?_
   case z49 => (intro w hSw; obtain ⟨s0, s1, s2, s3, s4, s5, s6, s7, s8, s9⟩ := hSw; go_simp; try with_reducible rfl)
   try simp only [Act.put, j]
   refine tkH 27 ?vz50 rfl ?z50 ?_
   case z50 => (intro w hSw; obtain ⟨s0, s1, s2, s3, s4, s5, s6, s7, s8, s9⟩ := hSw; go_simp; try with_reducible rfl)
   try simp only [Act.put, j]
   refine tkH 28 ?vz51 rfl ?z51 ?_
   case z51 => (intro w hSw; obtain ⟨s0, s1, s2, s3, s4, s5, s6, s7, s8, s9⟩ := hSw; go_simp; try with_reducible rfl)
   try simp only [Act.put, j]
   refine tkH 29 ?vz52 rfl ?z52 ?_
   case z52 => (intro w hSw; obtain ⟨s0, s1, s2, s3, s4, s5, s6, s7, s8, s9⟩ := hSw; go_simp; try with_reducible rfl)
   try simp only [Act.put, j]
   refine rdH 30 rfl fun K hK => ?_
   go_simp
   refine (unless_any _ _ _).mono ?_
   rintro e w2 ⟨rfl, rfl⟩
   refine hK.out _ _ ?_ (fun hHeld => ?_)
   ·exact hHeld
   clear hK K
   try simp only [Act.put, j]
   refine rdH 35 rfl fun K hK => ?_
   go_simp
   refine (unless_any _ _ _).mono ?_
   rintro e w2 ⟨rfl, rfl⟩
   refine hK.out _ _ ?_ (fun hHeld => ?_)
   ·exact hHeld
   clear hK K
   try simp only [Act.put, j]
   refine rdH 37 rfl fun K hK => ?_
   go_simp
   refine (pCheckEnd_any ⟨sh, rl, sv, fm, op, uy, um, ud, ua, uc⟩ _).mono ?_
   rintro e w3 ⟨rfl, hb3⟩
   rw [HE.out]
   have S3 : EraH B ⟨sh, rl, sv, fm, op, uy, um, ud, ua, uc⟩ w3 := eraH_below hHeld hb3 SD
   have BB : Hid (Below V.heap.size V w3) := by first | exact below_drewn hb3 | exact below_drew1 hb3
   have S4 : B < w3.heap.size := Nat.lt_of_lt_of_le SD hb3.size
   have CN := hid (ca_new w3 ([uE F 1, uE A1 3, uE A2 3, uE (sv == 0) 1, uE (op == last) 4, E].map (Value.int .i64)) 28)
   clear hb3
   refine hK.out _ _ ?_ (fun hHeld => ?_)
   ·exact S3
   clear hK K
   try simp only [Act.put, j]
   refine rdH 38 rfl fun K hK => ?_
   go_simp
   refine hK.out _ _ ?_ (fun hHeld => ?_)
   ·exact eraH_below S3 ((Below.refl _ _).alloc (Nat.le_refl _) _) S4
   clear hK K
   try simp only [Act.put, j]
   refine rdH 39 rfl fun K hK => ?_
   go_simp
   refine (or_any [uE F 1, uE A1 3, uE A2 3, uE (sv == 0) 1, uE (op == last) 4, E] w3.heap.size 6 _ CN.out (by simp)).mono ?_
   rintro e w2 ⟨rfl, rfl⟩
   refine hK.out _ _ ?_ (fun hHeld => ?_)
   ·exact hHeld
   clear hK K
   try simp only [Act.put, j]
   refine tkH 40 ?vz53 rfl ?z53 ?_
   case z53 => (intro w hSw; obtain ⟨s0, s1, s2, s3, s4, s5, s6, s7, s8, s9⟩ := hSw; go_simp; try with_reducible rfl)
   try simp only [Act.put, j]
   refine wpAnyH_done (by kernel_rfl) ?_ _
   have BF : Below w.heap.size w (w3.alloc (.cells ([uE F 1, uE A1 3, uE A2 3, uE (sv == 0) 1, uE (op == last) 4, E].map (Value.int .i64)).toArray 28)) := BV.out.trans ((BB.out.alloc BB.out.size _).mono BV.out.size)
   go_wp2
   go_ret
   exact ⟨ret_int (by simp [hr, HN.out]), BF⟩
  case false =>
   have HN := hid hN
   clear hN
   have SS : EraH B ⟨sh, rl, sv, fm, op, uy, um, ud, ua, uc⟩ V.drew := XV.out
   have HMD : V.drew.cell? ⟨0, 0, none⟩ = some (.int .i64 m) := HMV.out
   have SD : B < V.drew.heap.size := SV.out
   refine wp_region_held_drew (S := fun w' => EraH B ⟨sh, rl, sv, fm, op, uy, um, ud, ua, uc⟩ w') (by kernel_rfl) SS (fun hHeld => ?_)
   refine tkH 0 ?vz54 rfl ?z54 ?_
   case z54 => (intro w hSw; obtain ⟨s0, s1, s2, s3, s4, s5, s6, s7, s8, s9⟩ := hSw; go_simp; try with_reducible rfl)
   try simp only [Act.put, j]
   refine tkH 1 ?vz55 rfl ?z55 ?_
   case z55 => (intro w hSw; obtain ⟨s0, s1, s2, s3, s4, s5, s6, s7, s8, s9⟩ := hSw; go_simp; try with_reducible rfl)
   try simp only [Act.put, j]
   refine tkH 2 ?vz56 rfl ?z56 ?_
   case z56 => (intro w hSw; obtain ⟨s0, s1, s2, s3, s4, s5, s6, s7, s8, s9⟩ := hSw; go_simp; try with_reducible rfl)
   try simp only [Act.put, j]
   refine tkH 3 ?vz57 rfl ?z57 ?_
   case z57 => (intro w hSw; obtain ⟨s0, s1, s2, s3, s4, s5, s6, s7, s8, s9⟩ := hSw; go_simp; try with_reducible rfl)
   try simp only [Act.put, j]
   refine tkH 4 ?vz58 rfl ?z58 ?_
   case z58 => (intro w hSw; obtain ⟨s0, s1, s2, s3, s4, s5, s6, s7, s8, s9⟩ := hSw; go_simp; try with_reducible rfl)
   try simp only [Act.put, j]
   refine tkH 5 ?vz59 rfl ?z59 ?_
   case z59 => (intro w hSw; obtain ⟨s0, s1, s2, s3, s4, s5, s6, s7, s8, s9⟩ := hSw; go_simp; try with_reducible rfl)
   try simp only [Act.put, j]
   refine tkH 14 ?vz60 rfl ?z60 ?_
   case z60 => (intro w hSw; obtain ⟨s0, s1, s2, s3, s4, s5, s6, s7, s8, s9⟩ := hSw; go_simp; try with_reducible rfl)
   try simp only [Act.put, j]
   refine tkH 15 ?vz61 rfl ?z61 ?_
   case z61 => (intro w hSw; obtain ⟨s0, s1, s2, s3, s4, s5, s6, s7, s8, s9⟩ := hSw; go_simp; try with_reducible rfl)
   try simp only [Act.put, j]
   refine tkH 18 ?vz62 rfl ?z62 ?_
   case z62 => (intro w hSw; obtain ⟨s0, s1, s2, s3, s4, s5, s6, s7, s8, s9⟩ := hSw; go_simp; try with_reducible rfl)
   try simp only [Act.put, j]
   refine tkH 19 ?vz63 rfl ?z63 ?_
   case z63 => (intro w hSw; obtain ⟨s0, s1, s2, s3, s4, s5, s6, s7, s8, s9⟩ := hSw; go_simp; try with_reducible rfl)
   try simp only [Act.put, j]
   refine tkH 22 ?vz64 rfl ?z64 ?_
   case z64 => (intro w hSw; obtain ⟨s0, s1, s2, s3, s4, s5, s6, s7, s8, s9⟩ := hSw; go_simp; try with_reducible rfl)
   try simp only [Act.put, j]
   refine tkH 23 ?vz65 rfl ?z65 ?_
   case z65 => (intro w hSw; obtain ⟨s0, s1, s2, s3, s4, s5, s6, s7, s8, s9⟩ := hSw; go_simp; try with_reducible rfl)
   try simp only [Act.put, j]
   refine tkH 24 ?vz66 rfl ?z66 ?_
   case z66 => (intro w hSw; obtain ⟨s0, s1, s2, s3, s4, s5, s6, s7, s8, s9⟩ := hSw; go_simp; try with_reducible rfl)
   try simp only [Act.put, j]
   refine tkH 31 ?vz67 rfl ?z67 ?_
   case z67 => (intro w hSw; obtain ⟨s0, s1, s2, s3, s4, s5, s6, s7, s8, s9⟩ := hSw; go_simp; try with_reducible rfl)
   try simp only [Act.put, j]
   refine tkH 32 ?vz68 rfl ?z68 ?_
   case z68 => (intro w hSw; obtain ⟨s0, s1, s2, s3, s4, s5, s6, s7, s8, s9⟩ := hSw; go_simp; try with_reducible rfl)
   try simp only [Act.put, j]
   refine tkH 33 ?vz69 rfl ?z69 ?_
   case z69 => (intro w hSw; obtain ⟨s0, s1, s2, s3, s4, s5, s6, s7, s8, s9⟩ := hSw; go_simp; try with_reducible rfl)
   try simp only [Act.put, j]
   refine tkH 34 ?vz70 rfl ?z70 ?_
   case z70 => (intro w hSw; obtain ⟨s0, s1, s2, s3, s4, s5, s6, s7, s8, s9⟩ := hSw; go_simp; try with_reducible rfl)
   try simp only [Act.put, j]
   refine tkH 36 ?vz71 rfl ?z71 ?_
   case z71 => (intro w hSw; obtain ⟨s0, s1, s2, s3, s4, s5, s6, s7, s8, s9⟩ := hSw; go_simp; try with_reducible rfl)
   try simp only [Act.put, j]
   refine rdH 6 rfl fun K hK => ?_
   go_simp
   refine (pName_str rl _ HR.out HN.out).mono ?_
   rintro e w2 ⟨rfl, rfl⟩
   refine hK.out _ _ ?_ (fun hHeld => ?_)
   ·exact hHeld
   clear hK K
   try simp only [Act.put, j]
   refine tkH 7 ?vz72 rfl ?z72 ?_
   case z72 => (intro w hSw; obtain ⟨s0, s1, s2, s3, s4, s5, s6, s7, s8, s9⟩ := hSw; go_simp; try with_reducible rfl)
   try simp only [Act.put, j]
   refine tkH 8 ?vz73 rfl ?z73 ?_
   case z73 => (intro w hSw; obtain ⟨s0, s1, s2, s3, s4, s5, s6, s7, s8, s9⟩ := hSw; go_simp; try with_reducible rfl)
   try simp only [Act.put, j]
   refine tkU 9 rfl ?_
   try simp only [Act.put, j]
   refine tkU 10 rfl ?_
   try simp only [Act.put, j]
   refine tkU 11 rfl ?_
   try simp only [Act.put, j]
   refine tkH 12 ?vz74 rfl ?z74 ?_
   case z74 => (intro w hSw; obtain ⟨s0, s1, s2, s3, s4, s5, s6, s7, s8, s9⟩ := hSw; go_simp; try with_reducible rfl)
   try simp only [Act.put, j]
   refine rdH 13 rfl fun K hK => ?_
   go_simp
   refine (unless_any _ _ _).mono ?_
   rintro e w2 ⟨rfl, rfl⟩
   refine hK.out _ _ ?_ (fun hHeld => ?_)
   ·exact hHeld
   clear hK K
   try simp only [Act.put, j]
   refine rdH 16 rfl fun K hK => ?_
   go_simp
   refine (within_is sh (-64800) 64800 _ HA1.out).mono ?_
   rintro e w2 ⟨rfl, rfl⟩
   refine hK.out _ _ ?_ (fun hHeld => ?_)
   ·exact hHeld
   clear hK K
   try simp only [Act.put, j]
   refine rdH 17 rfl fun K hK => ?_
   go_simp
   refine (unless_any _ _ _).mono ?_
   rintro e w2 ⟨rfl, rfl⟩
   refine hK.out _ _ ?_ (fun hHeld => ?_)
   ·exact hHeld
   clear hK K
   try simp only [Act.put, j]
   refine rdH 20 rfl fun K hK => ?_
   go_simp
   refine (within_is sv 0 10800 _ HA2.out).mono ?_
   rintro e w2 ⟨rfl, rfl⟩
   refine hK.out _ _ ?_ (fun hHeld => ?_)
   ·exact hHeld
   clear hK K
   try simp only [Act.put, j]
   refine rdH 21 rfl fun K hK => ?_
   go_simp
   refine (unless_any _ _ _).mono ?_
   rintro e w2 ⟨rfl, rfl⟩
   refine hK.out _ _ ?_ (fun hHeld => ?_)
   ·exact hHeld
   clear hK K
   try simp only [Act.put, j]
   refine tkH 25 ?vz75 rfl ?z75 ?_
   case z75 => (intro w hSw; obtain ⟨s0, s1, s2, s3, s4, s5, s6, s7, s8, s9⟩ := hSw; go_simp; try with_reducible rfl)
   try simp only [Act.put, j]
   refine tkH 26 ?vz76 rfl ?z76 ?_
   case z76 => (intro w hSw; obtain ⟨s0, s1, s2, s3, s4, s5, s6, s7, s8, s9⟩ := hSw; go_simp; try with_reducible rfl)
   try simp only [Act.put, j]
   refine tkH 27 ?vz77 rfl ?z77 ?_
   case z77 => (intro w hSw; obtain ⟨s0, s1, s2, s3, s4, s5, s6, s7, s8, s9⟩ := hSw; go_simp; try with_reducible rfl)
   try simp only [Act.put, j]
   refine tkH 28 ?vz78 rfl ?z78 ?_
   case z78 => (intro w hSw; obtain ⟨s0, s1, s2, s3, s4, s5, s6, s7, s8, s9⟩ := hSw; go_simp; try with_reducible rfl)
   try simp only [Act.put, j]
   refine tkH 29 ?vz79 rfl ?z79 ?_
   case z79 => (intro w hSw; obtain ⟨s0, s1, s2, s3, s4, s5, s6, s7, s8, s9⟩ := hSw; go_simp; try with_reducible rfl)
   try simp only [Act.put, j]
   refine rdH 30 rfl fun K hK => ?_
   go_simp
   refine (unless_any _ _ _).mono ?_
   rintro e w2 ⟨rfl, rfl⟩
   refine hK.out _ _ ?_ (fun hHeld => ?_)
   ·exact hHeld
   clear hK K
   try simp only [Act.put, j]
   refine rdH 35 rfl fun K hK => ?_
   go_simp
   refine (unless_any _ _ _).mono ?_
   rintro e w2 ⟨rfl, rfl⟩
   refine hK.out _ _ ?_ (fun hHeld => ?_)
   ·exact hHeld
   clear hK K
   try simp only [Act.put, j]
   refine rdH 37 rfl fun K hK => ?_
   go_simp
   refine (pCheckEnd_any ⟨sh, rl, sv, fm, op, uy, um, ud, ua, uc⟩ _).mono ?_
   rintro e w3 ⟨rfl, hb3⟩
   rw [HE.out]
   have S3 : EraH B ⟨sh, rl, sv, fm, op, uy, um, ud, ua, uc⟩ w3 := eraH_below hHeld hb3 SD
   have BB : Hid (Below V.heap.size V w3) := by first | exact below_drewn hb3 | exact below_drew1 hb3
   have S4 : B < w3.heap.size := Nat.lt_of_lt_of_le SD hb3.size
   have CN := hid (ca_new w3 ([uE false 1, uE A1 3, uE A2 3, uE (sv == 0) 1, uE (op == last) 4, E].map (Value.int .i64)) 28)
   clear hb3
   refine hK.out _ _ ?_ (fun hHeld => ?_)
   ·exact S3
   clear hK K
   try simp only [Act.put, j]
   refine rdH 38 rfl fun K hK => ?_
   go_simp
   refine hK.out _ _ ?_ (fun hHeld => ?_)
   ·exact eraH_below S3 ((Below.refl _ _).alloc (Nat.le_refl _) _) S4
   clear hK K
   try simp only [Act.put, j]
   refine rdH 39 rfl fun K hK => ?_
   go_simp
   refine (or_any [uE false 1, uE A1 3, uE A2 3, uE (sv == 0) 1, uE (op == last) 4, E] w3.heap.size 6 _ CN.out (by simp)).mono ?_
   rintro e w2 ⟨rfl, rfl⟩
   refine hK.out _ _ ?_ (fun hHeld => ?_)
   ·exact hHeld
   clear hK K
   try simp only [Act.put, j]
   refine tkH 40 ?vz80 rfl ?z80 ?_
   case z80 => (intro w hSw; obtain ⟨s0, s1, s2, s3, s4, s5, s6, s7, s8, s9⟩ := hSw; go_simp; try with_reducible rfl)
   try simp only [Act.put, j]
   refine wpAnyH_done (by kernel_rfl) ?_ _
   have BF : Below w.heap.size w (w3.alloc (.cells ([uE false 1, uE A1 3, uE A2 3, uE (sv == 0) 1, uE (op == last) 4, E].map (Value.int .i64)).toArray 28)) := BV.out.trans ((BB.out.alloc BB.out.size _).mono BV.out.size)
   go_wp2
   go_ret
   exact ⟨ret_int (by simp [hr, HN.out]), BF⟩
end
end Go.Proofs.YtkhlkohlccndgaaGreat
