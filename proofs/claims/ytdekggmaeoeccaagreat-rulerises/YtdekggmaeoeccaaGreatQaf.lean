/- Lists of lines in memory: lists that a call makes (OwnLines), and lists that can be read (RdLines). · What holds of the lines of a text, on plain lists. · append onto a row of one's own, inside a region that draws. · What the document's ParseOf has parsed so far, in memory; how a line's Taker begins and ends. · Contracts of the program's First over rules, fitsLimits and Check of a source that has rules alone. · The contract of the program's Check of a source that has rules alone. · Times of rules in plain terms: turns, in order; how far apart; times by a shift. They rise, are as many as there are years, and are no later further to the east. · Turns and times of rules in memory; contracts of the program's turnIn, step.time, and of how turns are compared. · A rule of which nothing is wrong has its day in each of its years: in plain terms. · What a round of a loop over an iterator keeps: all cells but the caller's box, and rows of the type that the caller gathers. · A loop over an iterator that, between two rounds, turns the one block that it laid first. The iterator's contract (SeqC), and the law of such a loop: the caller's invariant does not mind a turn of that block. · The contract of the iterator of rule.turns. · Steps from turn to turn: in plain terms; the contract of the iterator of rule.steps. · Contracts of rule.steps (the function value), rule.checkTurns$1, seek.First and seek.Has over steps, rule.checkTurns. · The contract of slices.AppendSeq over the turns of rules. · Contracts of rule.turns (the function value) and slices.Collect of it. · slices.SortFunc at a list of turns, at this dump: an application of the library s contract. · Contracts of slices.SortFunc at turns, slices.SortedFunc, rule.inOrder: the same turns, in order of how they stand. · Times of rules in plain terms, as the law asks after them. · What is wrong with turns in order, as the walk finds it, is what the plain words say; times of steps. Plain. · The contract of rule.Times. · The contract of rule.Times: turns of which something is wrong; and the whole. · A region that draws its order, in a round of a loop over an iterator: what is shown of it outside a round holds of it there. -/
import Derived.Test.YtdekggmaeoeccaaGreatQad
import Derived.Test.YtdekggmaeoeccaaGreatQaa
import Derived.Laws.AppendOwn
import Derived.Deep.RegionLaw
import Derived.Deep.RegionLawGrows
import Derived.Test.YtdekggmaeoeccaaGreatQae
import Derived.Test.YtdekggmaeoeccaaGreatQab
import Derived.RangeFuncNested
import Derived.RangeFuncBound
import Derived.RangeFuncCalls
import Derived.RangeFuncLeaves
import Derived.Shelf.Abstract
import Derived.Shelf.RegionOpen
import Derived.WalkKit
import Derived.OwnWalkIn
import Derived.TacticsInMore
import Derived.LoopNIn
import Derived.LoopIn
import Derived.Maps.AppendAt
import Derived.Shelf.SlSortCmp.NoneTotal
import Derived.Test.YtdekggmaeoeccaaGreatProg
import Derived.OrdersIn
import Derived.OrdersHeld
import Derived.OwnWalk
import Derived.Deep.RegionHeld3
namespace Go.Proofs.YtdekggmaeoeccaaGreat
open Go.RowKit
set_option linter.unusedVariables false
set_option linter.unusedSimpArgs false

theorem Tryz.infoLine : (Tryz.prog.info? 82).map (fun i => (i.zero, i.size, i.bytes)) = some (some (.agg #[.int .i64 0, .bool false, .slice none 0 0]), 3, 40) := by kernel_rfl

theorem three_cells (w : World) (a b c : Value) {e : TypeId} : ∀ (j : Nat) (x : Value), [a, b, c][j]? = some x → (w.alloc (.cells #[a, b, c] e)).cell? ((⟨w.heap.size, 0, none⟩ : Addr).add j) = some x := by
  intro j x hj
  match j, hj with
  | 0, hj => simp at hj; subst hj; simp [Addr.add]
  | 1, hj => simp at hj; subst hj; simp [Addr.add]
  | 2, hj => simp at hj; subst hj; simp [Addr.add]
theorem three_one (n : Int) (b : Bool) (a : Option Addr) (k c : Nat) : ∀ u ∈ [Value.int .i64 n, .bool b, .slice a k c], u.oneCell' = true := by
  intro u hu; simp at hu; rcases hu with rfl | rfl | rfl <;> rfl
def cellsOf : List Value → List Tx.Ln → List Value
  | v :: vs, l :: ls => .int .i64 l.number :: .bool l.inner :: v :: cellsOf vs ls
  | _, _ => []
theorem cellsOf_snoc : ∀ (vs : List Value) (ls : List Tx.Ln) (v : Value) (l : Tx.Ln), vs.length = ls.length → cellsOf (vs ++ [v]) (ls ++ [l]) = cellsOf vs ls ++ [.int .i64 l.number, .bool l.inner, v]
  | [], [], v, l, _ => rfl
  | a :: vs, b :: ls, v, l, h => by simp [cellsOf, cellsOf_snoc vs ls v l (by simpa using h)]
  | [], b :: ls, _, _, h => by simp at h
  | a :: vs, [], _, _, h => by simp at h
theorem cellsOf_get : ∀ (vs : List Value) (ls : List Tx.Ln) (i : Nat) (v : Value) (l : Tx.Ln), vs[i]? = some v → ls[i]? = some l → (cellsOf vs ls)[3 * i]? = some (.int .i64 l.number) ∧ (cellsOf vs ls)[3 * i + 1]? = some (.bool l.inner) ∧ (cellsOf vs ls)[3 * i + 2]? = some v
  | a :: vs, b :: ls, 0, v, l, h1, h2 => by simp at h1 h2; subst h1 h2; simp [cellsOf]
  | a :: vs, b :: ls, i + 1, v, l, h1, h2 => by
    have := cellsOf_get vs ls i v l (by simpa using h1) (by simpa using h2)
    simp only [cellsOf]
    refine ⟨?_, ?_, ?_⟩
    · rw [show 3 * (i + 1) = 3 * i + 1 + 1 + 1 by omega]; simpa using this.1
    · rw [show 3 * (i + 1) + 1 = (3 * i + 1) + 1 + 1 + 1 by omega]; simpa using this.2.1
    · rw [show 3 * (i + 1) + 2 = (3 * i + 2) + 1 + 1 + 1 by omega]; simpa using this.2.2
  | [], _, i, v, l, h1, _ => by simp at h1
  | a :: vs, [], i, v, l, _, h2 => by simp at h2

def OwnLines (w : World) (B : Nat) (v : Value) (ls : List Tx.Ln) : Prop :=
  ∃ vs : List Value, vs.length = ls.length ∧ w.ownsRow B 82 3 v ls.length (cellsOf vs ls) ∧
    ∀ (i : Nat) (fv : Value) (l : Tx.Ln), vs[i]? = some fv → ls[i]? = some l → w.ownsRow B 9 1 fv l.fields.length (l.fields.map strV)
theorem ownLines_nil (w : World) (B : Nat) : OwnLines w B (.slice none 0 0) [] := ⟨[], rfl, World.ownsRow_nil _ _ _ _, fun i fv l h => by simp at h⟩
theorem ownLines_below {W w' : World} {B : Nat} {v : Value} {ls : List Tx.Ln} (h : OwnLines W B v ls) (hb : Below W.heap.size W w') : OwnLines w' B v ls := by
  obtain ⟨vs, h1, h2, h3⟩ := h
  exact ⟨vs, h1, owns_below h2 hb, fun i fv l a b => owns_below (h3 i fv l a b) hb⟩
theorem ownLines_app {w1 w3 : World} {B : Nat} {v v' fv : Value} {vs : List Value} {ls : List Tx.Ln} {l : Tx.Ln} {o : Obj} (hl : vs.length = ls.length) (hown : w1.ownsRow B 82 3 v ls.length (cellsOf vs ls))
    (hf : ∀ (i : Nat) (fv : Value) (l : Tx.Ln), vs[i]? = some fv → ls[i]? = some l → w1.ownsRow B 9 1 fv l.fields.length (l.fields.map strV)) (hfv : w1.ownsRow B 9 1 fv l.fields.length (l.fields.map strV))
    (hown' : w3.ownsRow B 82 3 v' (ls.length + 1) (cellsOf vs ls ++ [.int .i64 l.number, .bool l.inner, fv])) (hg : (w1.alloc o).grownBy w3 v.ownBlock) : OwnLines w3 B v' (ls ++ [l]) := by
  have keep : ∀ fv (l : Tx.Ln), w1.ownsRow B 9 1 fv l.fields.length (l.fields.map strV) → w3.ownsRow B 9 1 fv l.fields.length (l.fields.map strV) := fun fv l h =>
    (h.alloc o).kept hg (owns_ne h hown (by decide))
  refine ⟨vs ++ [fv], by simp [hl], ?_, ?_⟩
  · rw [cellsOf_snoc vs ls fv l hl]; simpa using hown'
  · intro i x y hx hy
    by_cases h : i < ls.length
    · rw [List.getElem?_append_left (by omega)] at hx
      rw [List.getElem?_append_left h] at hy
      exact keep x y (hf i x y hx hy)
    · have hi : i = ls.length := by
        have := (List.getElem?_eq_some_iff.1 hy).1
        simp at this; omega
      subst hi
      rw [← hl] at hx
      simp at hx hy
      subst hx hy
      exact keep fv l hfv
theorem ownLines_shape {w : World} {B : Nat} {v : Value} {ls : List Tx.Ln} (h : OwnLines w B v ls) : ∃ a cap, v = .slice a ls.length cap := by
  obtain ⟨vs, _, h2, _⟩ := h
  exact owns_shape0 h2

/- what can be read: a list of texts, a list of lines -/
def RdStrs (w : World) (v : Value) (fs : List Tx.Bs) : Prop :=
  ∃ a cap, v = .slice a fs.length cap ∧ (fs ≠ [] → ∃ b o, a = some ⟨b, o, none⟩ ∧ b < w.heap.size ∧ ∀ i f, fs[i]? = some f → w.cell? ⟨b, o + i, none⟩ = some (strV f))
def RdLines (w : World) (v : Value) (ls : List Tx.Ln) : Prop :=
  ∃ a cap, v = .slice a ls.length cap ∧ (ls ≠ [] → ∃ b o, a = some ⟨b, o, none⟩ ∧ b < w.heap.size ∧ ∀ i l, ls[i]? = some l → w.cell? ⟨b, o + i * 3, none⟩ = some (.int .i64 l.number) ∧ w.cell? ⟨b, o + i * 3 + 1, none⟩ = some (.bool l.inner) ∧ ∃ fv, w.cell? ⟨b, o + i * 3 + 2, none⟩ = some fv ∧ RdStrs w fv l.fields)
theorem rdStrs_below {W w' : World} {v : Value} {fs : List Tx.Bs} (h : RdStrs W v fs) (hb : Below W.heap.size W w') : RdStrs w' v fs := by
  obtain ⟨a, cap, h1, h2⟩ := h
  refine ⟨a, cap, h1, fun hn => ?_⟩
  obtain ⟨b, o, h3, h4, h5⟩ := h2 hn
  exact ⟨b, o, h3, Nat.lt_of_lt_of_le h4 hb.size, fun i f hf => (hb.cell (p := ⟨b, o + i, none⟩) h4).trans (h5 i f hf)⟩
theorem rdLines_below {W w' : World} {v : Value} {ls : List Tx.Ln} (h : RdLines W v ls) (hb : Below W.heap.size W w') : RdLines w' v ls := by
  obtain ⟨a, cap, h1, h2⟩ := h
  refine ⟨a, cap, h1, fun hn => ?_⟩
  obtain ⟨b, o, h3, h4, h5⟩ := h2 hn
  refine ⟨b, o, h3, Nat.lt_of_lt_of_le h4 hb.size, fun i l hl => ?_⟩
  obtain ⟨c0, c1, fv, c2, r⟩ := h5 i l hl
  exact ⟨(hb.cell (p := ⟨b, o + i * 3, none⟩) h4).trans c0, (hb.cell (p := ⟨b, o + i * 3 + 1, none⟩) h4).trans c1, fv, (hb.cell (p := ⟨b, o + i * 3 + 2, none⟩) h4).trans c2, rdStrs_below r hb⟩
theorem owns_rdStrs {w : World} {B : Nat} {v : Value} {fs : List Tx.Bs} (h : w.ownsRow B 9 1 v fs.length (fs.map strV)) : RdStrs w v fs := by
  obtain ⟨a, cap, rfl⟩ := owns_shape0 h
  refine ⟨a, cap, rfl, fun hn => ?_⟩
  cases a with
  | none =>
    rcases h.2 with ⟨_, h0⟩ | ⟨g, c, cur, h1, _⟩
    · exact absurd (List.length_eq_zero_iff.1 h0) hn
    · simp at h1
  | some a =>
    obtain ⟨h1, h2, h3, h4, h5⟩ := owns_cell (g := 0) h
    obtain ⟨ab, ao, ap⟩ := a
    simp at h1 h2 h4 h5
    subst h1 h2
    exact ⟨ab, 0, rfl, h4, fun i f hf => by simpa using h5 i f hf⟩
theorem own_rdLines {w : World} {B : Nat} {v : Value} {ls : List Tx.Ln} (h : OwnLines w B v ls) : RdLines w v ls := by
  obtain ⟨vs, hl, h2, h3⟩ := h
  obtain ⟨a, cap, rfl⟩ := owns_shape0 h2
  refine ⟨a, cap, rfl, fun hn => ?_⟩
  cases a with
  | none =>
    rcases h2.2 with ⟨_, h0⟩ | ⟨g, c, cur, h1, _⟩
    · exact absurd (List.length_eq_zero_iff.1 h0) hn
    · simp at h1
  | some a =>
    obtain ⟨q1, q2, q3, q4, q5⟩ := owns_cell (g := 0) h2
    obtain ⟨ab, ao, ap⟩ := a
    simp at q1 q2 q4 q5
    subst q1 q2
    refine ⟨ab, 0, rfl, q4, fun i l hi => ?_⟩
    have hlt : i < vs.length := by rw [hl]; exact (List.getElem?_eq_some_iff.1 hi).1
    have hv : vs[i]? = some vs[i] := List.getElem?_eq_getElem hlt
    obtain ⟨g0, g1, g2⟩ := cellsOf_get vs ls i vs[i] l hv hi
    rw [Nat.mul_comm 3 i] at g0 g1 g2
    exact ⟨by simpa using q5 _ _ g0, by simpa using q5 _ _ g1, vs[i], by simpa using q5 _ _ g2, owns_rdStrs (h3 i _ l hv hi)⟩
end Go.Proofs.YtdekggmaeoeccaaGreat
namespace Go.Proofs.YtdekggmaeoeccaaGreat.Tx
set_option linter.unusedSimpArgs false
set_option linter.unusedVariables false

theorem fields_count : ∀ (m n : Nat) (l : Bs), n ≤ 12 → (fields m n l).1.length + n ≤ 12
  | 0, n, l, h => by simp [fields]; exact h
  | m + 1, n, l, h => by
    unfold fields
    cases hk : skip l with
    | nil => simpa using h
    | cons c r =>
      simp only
      split
      · simpa using h
      · cases hf : field (c :: r) with
        | none => simpa using h
        | some p =>
          simp only
          split
          · simpa using h
          · rename_i hm
            split
            · have := fields_count m (n + 1) p.2 (by omega)
              simp at this ⊢; omega
            · simpa using h
theorem fields_each : ∀ (m n : Nat) (l : Bs), ∀ f ∈ (fields m n l).1, f.length ≤ 24
  | 0, n, l => by simp [fields]
  | m + 1, n, l => by
    unfold fields
    cases hk : skip l with
    | nil => simp
    | cons c r =>
      simp only
      split
      · simp
      · cases hf : field (c :: r) with
        | none => simp
        | some p =>
          simp only
          split
          · simp
          · rename_i hm
            split
            · have := fields_each m (n + 1) p.2
              intro f hf'
              simp at hf'
              rcases hf' with rfl | hf'
              · omega
              · exact this f hf'
            · simp
theorem go_lines : ∀ (rs : List Bs) (n : Int), ∀ l ∈ (go n rs).lines, ∃ r ∈ rs, l.fields = (rowF r).1 ∧ l.inner = inner r ∧ (rowF r).2 = 0 ∧ (rowF r).1 ≠ []
  | [], n => by simp [go]
  | r :: rs, n => by
    intro l hl
    unfold go at hl
    split at hl
    · simp at hl
    · rename_i h1
      split at hl
      · simp at hl
      · simp only at hl
        split at hl
        · obtain ⟨x, hx, q⟩ := go_lines rs (n + 1) l hl
          exact ⟨x, by simp [hx], q⟩
        · rename_i h3
          simp at hl
          rcases hl with rfl | hl
          · exact ⟨r, by simp, rfl, rfl, by simpa using h1, h3⟩
          · obtain ⟨x, hx, q⟩ := go_lines rs (n + 1) l hl
            exact ⟨x, by simp [hx], q⟩
theorem split_tidy (s : Bs) : Tidy (split s) := by
  unfold split
  split
  · simp [Tidy]
  · split
    · rename_i h; simp [Tidy, h]
    · split
      · simp [Tidy]
      · simp [Tidy]
theorem split_lines (s : Bs) : (split s).lines.length ≤ 200 ∧ ∀ l ∈ (split s).lines, ∃ r, l.fields = (rowF r).1 ∧ l.inner = inner r ∧ (rowF r).2 = 0 ∧ (rowF r).1 ≠ [] := by
  unfold split
  split
  · simp
  · split
    · simp
    · split
      · simp
      · rename_i h
        refine ⟨by simpa using h, ?_⟩
        intro l hl
        obtain ⟨r, _, q⟩ := go_lines _ _ l hl
        exact ⟨r, q⟩
theorem split_counts (s : Bs) : ∀ l ∈ (split s).lines, l.fields.length ≤ 12 ∧ ∀ f ∈ l.fields, f.length ≤ 24 := by
  intro l hl
  obtain ⟨r, h, _⟩ := (split_lines s).2 l hl
  rw [h]
  exact ⟨fields_count (r.length + 1) 0 r (by omega), fields_each _ _ _⟩
end Go.Proofs.YtdekggmaeoeccaaGreat.Tx
namespace Go.Proofs.YtdekggmaeoeccaaGreat
open Go.RowKit
set_option linter.unusedVariables false
set_option linter.unusedSimpArgs false

theorem step_append_own {P : Program} {ops : Array Oper} {o : Oper} {a : Act} {w : World} {K : Act → World → Prop} {Q : Exit → Act → World → Prop} {E : Prop}
    (hg : o.guard = none) (s x : Operand) (t : TypeId) (hop : o.op = Op.call { callee := Callee.builtin Builtin.append, args := #[s, x], argTypes := #[t, t] })
    (base : Nat) (e : TypeId) (i : TypeInfo) (z : Value) (size bytes : Nat) (h1 : P.underlying t = some (.slice e)) (h2 : P.info? e = some i) (h3 : i.zero = some z) (h4 : i.size = size) (h5 : i.bytes = bytes) (h6 : z.cells.size = size) (h7 : 0 < size)
    (v : Value) (n : Nat) (xs : List Value) (hs : a.eval s = v) (hown : w.ownsRow base e size v n xs)
    (ad : Addr) (m c : Nat) (news : List Value) (hx : a.eval x = .slice (some ad) m c) (hn : news.length = m * size) (hc : ∀ j u, news[j]? = some u → w.cell? (ad.add j) = some u) (h1c : ∀ u ∈ news, u.oneCell' = true)
    (b1 : n + m ≤ maxLen) (b2 : (n + m) * bytes ≤ 140737488355328) (hbase : base ≤ w.heap.size)
    (hK : ∀ v' w', w'.ownsRow base e size v' (n + m) (xs ++ news) → w.grownBy w' v.ownBlock → K (a.put o.dst v') w') :
    if Region.wanted o (yielded ops a.tmps) = true then Oper.wp P o a w K Q else E := by
  have hw : Region.wanted o (yielded ops a.tmps) = true := by simp [Region.wanted, hg]
  rw [if_pos hw]
  obtain ⟨v', w', hrun, r1, r2, _⟩ := run_append_own (P := P) w base t o.type e i z size bytes h1 h2 h3 h4 h5 h6 h7 v n xs hown ad m c news hn hc h1c b1 b2 hbase
  unfold Oper.wp
  simp [execOp, hop, resolve, invoke, builtin, hs, hx, hrun, Result.andThen]
  exact hK v' w' r1 r2

/- .. and of any list, an empty one too, whether it lies anywhere or not -/
theorem run_append_any {P : Program} (w : World) (base : Nat) (t ty e : TypeId) (i : TypeInfo) (z : Value) (size bytes : Nat) (h1 : P.underlying t = some (.slice e)) (h2 : P.info? e = some i) (h3 : i.zero = some z) (h4 : i.size = size) (h5 : i.bytes = bytes) (h6 : z.cells.size = size) (h7 : 0 < size)
    (v : Value) (n : Nat) (xs : List Value) (hown : w.ownsRow base e size v n xs)
    (xa : Option Addr) (m c : Nat) (news : List Value) (hn : news.length = m * size) (hc : ∀ ad, xa = some ad → ∀ j u, news[j]? = some u → w.cell? (ad.add j) = some u) (h0 : xa = none → m = 0) (h1c : ∀ u ∈ news, u.oneCell' = true)
    (b1 : n + m ≤ maxLen) (b2 : (n + m) * bytes ≤ 140737488355328) (hbase : base ≤ w.heap.size) :
    ∃ v' w', (Builtin.append_ #[t, t] ty #[v, .slice xa m c]).run P w = .ok v' w' ∧ w'.ownsRow base e size v' (n + m) (xs ++ news) ∧ w.grownBy w' v.ownBlock := by
  cases xa with
  | some ad =>
    obtain ⟨v', w', r0, r1, r2, _⟩ := run_append_own (P := P) w base t ty e i z size bytes h1 h2 h3 h4 h5 h6 h7 v n xs hown ad m c news hn (hc ad rfl) h1c b1 b2 hbase
    exact ⟨v', w', r0, r1, r2⟩
  | none =>
    obtain rfl := h0 rfl
    have hnil : news = [] := List.eq_nil_of_length_eq_zero (by simpa using hn)
    subst hnil
    subst h4
    refine ⟨v, w, ?_, by simpa using hown, ⟨rfl, rfl, rfl, Nat.le_refl _, fun _ _ _ => rfl⟩⟩
    rcases hown.2 with ⟨rfl, rfl⟩ | ⟨g, cap, cur, rfl, _, hg, hnc, _⟩
    · simp [Builtin.append_, run_underlying h1, sizeOf, typeInfo, h2, Builtin.lenOf, Builtin.firstCells]
    · simp [Builtin.append_, run_underlying h1, sizeOf, typeInfo, h2, Builtin.lenOf, Builtin.firstCells, hnc, storeCells]
theorem step_append_any {P : Program} {ops : Array Oper} {o : Oper} {a : Act} {w : World} {K : Act → World → Prop} {Q : Exit → Act → World → Prop} {E : Prop}
    (hg : o.guard = none) (s x : Operand) (t : TypeId) (hop : o.op = Op.call { callee := Callee.builtin Builtin.append, args := #[s, x], argTypes := #[t, t] })
    (base : Nat) (e : TypeId) (i : TypeInfo) (z : Value) (size bytes : Nat) (h1 : P.underlying t = some (.slice e)) (h2 : P.info? e = some i) (h3 : i.zero = some z) (h4 : i.size = size) (h5 : i.bytes = bytes) (h6 : z.cells.size = size) (h7 : 0 < size)
    (v : Value) (n : Nat) (xs : List Value) (hs : a.eval s = v) (hown : w.ownsRow base e size v n xs)
    (xa : Option Addr) (m c : Nat) (news : List Value) (hx : a.eval x = .slice xa m c) (hn : news.length = m * size) (hc : ∀ ad, xa = some ad → ∀ j u, news[j]? = some u → w.cell? (ad.add j) = some u) (h0 : xa = none → m = 0) (h1c : ∀ u ∈ news, u.oneCell' = true)
    (b1 : n + m ≤ maxLen) (b2 : (n + m) * bytes ≤ 140737488355328) (hbase : base ≤ w.heap.size)
    (hK : ∀ v' w', w'.ownsRow base e size v' (n + m) (xs ++ news) → w.grownBy w' v.ownBlock → K (a.put o.dst v') w') :
    if Region.wanted o (yielded ops a.tmps) = true then Oper.wp P o a w K Q else E := by
  have hw : Region.wanted o (yielded ops a.tmps) = true := by simp [Region.wanted, hg]
  rw [if_pos hw]
  obtain ⟨v', w', hrun, r1, r2⟩ := run_append_any (P := P) w base t o.type e i z size bytes h1 h2 h3 h4 h5 h6 h7 v n xs hown xa m c news hn hc h0 h1c b1 b2 hbase
  unfold Oper.wp
  simp [execOp, hop, resolve, invoke, builtin, hs, hx, hrun, Result.andThen]
  exact hK v' w' r1 r2
theorem wpList_append_any {P : Program} {w : World} {ops : Array Oper} {rest : List Oper} {o : Oper} {a : Act} {Q : Exit → Act → World → Prop} (hgd : o.guard = none) (s x : Operand) (t : TypeId)
    (hop : o.op = Op.call { callee := Callee.builtin Builtin.append, args := #[s, x], argTypes := #[t, t] })
    (base : Nat) (e : TypeId) (i : TypeInfo) (z : Value) (size bytes : Nat) (h1 : P.underlying t = some (.slice e)) (h2 : P.info? e = some i) (h3 : i.zero = some z) (h4 : i.size = size) (h5 : i.bytes = bytes) (h6 : z.cells.size = size) (h7 : 0 < size)
    (v : Value) (n : Nat) (xs : List Value) (hs : a.eval s = v) (hown : w.ownsRow base e size v n xs)
    (xa : Option Addr) (m c : Nat) (news : List Value) (hx : a.eval x = .slice xa m c) (hn : news.length = m * size) (hc : ∀ ad, xa = some ad → ∀ j u, news[j]? = some u → w.cell? (ad.add j) = some u) (h0 : xa = none → m = 0) (h1c : ∀ u ∈ news, u.oneCell' = true)
    (b1 : n + m ≤ maxLen) (b2 : (n + m) * bytes ≤ 140737488355328) (hbase : base ≤ w.heap.size)
    (h : ∀ v' w', w'.ownsRow base e size v' (n + m) (xs ++ news) → w.grownBy w' v.ownBlock → wpList P ops Q rest (a.put o.dst v') w') : wpList P ops Q (o :: rest) a w := by
  refine wpList_plain hgd fun K hK => ?_
  obtain ⟨v', w', hrun, r1, r2⟩ := run_append_any (P := P) w base t o.type e i z size bytes h1 h2 h3 h4 h5 h6 h7 v n xs hown xa m c news hn hc h0 h1c b1 b2 hbase
  unfold Oper.wp
  simp [execOp, hop, resolve, invoke, builtin, hs, hx, hrun, Result.andThen]
  exact hK _ _ (h v' w' r1 r2)
end Go.Proofs.YtdekggmaeoeccaaGreat
namespace Go.Proofs.YtdekggmaeoeccaaGreat
open Go.RowKit
set_option linter.unusedVariables false
set_option linter.unusedSimpArgs false

abbrev nilS : Value := .slice none 0 0
theorem Tryz.infoRule : (Tryz.prog.info? 31).map (fun i => (i.zero, i.size, i.bytes)) = some (some (.agg #[.string ⟨#[]⟩, .int .i64 0, .int .i64 0, .int .i64 0, .int .i64 0, .int .i64 0, .int .i64 0, .int .i64 0, .int .i64 0, .int .i64 0, .string ⟨#[]⟩]), 11, 104) := by kernel_rfl
theorem Tryz.infoEra : (Tryz.prog.info? 91).map (fun i => (i.zero, i.size, i.bytes)) = some (some (.agg #[.int .i64 0, .string ⟨#[]⟩, .int .i64 0, .string ⟨#[]⟩, .bool false, .int .i64 0, .int .i64 0, .int .i64 0, .int .i64 0, .int .i64 0]), 10, 96) := by kernel_rfl
theorem Tryz.infoZone : (Tryz.prog.info? 64).map (fun i => (i.zero, i.size, i.bytes)) = some (some (.agg #[.string ⟨#[]⟩, .slice none 0 0]), 2, 40) := by kernel_rfl
theorem Tryz.infoLink : (Tryz.prog.info? 68).map (fun i => (i.zero, i.size, i.bytes)) = some (some (.agg #[.string ⟨#[]⟩, .string ⟨#[]⟩]), 2, 32) := by kernel_rfl

/- a line of a list of lines that a call has made -/
theorem ownLine_at {w : World} {B : Nat} {a : Option Addr} {n cap : Nat} {ls : List Tx.Ln} {i : Nat} {l : Tx.Ln} (h : OwnLines w B (.slice a n cap) ls) (hl : ls[i]? = some l) :
    ∃ g fa fcap, a = some ⟨g, 0, none⟩ ∧ (B ≤ g ∧ g < w.heap.size) ∧ w.cell? ⟨g, i * 3, none⟩ = some (.int .i64 l.number) ∧ w.cell? ⟨g, i * 3 + 1, none⟩ = some (.bool l.inner) ∧ w.cell? ⟨g, i * 3 + 2, none⟩ = some (.slice fa l.fields.length fcap) ∧ w.ownsRow B 9 1 (.slice fa l.fields.length fcap) l.fields.length (l.fields.map strV) := by
  obtain ⟨vs, hlen, h2, h3⟩ := h
  have hlt := (List.getElem?_eq_some_iff.1 hl).1
  rcases h2.2 with ⟨_, h0⟩ | ⟨g, c, cur, e, hrest⟩
  · omega
  simp at e
  obtain ⟨rfl, rfl, rfl⟩ := e
  obtain ⟨_, _, q3, q4, q5⟩ := owns_cell (g := 0) h2
  have hv : vs[i]? = some (vs[i]'(by omega)) := List.getElem?_eq_getElem _
  obtain ⟨g0, g1, g2⟩ := cellsOf_get vs ls i _ l hv hl
  have ho := h3 i _ l hv hl
  obtain ⟨fa, fcap, e⟩ := owns_shape0 ho
  rw [Nat.mul_comm 3 i] at g0 g1 g2
  refine ⟨g, fa, fcap, rfl, ⟨q3, q4⟩, q5 _ _ g0, q5 _ _ g1, ?_, ?_⟩
  · rw [← e]; exact q5 _ _ g2
  · rw [← e]; exact ho
/- a Taker of its fields -/
theorem tkO_new {w : World} {B : Nat} {fa : Option Addr} {fcap : Nat} {fs : List Tx.Bs} {t : TypeId} (h : w.ownsRow B 9 1 (.slice fa fs.length fcap) fs.length (fs.map strV)) (h12 : fs.length ≤ 12) (h24 : ∀ f ∈ fs, f.length ≤ 24) :
    TkO (w.alloc (.cells #[.slice fa fs.length fcap, .bool false] t)) w.heap.size (w.heap.size + 1) (some fs) := by
  have hc := ca_new w [.slice fa fs.length fcap, .bool false] t
  obtain ⟨c0, z0⟩ := ca_at hc 0 rfl
  obtain ⟨c1, z1⟩ := ca_at hc 1 rfl
  have hcap : fs.length ≤ fcap := by
    rcases h.2 with ⟨e, h0⟩ | ⟨g, c, cur, e, hb, hg, hn, _⟩
    · omega
    · simp at e; rw [e.2]; exact hn
  refine ⟨show TkS _ _ _ _ _ from ⟨by omega, by simp, ⟨fa, fcap, c0, hcap, fun hn => ?_⟩, c1, z0, z1, h12, h24⟩⟩
  rcases h.2 with ⟨e, h0⟩ | ⟨g, c, cur, e, hb, hg, hm, hrest⟩
  · exact absurd (List.length_eq_zero_iff.1 h0) hn
  simp at e
  obtain ⟨rfl, rfl⟩ := e
  obtain ⟨_, _, q3, q4, q5⟩ := owns_cell (g := 0) h
  simp only at q4 q5
  refine ⟨g, 0, rfl, by omega, by omega, fun i f hf => ?_⟩
  rw [World.cell?_of_block (w := w) (Below.heap_alloc _ _ _ q4)]
  rw [show 0 + i = i by omega]
  exact q5 i _ (by simp [hf])
/- how it ends -/
structure TkE (w : World) (b : Nat) (o : Sx.O) : Prop where
  lt : b < w.heap.size
  out : ∃ a n cap bad, w.cell? ⟨b, 0, none⟩ = some (.slice a n cap) ∧ w.cell? ⟨b, 1, none⟩ = some (.bool bad) ∧ (bad = false → ∃ fs, o = some fs ∧ fs.length = n) ∧ (bad = true → o = none)
theorem tkO_end {w : World} {b lim : Nat} {o : Sx.O} (h : TkO w b lim o) : TkE w b o := by
  refine ⟨tkO_lt h, ?_⟩
  match o, h with
  | none, h =>
    obtain ⟨fs, h⟩ := h.out
    obtain ⟨a, cap, c0, _⟩ := h.c0
    exact ⟨a, _, cap, true, c0, h.c1, fun q => (by cases q), fun _ => rfl⟩
  | some fs, h =>
    have h : TkS w b lim false fs := h.out
    obtain ⟨a, cap, c0, _⟩ := h.c0
    exact ⟨a, _, cap, false, c0, h.c1, fun _ => ⟨fs, rfl, rfl⟩, fun q => (by cases q)⟩
theorem tkE_block {w w1 : World} {b : Nat} {o : Sx.O} (h : TkE w b o) (hs : w.heap.size ≤ w1.heap.size) (hk : w1.heap[b]? = w.heap[b]?) : TkE w1 b o := by
  obtain ⟨lt, a, n, cap, bad, c0, c1, e1, e2⟩ := h
  exact ⟨by omega, a, n, cap, bad, by rw [World.cell?_of_block (w := w) hk]; exact c0, by rw [World.cell?_of_block (w := w) hk]; exact c1, e1, e2⟩

/- what was parsed so far: X: the variable; B: rows of its own lie from there on; below W's end nothing turns -/
structure PS (W w : World) (X B : Nat) (r z l : Value) (s : Sx.Sr) : Prop where
  bel : Below W.heap.size W w
  hX : W.heap.size ≤ X
  hXB : X < B
  hB : B ≤ w.heap.size
  box : CellsAt w X [r, z, l]
  own : OwnSrc w B r z l s
section
variable {W w w1 w2 : World} {X B : Nat} {r z l : Value} {s : Sx.Sr}
theorem ps_below (h : PS W w X B r z l s) (hb : Below w.heap.size w w1) : PS W w1 X B r z l s :=
  ⟨h.bel.trans (hb.mono h.bel.size), h.hX, h.hXB, Nat.le_trans h.hB hb.size, ca_below h.box hb, ownSrc_below h.own hb⟩
theorem own_lt {e : TypeId} {k n : Nat} {v : Value} {xs : List Value} (h : w.ownsRow B e k v n xs) : ∀ q, v.ownBlock = some q → B ≤ q ∧ q < w.heap.size := by
  intro q hq
  exact h.lt q hq
theorem bel_grown {b : Nat} (hg : w.grownBy w1 (some b)) (hb : w.heap.size ≤ b) : Below w.heap.size w w1 :=
  ⟨hg.os, hg.tape, hg.output, hg.size, fun k hk => hg.block k hk (by simp; omega)⟩
/- a rule more -/
theorem ps_rule {x : Sx.Rl} {o : Obj} {v' : Value} (h : PS W w X B r z l s) (hg : (w.alloc o).grownBy w1 r.ownBlock) (hown : w1.ownsRow B 31 11 v' (s.rules.length + 1) (s.rules.flatMap ruleCells ++ ruleCells x)) :
    PS W (w1.setCell ⟨X, 0, none⟩ v') X B v' z l ⟨s.rules ++ [x], s.zones, s.links⟩ := by
  obtain ⟨hbel, hX, hXB, hB, box, ⟨o1, ⟨ps, o2⟩, o3⟩⟩ := h
  have hr := own_lt o1
  have hsz := hg.size
  simp at hsz
  have ha : Below w.heap.size w (w.alloc o) := (Below.refl _ _).alloc (Nat.le_refl _) _
  have p2 := ownZs_other (ownZs_below o2 ha) (owns_below o1 ha) (by decide) (by decide) hg
  have p3 : OwnLinks w1 B l s.links := (owns_below o3 ha).kept hg (owns_ne (owns_below o3 ha) (owns_below o1 ha) (by decide))
  have hX1 : ∀ k, r.ownBlock = some k → k ≠ X := fun k hk => by have := (hr k hk).1; omega
  have hxb : CellsAt w1 X [r, z, l] := ca_grownO (ca_alloc box o) hg hX1
  have hne : ∀ {e : TypeId} {k n : Nat} {u : Value} {xs : List Value}, w1.ownsRow B e k u n xs → (w1.setCell ⟨X, 0, none⟩ v').ownsRow B e k u n xs := by
    intro e k n u xs hu
    refine ownsRow_setCell_other hu ?_ _
    intro q
    have := (own_lt hu X q).1
    omega
  refine ⟨?_, hX, hXB, by simp; omega, ca_put hxb 0 v' (by simp), ⟨ownRules_app (hne hown), ⟨ps, ⟨p2.len, hne p2.row, fun i p y a b => ⟨(p2.eras i p y a b).1, hne (p2.eras i p y a b).2⟩, p2.apart⟩⟩, hne p3⟩⟩
  refine below_set ((hbel.trans (ha.mono hbel.size)).grown hg ?_ ?_) hX _
  · have := hbel.size; simp; omega
  · intro k hk; have := (hr k hk).1; omega
/- a link more -/
theorem ps_link {x : Sx.Lk} {o : Obj} {v' : Value} (h : PS W w X B r z l s) (hg : (w.alloc o).grownBy w1 l.ownBlock) (hown : w1.ownsRow B 68 2 v' (s.links.length + 1) (s.links.flatMap linkCells ++ linkCells x)) :
    PS W (w1.setCell ⟨X, 2, none⟩ v') X B r z v' ⟨s.rules, s.zones, s.links ++ [x]⟩ := by
  obtain ⟨hbel, hX, hXB, hB, box, ⟨o1, ⟨ps, o2⟩, o3⟩⟩ := h
  have hr := own_lt o3
  have hsz := hg.size
  simp at hsz
  have ha : Below w.heap.size w (w.alloc o) := (Below.refl _ _).alloc (Nat.le_refl _) _
  have p2 := ownZs_other (ownZs_below o2 ha) (owns_below o3 ha) (by decide) (by decide) hg
  have p1 : OwnRules w1 B r s.rules := (owns_below o1 ha).kept hg (owns_ne (owns_below o1 ha) (owns_below o3 ha) (by decide))
  have hX1 : ∀ k, l.ownBlock = some k → k ≠ X := fun k hk => by have := (hr k hk).1; omega
  have hxb : CellsAt w1 X [r, z, l] := ca_grownO (ca_alloc box o) hg hX1
  have hne : ∀ {e : TypeId} {k n : Nat} {u : Value} {xs : List Value}, w1.ownsRow B e k u n xs → (w1.setCell ⟨X, 2, none⟩ v').ownsRow B e k u n xs := by
    intro e k n u xs hu
    refine ownsRow_setCell_other hu ?_ _
    intro q
    have := (own_lt hu X q).1
    omega
  refine ⟨?_, hX, hXB, by simp; omega, ca_put hxb 2 v' (by simp), ⟨hne p1, ⟨ps, ⟨p2.len, hne p2.row, fun i p y a b => ⟨(p2.eras i p y a b).1, hne (p2.eras i p y a b).2⟩, p2.apart⟩⟩, ownLinks_app (hne hown)⟩⟩
  refine below_set ((hbel.trans (ha.mono hbel.size)).grown hg ?_ ?_) hX _
  · have := hbel.size; simp; omega
  · intro k hk; have := (hr k hk).1; omega
/- a zone more, its first era in a row of its own -/
theorem ps_zone {w0 : World} {x : Sx.Er} {nm : Tx.Bs} {ev : Value} {o : Obj} {v' : Value} {ps : List (Tx.Bs × Value)} (h : PS W w X B r z l s) (hz0 : OwnZs w0 B z ps s.zones) (hw : Below w0.heap.size w0 w) (hB0 : B ≤ w0.heap.size)
    (hev : w.ownsRow w0.heap.size 91 10 ev 1 (eraCells x)) (hg : (w.alloc o).grownBy w1 z.ownBlock) (hown : w1.ownsRow B 64 2 v' (ps.length + 1) (ps.flatMap zoneCells ++ zoneCells (nm, ev))) :
    PS W (w1.setCell ⟨X, 1, none⟩ v') X B r v' l ⟨s.rules, s.zones ++ [⟨nm, [x]⟩], s.links⟩ := by
  obtain ⟨hbel, hX, hXB, hB, box, ⟨o1, _, o3⟩⟩ := h
  have o2 := ownZs_below hz0 hw
  have hr := own_lt o2.row
  have hsz := hg.size
  simp at hsz
  have ha : Below w.heap.size w (w.alloc o) := (Below.refl _ _).alloc (Nat.le_refl _) _
  have a2 := ownZs_below o2 ha
  have p1 : OwnRules w1 B r s.rules := (owns_below o1 ha).kept hg (owns_ne (owns_below o1 ha) a2.row (by decide))
  have p3 : OwnLinks w1 B l s.links := (owns_below o3 ha).kept hg (owns_ne (owns_below o3 ha) a2.row (by decide))
  have hX1 : ∀ k, z.ownBlock = some k → k ≠ X := fun k hk => by have := (hr k hk).1; omega
  have hxb : CellsAt w1 X [r, z, l] := ca_grownO (ca_alloc box o) hg hX1
  have he : OwnEras (w.alloc o) B ev (⟨nm, [x]⟩ : Sx.Zn).eras := by
    have := owns_below (owns_base hev hB0) ha
    unfold OwnEras
    simpa using this
  obtain ⟨ge, ecap, rfl⟩ := owns_shape hev
  have hge := (own_lt hev ge rfl).1
  have p2 := ownZs_app (x := ⟨nm, [x]⟩) a2 he (fun i p hp => by
    obtain ⟨y, hy⟩ : ∃ y, s.zones[i]? = some y := ⟨_, List.getElem?_eq_getElem (by rw [← hz0.len]; exact (List.getElem?_eq_some_iff.1 hp).1)⟩
    cases hq : p.2.ownBlock with
    | none => exact .inl rfl
    | some m =>
      right
      have := (own_lt (hz0.eras i p y hp hy).2 m hq).2
      simp [Value.ownBlock]
      omega) (by simp [Value.ownBlock]) hg hown
  have hne : ∀ {e : TypeId} {k n : Nat} {u : Value} {xs : List Value}, w1.ownsRow B e k u n xs → (w1.setCell ⟨X, 1, none⟩ v').ownsRow B e k u n xs := by
    intro e k n u xs hu
    refine ownsRow_setCell_other hu ?_ _
    intro q
    have := (own_lt hu X q).1
    omega
  refine ⟨?_, hX, hXB, by simp; omega, ca_put hxb 1 v' (by simp), ⟨hne p1, ⟨_, ⟨p2.len, hne p2.row, fun i p y a b => ⟨(p2.eras i p y a b).1, hne (p2.eras i p y a b).2⟩, p2.apart⟩⟩, hne p3⟩⟩
  refine below_set ((hbel.trans (ha.mono hbel.size)).grown hg ?_ ?_) hX _
  · have := hbel.size; simp; omega
  · intro k hk; have := (hr k hk).1; omega
/- an era more of the last zone -/
theorem ps_era {x : Sx.Er} {g cap : Nat} {nm : Tx.Bs} {ev ev' : Value} {es : List Sx.Er} {o : Obj} {ps : List (Tx.Bs × Value)} {zs : List Sx.Zn} (h : PS W w X B r (.slice (some ⟨g, 0, none⟩) (ps.length + 1) cap) l s)
    (hz : OwnZs w B (.slice (some ⟨g, 0, none⟩) (ps.length + 1) cap) (ps ++ [(nm, ev)]) (zs ++ [⟨nm, es⟩]))
    (hg : (w.alloc o).grownBy w1 ev.ownBlock) (hown : w1.ownsRow B 91 10 ev' (es.length + 1) (es.flatMap eraCells ++ eraCells x)) (hat : ev'.ownBlock = ev.ownBlock ∨ ev'.ownBlock = some (w.alloc o).heap.size) :
    PS W (w1.setCell ⟨g, ps.length * 2 + 1, none⟩ ev') X B r (.slice (some ⟨g, 0, none⟩) (ps.length + 1) cap) l ⟨s.rules, zs ++ [⟨nm, es ++ [x]⟩], s.links⟩ := by
  obtain ⟨hbel, hX, hXB, hB, box, ⟨o1, _, o3⟩⟩ := h
  have hl : ps.length = zs.length := by have := hz.len; simpa using this
  have hown0 := (hz.eras ps.length (nm, ev) ⟨nm, es⟩ (by simp) (by rw [hl]; simp)).2
  have hr := own_lt hown0
  have hgr := own_lt hz.row g rfl
  have hsz := hg.size
  simp at hsz
  have ha : Below w.heap.size w (w.alloc o) := (Below.refl _ _).alloc (Nat.le_refl _) _
  have a2 := ownZs_below hz ha
  have ae := owns_below hown0 ha
  have p1 : OwnRules w1 B r s.rules := (owns_below o1 ha).kept hg (owns_ne (owns_below o1 ha) ae (by decide))
  have p3 : OwnLinks w1 B l s.links := (owns_below o3 ha).kept hg (owns_ne (owns_below o3 ha) ae (by decide))
  have hX1 : ∀ k, ev.ownBlock = some k → k ≠ X := fun k hk => by have := (hr k hk).1; omega
  have hxb : CellsAt w1 X [r, .slice (some ⟨g, 0, none⟩) (ps.length + 1) cap, l] := ca_grownO (ca_alloc box o) hg hX1
  have p2 := ownZs_last a2 hg (ownEras_app hown) (by
    rcases hat with q | q
    · exact .inl q
    · exact .inr ⟨_, q, Nat.le_refl _⟩) (by
    obtain ⟨g', cap', rfl⟩ := owns_shape hown
    simp [Value.ownBlock])
  have hne : ∀ {e : TypeId} {k n : Nat} {u : Value} {xs : List Value}, e ≠ 64 → w1.ownsRow B e k u n xs → (w1.setCell ⟨g, ps.length * 2 + 1, none⟩ ev').ownsRow B e k u n xs := by
    intro e k n u xs hne hu
    refine ownsRow_setCell_other hu ?_ _
    have hrow' : w1.ownsRow B 64 2 (.slice (some ⟨g, 0, none⟩) (ps.length + 1) cap) (ps ++ [(nm, ev)]).length ((ps ++ [(nm, ev)]).flatMap zoneCells) := a2.row.kept hg (owns_ne a2.row ae (by decide))
    rcases owns_ne hu hrow' hne with q | q
    · rw [q]; simp
    · simpa [Value.ownBlock] using q
  refine ⟨?_, hX, hXB, by simp; omega, ca_far hxb (by omega), ⟨hne (by decide) p1, ⟨_, p2⟩, hne (by decide) p3⟩⟩
  refine below_set ((hbel.trans (ha.mono hbel.size)).grown hg ?_ ?_) (by have := hbel.size; omega) _
  · have := hbel.size; simp; omega
  · intro k hk; have := (hr k hk).1; omega
end
section
variable {W w w1 w2 : World} {X B : Nat} {r z l : Value} {s : Sx.Sr}
theorem ps_box {o : Obj} {v : Value} (h : PS W w X B r z l s) (hg : (w.alloc o).grownBy w1 v.ownBlock) (hv : ∀ k, v.ownBlock = some k → B ≤ k) : CellsAt w1 X [r, z, l] :=
  ca_grownO (ca_alloc h.box o) hg fun k hk => by have := hv k hk; have := h.hXB; omega
theorem tkE_app {ob : Obj} {b j : Nat} {row : Option Nat} {o : Sx.O} {v' : Value} {q : Nat} (h : TkE w b o) (hg : (w.alloc ob).grownBy w1 row) (hr : ∀ k, row = some k → k ≠ b) (hq : q ≠ b) : TkE (w1.setCell ⟨q, j, none⟩ v') b o := by
  have hs := hg.size
  have lt := h.lt
  simp at hs
  refine tkE_block h (by simp; omega) ?_
  rw [Below.heap_setCell _ _ _ _ (Ne.symm hq), hg.block b (by simp; omega) (fun e => hr b e.symm rfl), Below.heap_alloc _ _ _ lt]
end
theorem zrow_cell {w : World} {B g n cap : Nat} {ps : List (Tx.Bs × Value)} {nm : Tx.Bs} {ev : Value} (h : w.ownsRow B 64 2 (.slice (some ⟨g, 0, none⟩) n cap) (ps ++ [(nm, ev)]).length ((ps ++ [(nm, ev)]).flatMap zoneCells)) :
    w.cell? ⟨g, ps.length * 2 + 1, none⟩ = some ev ∧ w.frozen? ⟨g, ps.length * 2 + 1, none⟩ = false ∧ g < w.heap.size ∧ B ≤ g := by
  have hn : n = (ps ++ [(nm, ev)]).length := by
    obtain ⟨a, c, e⟩ := owns_shape0 h
    simp only [Value.slice.injEq] at e
    exact e.2.1
  subst hn
  obtain ⟨_, _, q3, q4, q5⟩ := owns_cell (g := 0) h
  exact ⟨q5 _ _ (flat_get zoneCells zoneCells_len _ ps.length (nm, ev) (by simp) 1 ev rfl), h.frozenAt _, q4, q3⟩
theorem zrow_after {w w1 : World} {B g cap : Nat} {ps : List (Tx.Bs × Value)} {zs : List Sx.Zn} {nm : Tx.Bs} {ev : Value} {es : List Sx.Er} {o : Obj} (h : OwnZs w B (.slice (some ⟨g, 0, none⟩) (ps.length + 1) cap) (ps ++ [(nm, ev)]) (zs ++ [⟨nm, es⟩])) (hg : (w.alloc o).grownBy w1 ev.ownBlock) :
    w1.cell? ⟨g, ps.length * 2 + 1, none⟩ = some ev ∧ w1.frozen? ⟨g, ps.length * 2 + 1, none⟩ = false ∧ g < w1.heap.size := by
  have hl : ps.length = zs.length := by have := h.len; simpa using this
  have hown := (h.eras ps.length (nm, ev) ⟨nm, es⟩ (by simp) (by rw [hl]; simp)).2
  have ha : Below w.heap.size w (w.alloc o) := (Below.refl _ _).alloc (Nat.le_refl _) _
  have := zrow_cell ((owns_below h.row ha).kept hg (owns_ne (owns_below h.row ha) (owns_below hown ha) (by decide)))
  exact ⟨this.1, this.2.1, this.2.2.1⟩
section
variable {w w1 : World} {b : Nat} {o : Sx.O}
theorem tkE_alloc (h : TkE w b o) (ob : Obj) : TkE (w.alloc ob) b o := tkE_block h (by simp) (Below.heap_alloc _ _ _ h.lt)
theorem tkE_set {q j : Nat} {u : Value} (h : TkE w b o) (hq : q ≠ b) : TkE (w.setCell ⟨q, j, none⟩ u) b o := tkE_block h (by simp) (Below.heap_setCell _ _ _ _ (Ne.symm hq))
theorem tkE_grown {row : Option Nat} (h : TkE w b o) (hg : w.grownBy w1 row) (hr : ∀ k, row = some k → k ≠ b) : TkE w1 b o := tkE_block h hg.size (hg.block b h.lt (fun e => hr b e.symm rfl))
end
theorem zone_cells (w : World) (a b : Value) {e : TypeId} : ∀ (j : Nat) (x : Value), [a, b][j]? = some x → (w.alloc (.cells #[a, b] e)).cell? ((⟨w.heap.size, 0, none⟩ : Addr).add j) = some x := by
  intro j x hj
  have := (ca_at (ca_new w [a, b] e) j hj).1
  cases j with
  | zero => simpa [Addr.add] using this
  | succ j => simpa [Addr.add] using this
theorem new_cells (w : World) (vs : List Value) {e : TypeId} : ∀ (j : Nat) (x : Value), vs[j]? = some x → (w.alloc (.cells vs.toArray e)).cell? ((⟨w.heap.size, 0, none⟩ : Addr).add j) = some x := by
  intro j x hj
  have := (ca_at (ca_new w vs e) j hj).1
  cases j with
  | zero => simpa [Addr.add] using this
  | succ j => simpa [Addr.add] using this
theorem rule_cells (w : World) (r : Sx.Rl) {e : TypeId} : ∀ (j : Nat) (x : Value), (ruleCells r)[j]? = some x → (w.alloc (.cells #[strV r.name, .int .i64 r.frm, .int .i64 r.to, .int .i64 r.month, .int .i64 r.kind, .int .i64 r.wk, .int .i64 r.n, .int .i64 r.at_, .int .i64 r.clock, .int .i64 r.save, strV r.letter] e)).cell? ((⟨w.heap.size, 0, none⟩ : Addr).add j) = some x := new_cells w (ruleCells r)
theorem era_cells (w : World) (x : Sx.Er) {e : TypeId} : ∀ (j : Nat) (u : Value), (eraCells x)[j]? = some u → (w.alloc (.cells #[.int .i64 x.shift, strV x.rules, .int .i64 x.save, strV x.format, .bool x.opn, .int .i64 x.uy, .int .i64 x.um, .int .i64 x.ud, .int .i64 x.uat, .int .i64 x.uclock] e)).cell? ((⟨w.heap.size, 0, none⟩ : Addr).add j) = some u := new_cells w (eraCells x)
theorem rule_one (r : Sx.Rl) : ∀ u ∈ ruleCells r, u.oneCell' = true := by
  intro u hu; simp only [ruleCells, List.mem_cons, List.not_mem_nil, or_false] at hu; rcases hu with rfl | rfl | rfl | rfl | rfl | rfl | rfl | rfl | rfl | rfl | rfl <;> rfl
theorem era_one (x : Sx.Er) : ∀ u ∈ eraCells x, u.oneCell' = true := by
  intro u hu; simp only [eraCells, List.mem_cons, List.not_mem_nil, or_false] at hu; rcases hu with rfl | rfl | rfl | rfl | rfl | rfl | rfl | rfl | rfl | rfl <;> rfl
/- a call inside a region that draws -/
theorem step_ruleOf {ops : Array Oper} {o : Oper} {a : Act} {w : World} {K : Act → World → Prop} {Q : Exit → Act → World → Prop} {E : Prop}
    (hg : o.guard = none) (x : Operand) (t : TypeId) (hop : o.op = Op.call { callee := Callee.value (Operand.func 33), args := #[x], argTypes := #[t] })
    (vx : Value) (hx : a.eval x = vx) {v : Value} {C : World → Prop} (hc : Calls Tryz.prog 33 #[vx] w fun e w' => e = .returned v ∧ C w') (hK : ∀ w', C w' → K (a.put o.dst v) w') :
    if Region.wanted o (yielded ops a.tmps) = true then Oper.wp Tryz.prog o a w K Q else E := by
  have hw : Region.wanted o (yielded ops a.tmps) = true := by simp [Region.wanted, hg]
  rw [if_pos hw]
  unfold Oper.wp
  simp only [execOp, hop, resolve, invoke, Sem.run_bind, List.map_toArray, List.map_cons, List.map_nil, hx]
  have e : Oper.upon Tryz.prog o a K Q (.ok (.enter 33 #[vx]) w) := by
    rw [Oper.upon_enter]
    exact hc.mono (by rintro e w' ⟨rfl, h⟩; exact hK w' h)
  go_simp
/- append onto a row of one's own, inside a region that draws: and where it lies then -/
theorem step_append_at {P : Program} {ops : Array Oper} {o : Oper} {a : Act} {w : World} {K : Act → World → Prop} {Q : Exit → Act → World → Prop} {E : Prop}
    (hg : o.guard = none) (s x : Operand) (t : TypeId) (hop : o.op = Op.call { callee := Callee.builtin Builtin.append, args := #[s, x], argTypes := #[t, t] })
    (base : Nat) (e : TypeId) (i : TypeInfo) (z : Value) (size bytes : Nat) (h1 : P.underlying t = some (.slice e)) (h2 : P.info? e = some i) (h3 : i.zero = some z) (h4 : i.size = size) (h5 : i.bytes = bytes) (h6 : z.cells.size = size) (h7 : 0 < size)
    (v : Value) (n : Nat) (xs : List Value) (hs : a.eval s = v) (hown : w.ownsRow base e size v n xs)
    (ad : Addr) (m c : Nat) (news : List Value) (hx : a.eval x = .slice (some ad) m c) (hn : news.length = m * size) (hc : ∀ j u, news[j]? = some u → w.cell? (ad.add j) = some u) (h1c : ∀ u ∈ news, u.oneCell' = true)
    (b1 : n + m ≤ maxLen) (b2 : (n + m) * bytes ≤ 140737488355328) (hbase : base ≤ w.heap.size)
    (hK : ∀ v' w', w'.ownsRow base e size v' (n + m) (xs ++ news) → w.grownBy w' v.ownBlock → (v'.ownBlock = v.ownBlock ∨ v'.ownBlock = some w.heap.size) → K (a.put o.dst v') w') :
    if Region.wanted o (yielded ops a.tmps) = true then Oper.wp P o a w K Q else E := by
  have hw : Region.wanted o (yielded ops a.tmps) = true := by simp [Region.wanted, hg]
  rw [if_pos hw]
  obtain ⟨v', w', hrun, r1, r2, _, r3⟩ := run_append_own_at (P := P) w base t o.type e i z size bytes h1 h2 h3 h4 h5 h6 h7 v n xs hown ad m c news hn hc h1c b1 b2 hbase
  unfold Oper.wp
  simp [execOp, hop, resolve, invoke, builtin, hs, hx, hrun, Result.andThen]
  exact hK v' w' r1 r2 r3
end Go.Proofs.YtdekggmaeoeccaaGreat
namespace Go.Proofs.YtdekggmaeoeccaaGreat
open Go.RowKit
set_option linter.unusedVariables false
set_option linter.unusedSimpArgs false
attribute [local go_sem ↓] Go.wp_at_zero Go.wp_at_succ

set_option maxRecDepth 100000 in
set_option maxHeartbeats 4000000 in
theorem firstRule_any (rs : List Sx.Rl) (rv : Value) (w : World) (h : RdRules w rv rs) (hs : ∀ r ∈ rs, r.name.length ≤ maxLen ∧ r.letter.length ≤ maxLen) (hl : rs.length ≤ 40) :
    Calls Tryz.prog 16 #[rv, .func (.func 17) #[] #[]] w fun e w' => e = .returned (.int .i64 (Sx.firstE Sx.ruleE rs)) ∧ Below w.heap.size w w' := by
  obtain ⟨R, hR⟩ : ∃ R, Sx.firstE Sx.ruleE rs = R := ⟨_, rfl⟩
  rw [hR]
  have HR : Hid (R = Sx.firstE Sx.ruleE (rs.drop 0)) := hR.symm
  obtain ⟨ra, rcap, rfl⟩ := rd_shape h
  have H := hid h
  have HS := hid hs
  clear hR h hs
  have eg : ∀ args w, (callFunc 17 args).run Tryz.prog w = .ok (.enter 17 args) w := enters_of Tryz.func17 (by kernel_rfl) rfl
  go_enter Tryz.func16, Tryz.ntmps16
  go_wp2_with fail
  go_loopw [10] (fun a wr => ∃ k : Nat, k ≤ rs.length ∧ a = .int .i64 k ∧ Hid (Below w.heap.size w wr) ∧ Hid (R = Sx.firstE Sx.ruleE (rs.drop k))) (fun a _ => rs.length - (intOf a).toNat)
  case atStart => exact ⟨0, by omega, rfl, Below.refl _ _, HR⟩
  case round =>
    clear HR
    obtain ⟨k, hk, rfl, B0, HR⟩ := hrel
    by_cases hlt : k < rs.length
    case neg =>
      have HR2 : Hid (R = 0) := by show _ = _; rw [HR.out]; exact Sx.firstE_end _ hlt
      go_wp2
      go_ret
      exact ⟨ret_int (by rw [HR2.out]), B0.out⟩
    obtain ⟨x, hx⟩ : ∃ x, rs[k]? = some x := ⟨_, List.getElem?_eq_getElem hlt⟩
    obtain ⟨rb, ro, rfl, hrb, hc⟩ := rd_elem (rd_below H.out B0.out) hx
    obtain ⟨c0, c1, c2, c3, c4, c5, c6, c7, c8, c9, c10⟩ := rd_rule hc
    have HX := hid hx
    have SX := hid (HS.out x (List.mem_of_getElem? hx))
    clear hc hx
    have BV := hid (B0.out.alloc B0.out.size (.cells (ruleCells x).toArray 31))
    go_wp2_with fail
    refine (pCheckRule_any x _ SX.out.1 SX.out.2).mono ?_
    rintro e w1 ⟨rfl, hb⟩
    have B1 : Hid (Below w.heap.size w w1) := BV.out.trans (hb.mono BV.out.size)
    clear hb B0 BV c0 c1 c2 c3 c4 c5 c6 c7 c8 c9 c10 hrb
    obtain ⟨E, hE⟩ : ∃ E, Sx.ruleE x = E := ⟨_, rfl⟩
    rw [hE]
    by_cases h0 : E = 0
    case neg =>
      have HR2 : Hid (R = E) := by show _ = _; rw [← hE]; exact Sx.firstE_at _ HX.out HR.out (by rw [hE]; exact h0)
      have h0' : (E != 0) = true := by simp [h0]
      clear hE
      go_wp2
      go_ret
      exact ⟨ret_int (by rw [HR2.out]), B1.out⟩
    have HR2 : Hid (R = Sx.firstE Sx.ruleE (rs.drop (k + 1))) := Sx.firstE_next _ HX.out HR.out (by rw [hE]; exact h0)
    clear hE HR
    subst h0
    go_wp2
    go_roundw
    case rel => exact ⟨k + 1, by omega, by go_num, B1, HR2⟩
    case measure => simp [intOf]; omega
set_option maxHeartbeats 1000000 in
theorem firstZone_nil (f : Value) (w : World) : Calls Tryz.prog 18 #[.slice none 0 0, f] w fun e w' => e = .returned (.int .i64 0) ∧ w' = w := by
  go_enter Tryz.func18, Tryz.ntmps18
  go_wp2_with fail
  go_loop [10] (fun a => a = .int .i64 0) (fun _ => 0)
  case atStart => rfl
  case round =>
    subst hrel
    go_wp2
    go_ret
    exact ⟨rfl, rfl⟩
set_option maxHeartbeats 1000000 in
theorem firstLink_nil (f : Value) (w : World) : Calls Tryz.prog 20 #[.slice none 0 0, f] w fun e w' => e = .returned (.int .i64 0) ∧ w' = w := by
  go_enter Tryz.func20, Tryz.ntmps20
  go_wp2_with fail
  go_loop [10] (fun a => a = .int .i64 0) (fun _ => 0)
  case atStart => rfl
  case round =>
    subst hrel
    go_wp2
    go_ret
    exact ⟨rfl, rfl⟩
set_option maxRecDepth 100000 in
set_option maxHeartbeats 2000000 in
theorem fits_rules (n cap : Nat) (a : Option Addr) (w : World) {b : Bool} (h : decide (n ≤ 40) = b) :
    Calls Tryz.prog 14 #[.agg #[.slice a n cap, .slice none 0 0, .slice none 0 0]] w fun e w' => e = .returned (.bool b) ∧ Below w.heap.size w w' := by
  by_cases h1 : 40 < n
  · have HB : Hid (false = b) := by show _ = _; rw [← h]; simp; omega
    clear h
    go_enter Tryz.func14, Tryz.ntmps14
    go_wp2
    go_ret
    exact ⟨ret_bool HB.out, (Below.refl _ _).alloc (Nat.le_refl _) _⟩
  · have HB : Hid (true = b) := by show _ = _; rw [← h]; simp; omega
    clear h
    have BV := hid ((Below.refl w.heap.size w).alloc (Nat.le_refl _) (.cells #[.slice a n cap, .slice none 0 0, .slice none 0 0] 38))
    go_enter Tryz.func14, Tryz.ntmps14
    go_wp2_with fail
    go_loop [24] (fun a => a = .int .i64 0) (fun _ => 0)
    case atStart => rfl
    case round =>
      subst hrel
      go_wp2
      go_ret
      exact ⟨ret_bool HB.out, BV.out⟩
end Go.Proofs.YtdekggmaeoeccaaGreat
namespace Go.Proofs.YtdekggmaeoeccaaGreat
open Go.RowKit
set_option linter.unusedVariables false
set_option linter.unusedSimpArgs false
attribute [local go_sem ↓] Go.wp_at_zero Go.wp_at_succ

theorem srcE_rules {rs : List Sx.Rl} (h : rs.length ≤ 40) : Sx.srcE ⟨rs, [], []⟩ = Sx.firstE Sx.ruleE rs := by
  rw [Sx.src_few (Sx.many_no (by simpa using h) (by simp) (by simp) (by intro j z hj; simp at hj))]
  simp only [Sx.firstE]
  by_cases q : Sx.firstE Sx.ruleE rs = 0
  · rw [Sx.orE_right q, Sx.orE_right rfl, q]
  · rw [Sx.orE_left q]
theorem or3 (e : Int) : Sx.firstE id [e, 0, 0] = e := by
  by_cases h : e = 0 <;> simp [Sx.firstE, h]
set_option maxRecDepth 100000 in
set_option maxHeartbeats 4000000 in
theorem sCheckRules_any (rs : List Sx.Rl) (rv : Value) (w : World) (h : RdRules w rv rs) (hs : ∀ r ∈ rs, r.name.length ≤ maxLen ∧ r.letter.length ≤ maxLen) :
    Calls Tryz.prog 7 #[.agg #[rv, .slice none 0 0, .slice none 0 0]] w fun e w' => e = .returned (.int .i64 (Sx.srcE ⟨rs, [], []⟩)) ∧ Below w.heap.size w w' := by
  obtain ⟨ra, rcap, rfl⟩ := rd_shape h
  have XV := hid (ca_new w [.slice ra rs.length rcap, .slice none 0 0, .slice none 0 0] 38)
  have BV := hid ((Below.refl w.heap.size w).alloc (Nat.le_refl _) (.cells [.slice ra rs.length rcap, .slice none 0 0, .slice none 0 0].toArray 38))
  have H := hid h
  have HS := hid hs
  clear h hs
  by_cases h40 : rs.length ≤ 40
  case neg =>
    have HR : Hid (Sx.srcE ⟨rs, [], []⟩ = 2) := Sx.src_many (by simp [Sx.manyB]; omega)
    have HF : Hid (decide (rs.length ≤ 40) = false) := by show _ = _; simp; omega
    clear h40
    go_enter Tryz.func7, Tryz.ntmps7
    go_wp2_with fail
    refine (fits_rules _ _ _ _ HF.out).mono ?_
    rintro e w1 ⟨rfl, hb⟩
    have B1 : Hid (Below w.heap.size w w1) := BV.out.trans (hb.mono BV.out.size)
    go_wp2
    go_ret
    exact ⟨ret_int HR.out.symm, B1.out⟩
  have HR : Hid (Sx.srcE ⟨rs, [], []⟩ = Sx.firstE Sx.ruleE rs) := srcE_rules h40
  have HF : Hid (decide (rs.length ≤ 40) = true) := by show _ = _; simp; omega
  have H40 := hid h40
  clear h40
  go_enter Tryz.func7, Tryz.ntmps7
  go_wp2_with fail
  refine (fits_rules _ _ _ _ HF.out).mono ?_
  rintro e w1 ⟨rfl, hb⟩
  have B1 : Hid (Below w.heap.size w w1) := BV.out.trans (hb.mono BV.out.size)
  have X1 := hid (ca_below XV.out hb)
  clear hb BV XV
  obtain ⟨B, hB⟩ : ∃ B, w.heap.size = B := ⟨_, rfl⟩
  go_upto_region 3 with fail
  rw [hB] at X1
  obtain ⟨x0, _⟩ := ca_at X1.out 0 rfl
  obtain ⟨x1, _⟩ := ca_at X1.out 1 rfl
  obtain ⟨x2, _⟩ := ca_at X1.out 2 rfl
  have sx := X1.out.1
  have R1 : Hid (RdRules w1.drew (.slice ra rs.length rcap) rs) := rd_below H.out (show Below w.heap.size w w1.drew from ⟨B1.out.os, B1.out.tape, B1.out.output, B1.out.size, B1.out.block⟩)
  have HB := hid hB
  clear hB
  refine wp_region_held_drew (S := fun w' => w'.cell? ⟨B, 0, none⟩ = some (.slice ra rs.length rcap) ∧ w'.cell? ⟨B, 1, none⟩ = some (.slice none 0 0) ∧ w'.cell? ⟨B, 2, none⟩ = some (.slice none 0 0)) (by kernel_rfl) ?_ (fun hHeld => ?_)
  · go_keep
  refine wpAnyH_take (i := 0) (v := ?v0) rfl (by kernel_rfl) (by kernel_rfl) (by kernel_rfl) (fun _ _ _ h => h) (Or.inl ⟨by rfl, ?hy0⟩) (by assumption) ?_
  case hy0 => (intro w hSw; (try dsimp only at hSw); go_simp; try with_reducible rfl)
  try simp only [Act.put, List.setIfInBounds_toArray, List.set_cons_zero, List.set_cons_succ]
  refine wpAnyH_take (i := 1) (v := ?v1) rfl (by kernel_rfl) (by kernel_rfl) (by kernel_rfl) (fun _ _ _ h => h) (Or.inl ⟨by rfl, ?hy1⟩) (by assumption) ?_
  case hy1 => (intro w hSw; (try dsimp only at hSw); go_simp; try with_reducible rfl)
  try simp only [Act.put, List.setIfInBounds_toArray, List.set_cons_zero, List.set_cons_succ]
  refine wpAnyH_take (i := 3) (v := ?v3) rfl (by kernel_rfl) (by kernel_rfl) (by kernel_rfl) (fun _ _ _ h => h) (Or.inl ⟨by rfl, ?hy3⟩) (by assumption) ?_
  case hy3 => (intro w hSw; (try dsimp only at hSw); go_simp; try with_reducible rfl)
  try simp only [Act.put, List.setIfInBounds_toArray, List.set_cons_zero, List.set_cons_succ]
  refine wpAnyH_take (i := 4) (v := ?v4) rfl (by kernel_rfl) (by kernel_rfl) (by kernel_rfl) (fun _ _ _ h => h) (Or.inl ⟨by rfl, ?hy4⟩) (by assumption) ?_
  case hy4 => (intro w hSw; (try dsimp only at hSw); go_simp; try with_reducible rfl)
  try simp only [Act.put, List.setIfInBounds_toArray, List.set_cons_zero, List.set_cons_succ]
  refine wpAnyH_take (i := 6) (v := ?v6) rfl (by kernel_rfl) (by kernel_rfl) (by kernel_rfl) (fun _ _ _ h => h) (Or.inl ⟨by rfl, ?hy6⟩) (by assumption) ?_
  case hy6 => (intro w hSw; (try dsimp only at hSw); go_simp; try with_reducible rfl)
  try simp only [Act.put, List.setIfInBounds_toArray, List.set_cons_zero, List.set_cons_succ]
  refine wpAnyH_take (i := 7) (v := ?v7) rfl (by kernel_rfl) (by kernel_rfl) (by kernel_rfl) (fun _ _ _ h => h) (Or.inl ⟨by rfl, ?hy7⟩) (by assumption) ?_
  case hy7 => (intro w hSw; (try dsimp only at hSw); go_simp; try with_reducible rfl)
  try simp only [Act.put, List.setIfInBounds_toArray, List.set_cons_zero, List.set_cons_succ]
  refine wpAnyH_ready (rs := [2]) (by kernel_rfl) (by simp) ?_
  refine AllReadyH.cons rfl (fun K hK => ?_) AllReadyH.nil
  go_simp
  refine (firstRule_any rs _ _ R1.out HS.out H40.out).mono ?_
  rintro e w2 ⟨rfl, hb2⟩
  have C2 := ca_below (show CellsAt w1.drew B [.slice ra rs.length rcap, .slice none 0 0, .slice none 0 0] from X1.out) hb2
  have B2 : Hid (Below w.heap.size w w2) := B1.out.trans ((show Below w1.heap.size w1 w2 from ⟨hb2.os, hb2.tape, hb2.output, hb2.size, hb2.block⟩).mono B1.out.size)
  refine hK.out _ _ ⟨(ca_at C2 0 rfl).1, (ca_at C2 1 rfl).1, (ca_at C2 2 rfl).1⟩ (fun hHeld2 => ?_)
  clear hK K hHeld hb2
  try simp only [Act.put, List.setIfInBounds_toArray, List.set_cons_zero, List.set_cons_succ]
  refine wpAnyH_ready (rs := [5]) (by kernel_rfl) (by simp) ?_
  refine AllReadyH.cons rfl (fun K hK => ?_) AllReadyH.nil
  go_simp
  refine (firstZone_nil _ _).mono ?_
  rintro e w3 ⟨rfl, rfl⟩
  refine hK.out _ _ hHeld2 (fun hHeld3 => ?_)
  clear hK K hHeld2
  try simp only [Act.put, List.setIfInBounds_toArray, List.set_cons_zero, List.set_cons_succ]
  refine wpAnyH_ready (rs := [8]) (by kernel_rfl) (by simp) ?_
  refine AllReadyH.cons rfl (fun K hK => ?_) AllReadyH.nil
  go_simp
  refine (firstLink_nil _ _).mono ?_
  rintro e w4 ⟨rfl, rfl⟩
  refine hK.out _ _ hHeld3 (fun hHeld4 => ?_)
  clear hK K hHeld3
  try simp only [Act.put, List.setIfInBounds_toArray, List.set_cons_zero, List.set_cons_succ]
  refine wpAnyH_ready (rs := [9]) (by kernel_rfl) (by simp) ?_
  refine AllReadyH.cons rfl (fun K hK => ?_) AllReadyH.nil
  go_simp
  have CN := ca_new w4 ([Sx.firstE Sx.ruleE rs, 0, 0].map (Value.int .i64)) 25
  have BN := hid (B2.out.alloc B2.out.size (.cells ([Sx.firstE Sx.ruleE rs, 0, 0].map (Value.int .i64)).toArray 25))
  have C5 := ca_alloc C2 (.cells ([Sx.firstE Sx.ruleE rs, 0, 0].map (Value.int .i64)).toArray 25)
  refine hK.out _ _ ⟨(ca_at C5 0 rfl).1, (ca_at C5 1 rfl).1, (ca_at C5 2 rfl).1⟩ (fun hHeld5 => ?_)
  clear hK K hHeld4
  try simp only [Act.put, List.setIfInBounds_toArray, List.set_cons_zero, List.set_cons_succ]
  refine wpAnyH_ready (rs := [10]) (by kernel_rfl) (by simp) ?_
  refine AllReadyH.cons rfl (fun K hK => ?_) AllReadyH.nil
  go_simp
  refine (or_any [Sx.firstE Sx.ruleE rs, 0, 0] w4.heap.size 3 _ CN (by simp)).mono ?_
  rintro e w6 ⟨rfl, rfl⟩
  refine hK.out _ _ hHeld5 (fun hHeld6 => ?_)
  clear hK K hHeld5
  try simp only [Act.put, List.setIfInBounds_toArray, List.set_cons_zero, List.set_cons_succ]
  refine wpAnyH_ready (rs := [11]) (by kernel_rfl) (by simp) ?_
  refine AllReadyH.cons rfl (fun K hK => ?_) AllReadyH.nil
  go_simp
  refine hK.out _ _ hHeld6 (fun hHeld7 => ?_)
  clear hK K hHeld6
  try simp only [Act.put, List.setIfInBounds_toArray, List.set_cons_zero, List.set_cons_succ]
  refine wpAnyH_done (by kernel_rfl) ?_ _
  go_wp2
  go_ret
  rw [show Sx.srcE ⟨rs, [], []⟩ = Sx.firstE id [Sx.firstE Sx.ruleE rs, 0, 0] by rw [HR.out, or3]]
  exact ⟨rfl, BN.out⟩
end Go.Proofs.YtdekggmaeoeccaaGreat
namespace Go.Proofs.YtdekggmaeoeccaaGreat.Sx
set_option linter.unusedVariables false
set_option linter.unusedSimpArgs false

structure Tn where
  stands : Int
  clock : Int
  save : Int
  letter : Tx.Bs
structure Tm where
  at_ : Int
  save : Int
  letter : Tx.Bs
def turnIn (r : Rl) (y : Int) : Tn := ⟨Cv.tgt y r.month r.kind r.wk r.n * 86400 + r.at_, r.clock, r.save, r.letter⟩
def many (r : Rl) : Nat := (r.to - r.frm + 1).toNat
def turnsR (r : Rl) : List Tn := (List.range (many r)).map fun (k : Nat) => turnIn r (r.frm + (k : Int))
def turnsOf (rs : List Rl) (name : Tx.Bs) : List Tn := (rs.filter fun r => r.name == name).flatMap turnsR
/- in order -/
def ins (t : Tn) : List Tn → List Tn
  | [] => [t]
  | u :: r => if t.stands < u.stands then t :: u :: r else u :: ins t r
def isort : List Tn → List Tn
  | [] => []
  | t :: r => ins t (isort r)
def apartFrom (p : Int) : List Tn → Bool
  | [] => true
  | u :: r => decide (172800 ≤ u.stands - p) && apartFrom u.stands r
def apart : List Tn → Bool
  | [] => true
  | t :: r => apartFrom t.stands r
def timeOf (shift s : Int) (t : Tn) : Tm := ⟨(if t.clock = 3 then t.stands else t.stands - shift) - (if t.clock = 1 then s else 0), t.save, t.letter⟩
def timesFrom (shift : Int) : Int → List Tn → List Tm
  | _, [] => []
  | s, t :: r => timeOf shift s t :: timesFrom shift t.save r
def timesE (rs : List Rl) (name : Tx.Bs) (shift : Int) : Int :=
  if srcE ⟨rs, [], []⟩ ≠ 0 then srcE ⟨rs, [], []⟩ else if inB shift (-64800) 64800 = false then 3
  else if (turnsOf rs name).isEmpty = true then 5 else if apart (isort (turnsOf rs name)) = false then 4 else if 1000 < (turnsOf rs name).length then 2 else 0
def times (rs : List Rl) (name : Tx.Bs) (shift : Int) : List Tm := if timesE rs name shift = 0 then timesFrom shift 0 (isort (turnsOf rs name)) else []

/- what is in order is so in one way alone, but for what stands alike -/
def SortedT (l : List Tn) : Prop := l.Pairwise fun a b => a.stands ≤ b.stands
theorem ins_perm (t : Tn) : ∀ l, (ins t l).Perm (t :: l)
  | [] => .refl _
  | u :: r => by
    unfold ins
    split
    · exact .refl _
    · exact ((ins_perm t r).cons u).trans (.swap t u r)
theorem isort_perm : ∀ l, (isort l).Perm l
  | [] => .refl _
  | t :: r => (ins_perm t (isort r)).trans ((isort_perm r).cons t)
theorem ins_sorted (t : Tn) : ∀ l, SortedT l → SortedT (ins t l)
  | [], _ => by simp [ins, SortedT]
  | u :: r, h => by
    have h' := List.pairwise_cons.1 h
    unfold ins
    split
    · rename_i q
      refine List.pairwise_cons.2 ⟨fun x hx => ?_, h⟩
      rcases List.mem_cons.1 hx with rfl | hx
      · omega
      · have := h'.1 x hx; omega
    · rename_i q
      refine List.pairwise_cons.2 ⟨fun x hx => ?_, ins_sorted t r h'.2⟩
      rcases List.mem_cons.1 ((ins_perm t r).mem_iff.1 hx) with rfl | hx
      · omega
      · exact h'.1 x hx
theorem isort_sorted : ∀ l, SortedT (isort l)
  | [] => by simp [isort, SortedT]
  | t :: r => ins_sorted t _ (isort_sorted r)
theorem sorted_keys {a b : List Tn} (h : a.Perm b) (ha : SortedT a) (hb : SortedT b) : a.map Tn.stands = b.map Tn.stands := by
  have hk : (a.map Tn.stands).Perm (b.map Tn.stands) := h.map _
  have pa : (a.map Tn.stands).Pairwise (· ≤ ·) := List.pairwise_map.2 ha
  have pb : (b.map Tn.stands).Pairwise (· ≤ ·) := List.pairwise_map.2 hb
  exact List.Perm.eq_of_pairwise (fun x y _ _ h1 h2 => Int.le_antisymm h1 h2) pa pb hk
theorem apartFrom_keys : ∀ (a b : List Tn) (p : Int), a.map Tn.stands = b.map Tn.stands → apartFrom p a = apartFrom p b
  | [], [], _, _ => rfl
  | x :: a, y :: b, p, h => by
    simp at h
    simp only [apartFrom, h.1]
    rw [apartFrom_keys a b _ h.2]
  | [], y :: b, _, h => by simp at h
  | x :: a, [], _, h => by simp at h
theorem apart_keys {a b : List Tn} (h : a.map Tn.stands = b.map Tn.stands) : apart a = apart b := by
  match a, b, h with
  | [], [], _ => rfl
  | x :: a, y :: b, h =>
    simp at h
    show apartFrom _ _ = apartFrom _ _
    rw [h.1]; exact apartFrom_keys a b _ h.2
  | [], y :: b, h => simp at h
  | x :: a, [], h => simp at h
theorem apartFrom_lt : ∀ (l : List Tn) (p : Int), apartFrom p l = true → ∀ x ∈ l, p < x.stands
  | [], _, _ => by simp
  | u :: r, p, h => by
    simp [apartFrom] at h
    intro x hx
    rcases List.mem_cons.1 hx with rfl | hx
    · omega
    · have := apartFrom_lt r _ h.2 x hx; omega
theorem apartFrom_pw : ∀ (l : List Tn) (p : Int), apartFrom p l = true → l.Pairwise fun a b => a.stands < b.stands
  | [], _, _ => by simp
  | u :: r, p, h => by
    simp [apartFrom] at h
    exact List.pairwise_cons.2 ⟨apartFrom_lt r _ h.2, apartFrom_pw r _ h.2⟩
theorem apart_pw {l : List Tn} (h : apart l = true) : l.Pairwise fun a b => a.stands < b.stands := by
  match l, h with
  | [], _ => simp
  | u :: r, h => exact List.pairwise_cons.2 ⟨apartFrom_lt r _ h, apartFrom_pw r _ h⟩
/- two lists of the same things, both with strictly rising keys, are one -/
theorem strict_eq {a b : List Tn} (h : a.Perm b) (ha : a.Pairwise fun x y => x.stands < y.stands) (hb : b.Pairwise fun x y => x.stands < y.stands) : a = b :=
  List.Perm.eq_of_pairwise (fun x y _ _ h1 h2 => absurd h1 (by omega)) ha hb h
theorem ordered {o ts : List Tn} (h : o.Perm ts) (hs : SortedT o) : apart o = apart (isort ts) ∧ (apart o = true → o = isort ts) := by
  have hp : o.Perm (isort ts) := h.trans (isort_perm ts).symm
  have hk := apart_keys (sorted_keys hp hs (isort_sorted ts))
  exact ⟨hk, fun q => strict_eq hp (apart_pw q) (apart_pw (hk ▸ q))⟩

/- times, one by one -/
theorem timesFrom_len (shift : Int) : ∀ (l : List Tn) (s : Int), (timesFrom shift s l).length = l.length
  | [], _ => rfl
  | t :: r, s => by simp [timesFrom, timesFrom_len shift r]
def prev (s : Int) (l : List Tn) : Nat → Int
  | 0 => s
  | i + 1 => ((l[i]?).map Tn.save).getD 0
theorem timesFrom_get (shift : Int) : ∀ (l : List Tn) (s : Int) (i : Nat) (t : Tn), l[i]? = some t → (timesFrom shift s l)[i]? = some (timeOf shift (prev s l i) t)
  | u :: r, s, 0, t, h => by simp at h; subst h; rfl
  | u :: r, s, i + 1, t, h => by
    have := timesFrom_get shift r u.save i t (by simpa using h)
    simp only [timesFrom, List.getElem?_cons_succ]
    rw [this]
    cases i with
    | zero => simp [prev]
    | succ i => simp [prev]
  | [], s, i, t, h => by simp at h
theorem apartFrom_adj : ∀ (l : List Tn) (p : Int) (i : Nat) (a b : Tn), apartFrom p l = true → l[i]? = some a → l[i + 1]? = some b → 172800 ≤ b.stands - a.stands
  | u :: v :: r, p, 0, a, b, h, ha, hb => by
    simp at ha hb; subst ha hb
    simp [apartFrom] at h; omega
  | u :: r, p, i + 1, a, b, h, ha, hb => by
    simp [apartFrom] at h
    exact apartFrom_adj r u.stands i a b h.2 (by simpa using ha) (by simpa using hb)
  | [], p, i, a, b, h, ha, hb => by simp at ha
  | [u], p, 0, a, b, h, ha, hb => by simp at hb
theorem apart_adj {l : List Tn} {i : Nat} {a b : Tn} (h : apart l = true) (ha : l[i]? = some a) (hb : l[i + 1]? = some b) : 172800 ≤ b.stands - a.stands := by
  match l, i, h, ha, hb with
  | u :: v :: r, 0, h, ha, hb =>
    simp at ha hb; subst ha hb
    simp [apart, apartFrom] at h; omega
  | u :: r, i + 1, h, ha, hb => exact apartFrom_adj r u.stands i a b h (by simpa using ha) (by simpa using hb)
  | [], i, h, ha, hb => simp at ha
  | [u], 0, h, ha, hb => simp at hb
theorem prev_bd {l : List Tn} (h : ∀ t ∈ l, 0 ≤ t.save ∧ t.save ≤ 10800) (i : Nat) : 0 ≤ prev 0 l i ∧ prev 0 l i ≤ 10800 := by
  cases i with
  | zero => simp [prev]
  | succ i =>
    simp only [prev]
    cases hi : l[i]? with
    | none => simp
    | some t => simpa using h t (List.mem_of_getElem? hi)
theorem time_bd {shift s : Int} {t : Tn} (h1 : -64800 ≤ shift) (h2 : shift ≤ 64800) (s1 : 0 ≤ s) (s2 : s ≤ 10800) : t.stands - 75600 ≤ (timeOf shift s t).at_ ∧ (timeOf shift s t).at_ ≤ t.stands + 64800 := by
  simp only [timeOf]
  split <;> split <;> omega
theorem times_rise {l : List Tn} {shift : Int} {i : Nat} {x y : Tm} (h1 : -64800 ≤ shift) (h2 : shift ≤ 64800) (h : ∀ t ∈ l, 0 ≤ t.save ∧ t.save ≤ 10800) (ha : apart l = true)
    (hx : (timesFrom shift 0 l)[i]? = some x) (hy : (timesFrom shift 0 l)[i + 1]? = some y) : x.at_ < y.at_ := by
  have hl : i + 1 < l.length := by rw [← timesFrom_len shift l 0]; exact (List.getElem?_eq_some_iff.1 hy).1
  obtain ⟨a, qa⟩ : ∃ a, l[i]? = some a := ⟨_, List.getElem?_eq_getElem (by omega)⟩
  obtain ⟨b, qb⟩ : ∃ b, l[i + 1]? = some b := ⟨_, List.getElem?_eq_getElem hl⟩
  rw [timesFrom_get shift l 0 i a qa] at hx
  rw [timesFrom_get shift l 0 (i + 1) b qb] at hy
  simp at hx hy
  subst hx hy
  have d := apart_adj ha qa qb
  have p1 := prev_bd h i
  have p2 := prev_bd h (i + 1)
  have b1 := time_bd (t := a) h1 h2 p1.1 p1.2
  have b2 := time_bd (t := b) h1 h2 p2.1 p2.2
  omega
theorem times_east {l : List Tn} {shift more : Int} {i : Nat} {x y : Tm} (h : shift ≤ more) (hx : (timesFrom shift 0 l)[i]? = some x) (hy : (timesFrom more 0 l)[i]? = some y) : y.at_ ≤ x.at_ ∧ x.at_ - y.at_ ≤ more - shift := by
  have hl : i < l.length := by rw [← timesFrom_len more l 0]; exact (List.getElem?_eq_some_iff.1 hy).1
  obtain ⟨a, qa⟩ : ∃ a, l[i]? = some a := ⟨_, List.getElem?_eq_getElem hl⟩
  rw [timesFrom_get shift l 0 i a qa] at hx
  rw [timesFrom_get more l 0 i a qa] at hy
  simp at hx hy
  subst hx hy
  simp only [timeOf]
  split <;> split <;> omega
/- how many there are -/
def yearsOf (rs : List Rl) (name : Tx.Bs) : Int := ((rs.filter fun r => r.name == name).map fun r => r.to - r.frm + 1).sum
theorem turns_len {rs : List Rl} {name : Tx.Bs} (h : ∀ r ∈ rs, r.frm ≤ r.to) : ((turnsOf rs name).length : Int) = yearsOf rs name := by
  unfold turnsOf yearsOf
  induction rs with
  | nil => rfl
  | cons r rs ih =>
    have ih := ih fun x hx => h x (by simp [hx])
    have hr := h r (by simp)
    cases q : (r.name == name)
    · simp only [List.filter_cons, q, Bool.false_eq_true, if_false]; exact ih
    · simp only [List.filter_cons, q, if_true, List.flatMap_cons, List.length_append, List.map_cons, List.sum_cons]
      have : ((turnsR r).length : Int) = r.to - r.frm + 1 := by simp [turnsR, many]; omega
      omega
theorem turns_save {rs : List Rl} {name : Tx.Bs} (h : ∀ r ∈ rs, 0 ≤ r.save ∧ r.save ≤ 10800) : ∀ t ∈ turnsOf rs name, 0 ≤ t.save ∧ t.save ≤ 10800 := by
  intro t ht
  simp only [turnsOf, List.mem_flatMap, List.mem_filter, turnsR, List.mem_map] at ht
  obtain ⟨r, ⟨hr, _⟩, k, _, rfl⟩ := ht
  exact h r hr
theorem isort_len (l : List Tn) : (isort l).length = l.length := (isort_perm l).length_eq
theorem isort_save {l : List Tn} (h : ∀ t ∈ l, 0 ≤ t.save ∧ t.save ≤ 10800) : ∀ t ∈ isort l, 0 ≤ t.save ∧ t.save ≤ 10800 := fun t ht => h t ((isort_perm l).mem_iff.1 ht)
end Go.Proofs.YtdekggmaeoeccaaGreat.Sx
namespace Go.Proofs.YtdekggmaeoeccaaGreat
open Go.RowKit
set_option linter.unusedVariables false
set_option linter.unusedSimpArgs false

def turnC (t : Sx.Tn) : List Value := [.int .i64 t.stands, .int .i64 t.clock, .int .i64 t.save, strV t.letter]
abbrev turnV (t : Sx.Tn) : Value := .agg #[.int .i64 t.stands, .int .i64 t.clock, .int .i64 t.save, strV t.letter]
abbrev stepV (p t : Sx.Tn) : Value := .agg #[.int .i64 p.stands, .int .i64 p.clock, .int .i64 p.save, strV p.letter, .int .i64 t.stands, .int .i64 t.clock, .int .i64 t.save, strV t.letter]
def timeC (t : Sx.Tm) : List Value := [.int .i64 t.at_, .int .i64 t.save, strV t.letter]
abbrev timeV (t : Sx.Tm) : Value := .agg #[.int .i64 t.at_, .int .i64 t.save, strV t.letter]

set_option maxRecDepth 100000 in
set_option maxHeartbeats 4000000 in
theorem turnIn_any (r : Sx.Rl) (y : Int) (w : World) (ho : Cv.onE y r.month r.kind r.wk r.n = 0) (h1 : 0 ≤ r.at_) (h2 : r.at_ ≤ 172800) :
    Calls Tryz.prog 26 #[ruleV r, .int .i64 y] w fun e w' => e = .returned (turnV (Sx.turnIn r y)) ∧ Below w.heap.size w w' := by
  obtain ⟨_, _, _, _, t1, t2⟩ := Cv.onE_zero ho
  have HO := hid ho
  have ET : Hid (Sx.turnIn r y = ⟨Cv.tgt y r.month r.kind r.wk r.n * 86400 + r.at_, r.clock, r.save, r.letter⟩) := rfl
  obtain ⟨D, hD⟩ : ∃ D, Cv.tgt y r.month r.kind r.wk r.n = D := ⟨_, rfl⟩
  rw [hD] at ET t1 t2
  have HD := hid hD
  clear ho hD
  have XV := hid (ca_alloc (ca_new w (ruleCells r) 31) (.cells #[.int .i64 0, .int .i64 0, .int .i64 0, .string ⟨#[]⟩] 51))
  have TV : Hid (CellsAt ((w.alloc (.cells (ruleCells r).toArray 31)).alloc (.cells #[.int .i64 0, .int .i64 0, .int .i64 0, .string ⟨#[]⟩] 51)) (w.heap.size + 1) [.int .i64 0, .int .i64 0, .int .i64 0, .string ⟨#[]⟩]) := by
    have := ca_new (w.alloc (.cells (ruleCells r).toArray 31)) [.int .i64 0, .int .i64 0, .int .i64 0, .string ⟨#[]⟩] 51
    rw [World.size_alloc] at this
    exact this
  have BV := hid (((Below.refl w.heap.size w).alloc (Nat.le_refl _) (.cells (ruleCells r).toArray 31)).alloc (by simp) (.cells #[.int .i64 0, .int .i64 0, .int .i64 0, .string ⟨#[]⟩] 51))
  go_enter Tryz.func26, Tryz.ntmps26
  go_wp2_with fail
  refine (on_good _ _ _ _ _ _ HO.out).mono ?_
  rintro e w1 ⟨a, b, d, rfl, hv, hnum, hb⟩
  have X1 := hid (ca_alloc (ca_below XV.out hb) (.cells #[.int .i64 a, .int .i64 b, .int .i64 d] 87))
  have T1 := hid (ca_alloc (ca_below TV.out hb) (.cells #[.int .i64 a, .int .i64 b, .int .i64 d] 87))
  have B0 : Below w.heap.size w w1 := BV.out.trans (hb.mono BV.out.size)
  have B1 := hid (B0.alloc B0.size (.cells #[.int .i64 a, .int .i64 b, .int .i64 d] 87))
  have HV := hid hv
  have HN : Hid (Cv.num a b d = D) := by show _ = _; rw [hnum]; exact HD.out
  clear hb XV TV BV B0 hv hnum
  go_wp2_with fail
  refine (days_yes _ _ _ _ HV.out).mono ?_
  rintro e w2 ⟨rfl, hb⟩
  have X2 := hid (ca_below X1.out hb)
  have T2 := hid (ca_below T1.out hb)
  have B2 : Hid (Below w.heap.size w w2) := B1.out.trans (hb.mono B1.out.size)
  rw [HN.out]
  clear hb X1 T1 B1
  obtain ⟨x7, _⟩ := ca_at X2.out 7 rfl
  obtain ⟨x8, _⟩ := ca_at X2.out 8 rfl
  obtain ⟨x9, _⟩ := ca_at X2.out 9 rfl
  obtain ⟨x10, _⟩ := ca_at X2.out 10 rfl
  obtain ⟨t0, tf0⟩ := ca_at T2.out 0 rfl
  obtain ⟨t1', tf1⟩ := ca_at T2.out 1 rfl
  obtain ⟨t2', tf2⟩ := ca_at T2.out 2 rfl
  obtain ⟨t3', tf3⟩ := ca_at T2.out 3 rfl
  have sx := X2.out.1
  have st := T2.out.1
  go_wp2
  refine bodyPost_ret (v := turnV ⟨D * 86400 + r.at_, r.clock, r.save, r.letter⟩) (by simp [results, Tryz.results26, go_sem, *]) rfl ⟨by rw [ET.out], ?_⟩
  exact below_set (below_set (below_set (below_set B2.out (Nat.le_succ _) _) (Nat.le_succ _) _) (Nat.le_succ _) _) (Nat.le_succ _) _

set_option maxRecDepth 100000 in
set_option maxHeartbeats 4000000 in
theorem time_any (p t : Sx.Tn) (shift : Int) (w : World) (h1 : -64800 ≤ shift) (h2 : shift ≤ 64800) (s1 : 0 ≤ p.save) (s2 : p.save ≤ 10800) (b1 : -1000000000000 ≤ t.stands) (b2 : t.stands ≤ 1000000000000) :
    Calls Tryz.prog 12 #[stepV p t, .int .i64 shift] w fun e w' => e = .returned (timeV (Sx.timeOf shift p.save t)) ∧ Below w.heap.size w w' := by
  obtain ⟨A, hA⟩ : ∃ A, (Sx.timeOf shift p.save t).at_ = A := ⟨_, rfl⟩
  have HA : Hid (A = (if t.clock = 3 then t.stands else t.stands - shift) - (if t.clock = 1 then p.save else 0)) := by show _ = _; rw [← hA]; rfl
  have ET : Hid (Sx.timeOf shift p.save t = ⟨A, t.save, t.letter⟩) := by show _ = _; rw [← hA]; rfl
  clear hA
  by_cases c3 : t.clock = 3
  · have n3 : (t.clock != 3) = false := by simp [c3]
    have n1 : (t.clock == 1) = false := by simp [c3]
    have HA2 : Hid (t.stands = A) := by show _ = _; rw [HA.out]; simp [c3]
    clear c3
    go_enter Tryz.func12, Tryz.ntmps12
    go_wp2
    rw [HA2.out]
    refine bodyPost_ret (v := timeV ⟨A, t.save, t.letter⟩) (by simp [results, Tryz.results12, go_sem, *]) rfl ⟨by rw [ET.out], ?_⟩
    repeat (first | exact Below.refl _ _ | refine Below.alloc ?_ (by simp) _)
  have n3 : (t.clock != 3) = true := by simp [c3]
  by_cases c1 : t.clock = 1
  · have n1 : (t.clock == 1) = true := by simp [c1]
    have HA2 : Hid (t.stands - shift - p.save = A) := by show _ = _; rw [HA.out]; simp [c1]
    clear c1 c3
    go_enter Tryz.func12, Tryz.ntmps12
    go_wp2
    rw [HA2.out]
    refine bodyPost_ret (v := timeV ⟨A, t.save, t.letter⟩) (by simp [results, Tryz.results12, go_sem, *]) rfl ⟨by rw [ET.out], ?_⟩
    repeat (first | exact Below.refl _ _ | refine Below.alloc ?_ (by simp) _)
  · have n1 : (t.clock == 1) = false := by simp [c1]
    have HA2 : Hid (t.stands - shift = A) := by show _ = _; rw [HA.out]; simp [c1, c3]
    clear c1 c3
    go_enter Tryz.func12, Tryz.ntmps12
    go_wp2
    rw [HA2.out]
    refine bodyPost_ret (v := timeV ⟨A, t.save, t.letter⟩) (by simp [results, Tryz.results12, go_sem, *]) rfl ⟨by rw [ET.out], ?_⟩
    repeat (first | exact Below.refl _ _ | refine Below.alloc ?_ (by simp) _)

set_option maxHeartbeats 1000000 in
theorem nan_any (n : Int) (w : World) : Calls Tryz.prog 46 #[.int .i64 n] w fun e w' => e = .returned (.bool false) ∧ w' = w := by
  go_enter Tryz.func46, Tryz.ntmps46
  go_wp2
  go_ret
  exact ⟨by simp, rfl⟩
def cmpI (a b : Int) : Int := if a < b then -1 else if b < a then 1 else 0
set_option maxHeartbeats 1000000 in
theorem compare_any (a b : Int) (w : World) : Calls Tryz.prog 24 #[.int .i64 a, .int .i64 b] w fun e w' => e = .returned (.int .i64 (cmpI a b)) ∧ w' = w := by
  by_cases h1 : a < b
  · go_enter Tryz.func24, Tryz.ntmps24
    go_wp2_with (go_at_call 46; refine (nan_any _ _).mono ?_; rintro e w1 ⟨rfl, rfl⟩)
    go_ret
    exact ⟨ret_int (by simp [cmpI, h1]), rfl⟩
  · by_cases h2 : b < a
    all_goals
      go_enter Tryz.func24, Tryz.ntmps24
      go_wp2_with (go_at_call 46; refine (nan_any _ _).mono ?_; rintro e w1 ⟨rfl, rfl⟩)
      go_ret
      exact ⟨ret_int (by unfold cmpI; (repeat split) <;> omega), rfl⟩
set_option maxRecDepth 100000 in
set_option maxHeartbeats 2000000 in
theorem order1_any (s t : Sx.Tn) (w : World) : Calls Tryz.prog 23 #[turnV s, turnV t] w fun e w' => e = .returned (.int .i64 (cmpI s.stands t.stands)) ∧ Below w.heap.size w w' := by
  go_enter Tryz.func23, Tryz.ntmps23
  go_wp2_with (go_at_call 24; refine (compare_any _ _ _).mono ?_; rintro e w1 ⟨rfl, rfl⟩)
  go_ret
  exact ⟨rfl, ((Below.refl _ _).alloc (Nat.le_refl _) _).alloc (by simp) _⟩
end Go.Proofs.YtdekggmaeoeccaaGreat
namespace Go.Proofs.YtdekggmaeoeccaaGreat.Sx
set_option linter.unusedVariables false
set_option linter.unusedSimpArgs false

structure RuleOk (r : Rl) : Prop where
  frm : 1900 ≤ r.frm
  le : r.frm ≤ r.to
  «to» : r.to ≤ 2100
  month : 1 ≤ r.month ∧ r.month ≤ 12
  on : Cv.onE 2001 r.month r.kind r.wk r.n = 0
  at_ : 0 ≤ r.at_ ∧ r.at_ ≤ 172800
  clock : 1 ≤ r.clock ∧ r.clock ≤ 3
  save : 0 ≤ r.save ∧ r.save ≤ 10800
theorem rule_ok {r : Rl} (h : ruleE r = 0) : RuleOk r := by
  unfold ruleE at h
  split at h
  · omega
  split at h
  · omega
  rename_i h2
  split at h
  · omega
  rename_i h3
  split at h
  · rename_i h4; exact absurd h h4
  rename_i h4
  split at h
  · omega
  rename_i h5
  split at h
  · omega
  rename_i h6
  split at h
  · omega
  rename_i h7
  simp [inB] at h2 h3 h5 h6 h7 h4
  exact ⟨by omega, by omega, by omega, by omega, h4, by omega, by omega, by omega⟩
theorem dim_common (y m : Int) : Cv.dim 2001 m ≤ Cv.dim y m := by
  have h : Cv.lpB 2001 = false := by decide
  unfold Cv.dim
  split
  · omega
  · split
    · rw [h, if_neg (by decide)]; split <;> omega
    · omega
theorem dby_rule {y : Int} (h1 : 1900 ≤ y) (h2 : y ≤ 2100) : 693000 ≤ Cv.dby y ∧ Cv.dby y ≤ 767000 := by
  have a := Cv.dby_le 1900 y h1
  have b := Cv.dby_le y 2100 h2
  have e1 : Cv.dby 1900 = 693595 := by decide
  have e2 : Cv.dby 2100 = 766644 := by decide
  omega
theorem num_rule {y m : Int} (h1 : 1900 ≤ y) (h2 : y ≤ 2100) (m1 : 1 ≤ m) (m2 : m ≤ 12) : -30000 ≤ Cv.num y m 1 ∧ Cv.num y m 1 ≤ 50000 := by
  have a := dby_rule h1 h2
  have b := Cv.cum_bd y m m1 (by omega)
  unfold Cv.num
  omega
theorem tgt_rule {y m k wk n : Int} (h1 : 1900 ≤ y) (h2 : y ≤ 2100) (m1 : 1 ≤ m) (m2 : m ≤ 12) (hf : Cv.fitB k wk n (Cv.dim y m) = true) : -40000 ≤ Cv.tgt y m k wk n ∧ Cv.tgt y m k wk n ≤ 60000 := by
  have a := num_rule h1 h2 m1 m2
  have d := Cv.dim_bd y m
  obtain ⟨w1, w2, f⟩ := Cv.fit_iff.1 hf
  unfold Cv.tgt
  split
  · have := Cv.upto_bd (Cv.num y m 1 + Cv.dim y m - 1) wk w1 w2; omega
  split
  · have := Cv.frm_bd (Cv.num y m 1 + n - 1) wk w1 w2; omega
  split
  · have := Cv.upto_bd (Cv.num y m 1 + n - 1) wk w1 w2; omega
  · omega
theorem on_year {r : Rl} (h : RuleOk r) {y : Int} (h1 : 1900 ≤ y) (h2 : y ≤ 2100) : Cv.onE y r.month r.kind r.wk r.n = 0 ∧ -40000 ≤ Cv.tgt y r.month r.kind r.wk r.n ∧ Cv.tgt y r.month r.kind r.wk r.n ≤ 60000 := by
  obtain ⟨_, k1, k2, f, _, _⟩ := Cv.onE_zero h.on
  have m := h.month
  have hd := dim_common y r.month
  obtain ⟨w1, w2, f⟩ := Cv.fit_iff.1 f
  have f' : Cv.fitB r.kind r.wk r.n (Cv.dim y r.month) = true := Cv.fit_iff.2 ⟨w1, w2, by rcases f with f | ⟨a, b, c, d⟩
                                                                                          · exact .inl f
                                                                                          · exact .inr ⟨a, b, c, by omega⟩⟩
  have t := tgt_rule h1 h2 m.1 m.2 f'
  refine ⟨?_, t⟩
  unfold Cv.onE
  rw [if_neg (by rw [Cv.mon_iff.2 (by omega)]; decide), if_neg (by omega), if_neg (by rw [f']; decide), if_neg (by omega)]
theorem firstE_zero {α : Type} (f : α → Int) : ∀ {l : List α}, firstE f l = 0 → ∀ x ∈ l, f x = 0
  | [], _ => by simp
  | a :: r, h => by
    unfold firstE at h
    split at h
    · rename_i q; exact absurd h q
    · rename_i q
      intro x hx
      rcases List.mem_cons.1 hx with rfl | hx
      · simpa using q
      · exact firstE_zero f h x hx
/- what was turned rule by rule -/
theorem turnsOf_snoc (rs : List Rl) (r : Rl) (name : Tx.Bs) : turnsOf (rs ++ [r]) name = turnsOf rs name ++ (if (r.name == name) = true then turnsR r else []) := by
  unfold turnsOf
  rw [List.filter_append, List.flatMap_append]
  congr 1
  cases q : (r.name == name) <;> simp [q]
theorem turnsOf_take {rs : List Rl} {name : Tx.Bs} {i : Nat} {r : Rl} (h : rs[i]? = some r) : turnsOf (rs.take (i + 1)) name = turnsOf (rs.take i) name ++ (if (r.name == name) = true then turnsR r else []) := by
  have hi := (List.getElem?_eq_some_iff.1 h).1
  rw [List.take_succ_eq_append_getElem hi, (List.getElem?_eq_some_iff.1 h).2]
  exact turnsOf_snoc _ _ _
def turnsTo (r : Rl) (k : Nat) : List Tn := (List.range k).map fun (j : Nat) => turnIn r (r.frm + (j : Int))
theorem turnsTo_succ (r : Rl) (k : Nat) : turnsTo r (k + 1) = turnsTo r k ++ [turnIn r (r.frm + (k : Int))] := by simp [turnsTo, List.range_succ]
theorem turnsTo_all (r : Rl) : turnsTo r (many r) = turnsR r := rfl
end Go.Proofs.YtdekggmaeoeccaaGreat.Sx
namespace Go.Proofs.YtdekggmaeoeccaaGreat
open Go.RowKit Go.Shelf
set_option linter.unusedVariables false
set_option linter.unusedSimpArgs false

structure KeepT (T : TypeId) (Bs : Nat) (W W' : World) : Prop where
  size : W.heap.size ≤ W'.heap.size
  cells : ∀ (k : Nat) (cs : Array Value) (t : TypeId), W.heap[k]? = some (.cells cs t) → t ≠ T → k ≠ Bs → W'.heap[k]? = some (.cells cs t)
theorem keepT_t {T : TypeId} {Bs : Nat} {A B C : World} (h : KeepT T Bs A B) (k : KeepT T Bs B C) : KeepT T Bs A C :=
  ⟨Nat.le_trans h.size k.size, fun i cs t a b c => k.cells i cs t (h.cells i cs t a b c) b c⟩
theorem keepT_b {T : TypeId} {Bs : Nat} {w : World} (W : World) (l : Nat) (o o' : Obj) (_ : w.heap.size ≤ l) (h : W.heap[l]? = some o) (hc : o.isCells = false) (_ : o.isWalk = false) : KeepT T Bs W (W.putObj l o') := by
  have hg := grownBy_putObj' W l o'
  refine ⟨hg.size, fun k cs t a _ _ => ?_⟩
  have hk : k < W.heap.size := (Array.getElem?_eq_some_iff.1 a).1
  rw [hg.block k hk (by intro q; cases q; rw [h] at a; cases a; simp [Obj.isCells] at hc)]
  exact a
theorem keepT_refl {T : TypeId} {Bs : Nat} (W : World) : KeepT T Bs W W := ⟨Nat.le_refl _, fun _ _ _ a _ _ => a⟩
theorem keepT_block {T : TypeId} {Bs k : Nat} {W W' : World} {cs : Array Value} {t : TypeId} (h : KeepT T Bs W W') (a : W.heap[k]? = some (.cells cs t)) (ht : t ≠ T) (hk : k ≠ Bs) : W'.heap[k]? = W.heap[k]? := by rw [h.cells k cs t a ht hk, a]
end Go.Proofs.YtdekggmaeoeccaaGreat
namespace Go.Proofs.YtdekggmaeoeccaaGreat
open Go.RowKit Go.Shelf
set_option linter.unusedVariables false
set_option linter.unusedSimpArgs false

def OwnC {β : Type} (B : Nat) (I : β → World → Prop) : Prop :=
  ∀ s W W' row, I s W → W.grownBy W' row → (∀ r, row = some r → B ≤ r ∧ (r = B + 2 ∨ ∃ o : Obj, W.heap[r]? = some o ∧ o.isCells = false)) → I s W'
theorem OwnC.own {β : Type} {B : Nat} {I : β → World → Prop} (h : OwnC B I) : OwnFrom B I :=
  fun s W W' row hs hg hr => h s W W' row hs hg fun r e => ⟨(hr r e).1, .inr (hr r e).2⟩
theorem OwnC.and {β : Type} {B : Nat} {I J : β → World → Prop} (h : OwnC B I) (k : OwnC B J) : OwnC B (fun s W => I s W ∧ J s W) :=
  fun s W W' row hs hg hr => ⟨h s W W' row hs.1 hg hr, k s W W' row hs.2 hg hr⟩
theorem ownC_below {β : Type} {n₀ B : Nat} {w₀ : World} (hn : n₀ ≤ w₀.heap.size) (hB : n₀ ≤ B) : OwnC B (fun (_ : β) W => Below n₀ w₀ W) :=
  fun _ _ _ _ hs hg hr => hs.grown hg (Nat.le_trans hn hs.size) (fun k e => Nat.le_trans hB (hr k e).1)
def AbidesC {β : Type} (B : Nat) (J : β → World → Prop) : Prop :=
  ∀ s W W' row, J s W → W.grownBy W' row → (∀ r, row = some r → B ≤ r ∧ (r = B ∨ ∃ o : Obj, W.heap[r]? = some o ∧ o.isWalk = true)) → J s W'
def SeqC {α : Type} (F : Fence) (n : Nat) (P : Program) (g : Nat) (lb : Array Value) (encs : α → Array Value) (Kp : World → World → Prop) (S Sp : List α → Prop) (w : World) : Prop :=
  ∀ (l : Nat) (J Jx : List α → World → Prop) (W : World), Below w.heap.size w W → AbidesC W.heap.size J → AbidesC W.heap.size Jx →
    (∀ pre x W1, J pre W1 → Sp (pre ++ [x]) → YieldAt F (n - 1) P l (encs x) W1 fun e W' =>
      (e = .returned (.bool true) ∧ J (pre ++ [x]) W' ∧ Kp W1 W') ∨ (e = .returned (.bool false) ∧ Jx (pre ++ [x]) W')) →
    J [] W →
    CallsIn F n P g (#[.func (.yield l) #[] #[]] ++ lb) W fun e W' => (∃ v, e = .returned v) ∧ ((∃ xs, S xs ∧ J xs W') ∨ (∃ pre, Sp pre ∧ Jx pre W'))

theorem wpIn_range_c {α : Type} {F : Fence} {n : Nat} {P : Program} {g : Operand} {ps : Array Tmp} {assign body : Code} {Q : Exit → Act → World → Prop} {a : Act} {w : World}
    (hro : F.round = none) (h1 : 1 ≤ n) {gf : Nat} {lb : Array Value} (hg : a.eval g = .func (.func gf) #[] lb) (hFg : F.fn gf) (eg : ∀ args w, (callFunc gf args).run P w = .ok (.enter gf args) w)
    {encs : α → Array Value} {Kp : World → World → Prop} {S Sp : List α → Prop} {w0 : World} (hseq : SeqC F (n - 1) P gf lb encs Kp S Sp w0)
    (hKt : ∀ {A B C : World}, Kp A B → Kp B C → Kp A C) (hKb : ∀ (W : World) (l : Nat) (o o' : Obj), w.heap.size ≤ l → W.heap[l]? = some o → o.isCells = false → o.isWalk = false → Kp W (W.putObj l o'))
    (hb0 : Below w0.heap.size w0 w) (hps : ∀ x, (encs x).size = ps.size)
    (I : List α → World → Prop) (Ix : Code → List α → World → Prop) (hI : OwnC w.heap.size I) (hIx : ∀ c, OwnC w.heap.size (Ix c)) (h0 : I [] w)
    (Ax : α → Act → World → Prop) (hAx : ∀ x a', OwnFrom w.heap.size (fun (_ : Unit) W => Ax x a' W))
    (hassign : ∀ (l : Nat) (pre : List α) (x : α) (W : World) (K : Act → World → Prop), I pre W → w.heap.size + 2 ≤ W.heap.size → (∀ a' W', KeepsFrom w.heap.size W W' → Kp W W' → I pre W' → Ax x a' W' → K a' W') →
      assign.wpIn (F.inRound l) (n - 1 - 1) P (Exit.then K (fun _ _ _ => False)) { tmps := (ps.zip (encs x)).foldl (fun t (p, v) => t.setIfInBounds p v) a.tmps, defers := [] } W)
    (hbody : ∀ (l : Nat) (pre : List α) (x : α) (a' : Act) (W : World), w.heap.size ≤ l → (∃ r, W.heap[l]? = some (.loop r)) → I pre W → Ax x a' W → Sp (pre ++ [x]) → w.heap.size + 2 ≤ W.heap.size →
      body.wpIn (F.inRound l) (n - 1 - 1) P (ownPostG w.heap.size Kp I Ix (pre ++ [x]) W) a' W)
    (hdone : ∀ (D : Nat) (xs : List α) (W : World), w.heap.size ≤ D → S xs → I xs W → W.heap[D]? = some (.deferred (some [])) → Q .normal { a with defers := { target := .collected D, args := #[] } :: a.defers } W)
    (hstop : ∀ (D : Nat) (c : Code) (pre : List α) (W : World), w.heap.size ≤ D → Sp pre → Ix c pre W → W.heap[D]? = some (.deferred (some [])) → c.wpIn F n P Q { a with defers := { target := .collected D, args := #[] } :: a.defers } W) :
    (Code.rangeFunc g ps assign body).wpIn F n P Q a w := by
  refine wpIn_rangeFunc fun fn hfn => ?_
  rw [hro]
  have oI := hI.own
  have oIx := fun c => (hIx c).own
  obtain ⟨D, hD⟩ : ∃ D, w.heap.size = D := ⟨_, rfl⟩
  obtain ⟨rc, hrc⟩ : ∃ rc : LoopState → Option Code → Loop, rc = fun st pe => { state := st, pending := pe, fn, tmps := a.tmps, params := ps, assign, body, defers := D } := ⟨_, rfl⟩
  obtain ⟨V, hV⟩ : ∃ V, (w.alloc (.deferred (some []))).alloc (.loop (rc .ready none)) = V := ⟨_, rfl⟩
  have sV : V.heap.size = D + 2 := by rw [← hV]; simp [hD]
  have vL : V.heap[D + 1]? = some (.loop (rc .ready none)) := by
    have := World.alloc_heap_new (w.alloc (.deferred (some []))) (.loop (rc .ready none))
    rw [World.size_alloc, hD, hV] at this; exact this
  have vD : V.heap[D]? = some (.deferred (some [])) := by
    rw [← hV, Below.heap_alloc _ _ _ (by simp [hD]), ← hD]; exact World.alloc_heap_new w _
  have vI : I [] V := by rw [← hV]; exact oI.alloc _ (oI.alloc _ h0)
  have vB : Below w0.heap.size w0 V := by
    rw [← hV]; exact hb0.trans ((((Below.refl _ w).alloc (Nat.le_refl _) _).alloc (by simp) _).mono hb0.size)
  rw [hD] at hKb oI oIx hAx hassign hbody hdone hstop hI hIx
  refine ⟨D + 1, [{ target := .collected D, args := #[] }], V, { target := .fn (.func gf) lb, args := #[.func (.yield (D + 1)) #[] #[]] }, V, gf, #[.func (.yield (D + 1)) #[] #[]] ++ lb, V, ?_, ?_, ?_, ?_, fun _ => h1, ?_⟩
  · rw [← hV, hrc, ← hD]; exact run_enterLoop_outer _ _ _ _ _
  · simp only [resolve, hg]; simp [go_sem]
  · intro f' hf'; simp [Target.leads] at hf'; subst hf'; exact hFg
  · simp [invoke, go_sem, eg]
  /- what stands between two rounds: the caller's own, and the two blocks that the loop laid -/
  have far : ∀ {A B : World} {row : Option Nat} {k : Nat} {o : Obj}, A.grownBy B row → (∀ r, row = some r → V.heap.size ≤ r ∧ (r = V.heap.size ∨ ∃ o : Obj, A.heap[r]? = some o ∧ o.isWalk = true)) → k < D + 2 → A.heap[k]? = some o → B.heap[k]? = some o :=
    fun hg' hr hk ho => (hg'.block _ (Array.getElem?_eq_some_iff.1 ho).1 (fun e => by have := (hr _ e.symm).1; omega)).trans ho
  have near : ∀ {A : World} {row : Option Nat}, (∀ r, row = some r → V.heap.size ≤ r ∧ (r = V.heap.size ∨ ∃ o : Obj, A.heap[r]? = some o ∧ o.isWalk = true)) → ∀ r, row = some r → D ≤ r ∧ (r = D + 2 ∨ ∃ o : Obj, A.heap[r]? = some o ∧ o.isCells = false) :=
    fun hr r e => by
      obtain ⟨q, q2⟩ := hr r e
      refine ⟨by omega, q2.imp (fun h => by omega) (fun ⟨o, ho, hw⟩ => ⟨o, ho, Obj.not_cells_of_walk hw⟩)⟩
  refine (hseq (D + 1)
    (fun pre W => I pre W ∧ W.heap[D + 1]? = some (.loop (rc .ready none)) ∧ W.heap[D]? = some (.deferred (some [])))
    (fun pre W => ∃ c, Ix c pre W ∧ W.heap[D + 1]? = some (.loop (rc .done (some c))) ∧ W.heap[D]? = some (.deferred (some [])))
    V vB
    (fun s A B row hs hg' hr => ⟨hI s A B row hs.1 hg' (near hr), far hg' hr (by omega) hs.2.1, far hg' hr (by omega) hs.2.2⟩)
    (fun s A B row hs hg' hr => by
      obtain ⟨c, hc, hl, hk⟩ := hs
      exact ⟨c, hIx c s A B row hc hg' (near hr), far hg' hr (by omega) hl, far hg' hr (by omega) hk⟩)
    ?_ ⟨vI, vL, vD⟩).mono ?_
  · rintro pre x W ⟨hi, hl, hk⟩ hlen
    have hlt : D + 1 < W.heap.size := (Array.getElem?_eq_some_iff.1 hl).1
    have hy := run_yield (P := P) (args := encs x) hl (by rw [hrc]; exact hps x)
    rw [hrc] at hy
    refine ⟨fn, _, assign, body, hy, roundIn_of_wpIn hfn (hassign _ pre x W _ hi (by omega) ?_)⟩
    clear hy
    intro a' X kX pX iX aX
    have xl := kX.same _ _ (by omega) hl rfl
    have xk := kX.same _ _ (Nat.le_refl _) hk rfl
    have xs : D + 1 < X.heap.size := (Array.getElem?_eq_some_iff.1 xl).1
    obtain ⟨Y, hY⟩ : ∃ Y, X.putObj (D + 1) (.loop { rc .ready none with state := .busy }) = Y := ⟨_, rfl⟩
    refine ⟨Y, by rw [← hY]; exact run_beginRound xl (by rw [hrc]), ?_⟩
    have yl : Y.heap[D + 1]? = some (.loop { rc .ready none with state := .busy }) := by rw [← hY]; exact World.putObj_heap_same xs
    have yk : Y.heap[D]? = some (.deferred (some [])) := by rw [← hY]; exact (World.putObj_heap_other (by omega)).trans xk
    have ys : D + 1 < Y.heap.size := (Array.getElem?_eq_some_iff.1 yl).1
    have yp : Kp X Y := by rw [← hY]; exact hKb _ _ _ _ (by omega) xl rfl rfl
    have yI : I pre Y := by rw [← hY]; exact oI.putObj _ iX (by omega) xl rfl
    have yA : Ax x a' Y := by rw [← hY]; exact (hAx x a').putObj (s := ()) _ aX (by omega) xl rfl
    refine wpIn_mono (hbody _ pre x a' Y (by omega) ⟨_, yl⟩ yI yA hlen (by omega)) ?_
    /- how a round ends -/
    have fin : ∀ (jump : Option Code) (Z : World), KeepsFrom D Y Z →
        (Instr.endRound (D + 1) jump).run P Z = .ok (.bool jump.isNone) (Z.putObj (D + 1) (.loop (rc (if jump.isNone then .ready else .done) jump))) ∧
        Z.heap[D + 1]? = some (.loop { rc .ready none with state := .busy }) ∧
        (Z.putObj (D + 1) (.loop (rc (if jump.isNone then .ready else .done) jump))).heap[D + 1]? = some (.loop (rc (if jump.isNone then .ready else .done) jump)) ∧
        (Z.putObj (D + 1) (.loop (rc (if jump.isNone then .ready else .done) jump))).heap[D]? = some (.deferred (some [])) := fun jump Z hz => by
      have zl := hz.same _ _ (by omega) yl rfl
      have e := run_endRound (P := P) jump zl
      rw [hrc] at e zl ⊢
      exact ⟨e, zl, World.putObj_heap_same (Array.getElem?_eq_some_iff.1 zl).1, (World.putObj_heap_other (by omega)).trans (hz.same _ _ (Nat.le_refl _) yk rfl)⟩
    have out : ∀ (p : Value → World → Prop) (c : Code) (Z : World), KeepsFrom D Y Z → Ix c (pre ++ [x]) Z → ∃ e Z', (Instr.endRound (D + 1) (some c)).run P Z = .ok e Z' ∧ (p e Z' ∨ Ending.returned e = .returned (.bool false) ∧ ∃ c, Ix c (pre ++ [x]) Z' ∧ Z'.heap[D + 1]? = some (.loop (rc .done (some c))) ∧ Z'.heap[D]? = some (.deferred (some []))) := fun p c Z hz hi3 => by
      obtain ⟨hr, zl, zl2, zk2⟩ := fin (some c) Z hz
      exact ⟨_, _, hr, .inr ⟨rfl, c, (oIx c).putObj _ hi3 (by omega) zl rfl, zl2, zk2⟩⟩
    rintro e a3 Z hp
    cases e with
    | normal =>
      obtain ⟨hz, hkp, hi3⟩ := hp
      obtain ⟨hr, zl, zl2, zk2⟩ := fin none Z hz
      exact ⟨_, _, hr, .inl ⟨rfl, ⟨oI.putObj _ hi3 (by omega) zl rfl, zl2, zk2⟩, hKt pX (hKt (hKt yp hkp) (hKb _ _ _ _ (by omega) zl rfl rfl))⟩⟩
    | ret => exact out (fun e Z' => Ending.returned e = .returned (.bool true) ∧ _) _ Z hp.1 hp.2
    | exit id => exact out (fun e Z' => Ending.returned e = .returned (.bool true) ∧ _) _ Z hp.1 hp.2
    | goto t => exact out (fun e Z' => Ending.returned e = .returned (.bool true) ∧ _) _ Z hp.1 hp.2
    | panic ch => exact hp.elim
    | outgrown => exact hp.elim
  · rintro e X ⟨⟨v, rfl⟩, (⟨ys, hS, hi, hl, hk⟩ | ⟨pre, hSp, c, hi, hl, hk⟩)⟩
    · exact ⟨none, _, by have := run_endLoop (P := P) hl (by rw [hrc]; simp); rw [hrc] at this; exact this, hdone _ ys _ (Nat.le_refl _) hS (oI.putObj _ hi (by omega) hl rfl) ((World.putObj_heap_other (by omega)).trans hk)⟩
    · exact ⟨some c, _, by have := run_endLoop (P := P) hl (by rw [hrc]; simp); rw [hrc] at this; exact this, hstop _ c pre _ (Nat.le_refl _) hSp ((oIx c).putObj _ hi (by omega) hl rfl) ((World.putObj_heap_other (by omega)).trans hk)⟩
end Go.Proofs.YtdekggmaeoeccaaGreat
namespace Go.Proofs.YtdekggmaeoeccaaGreat
open Go.RowKit Go.Shelf
set_option linter.unusedVariables false
set_option linter.unusedSimpArgs false
attribute [local go_sem] Oper.semAt_some

theorem turns_prefix {rs : List Sx.Rl} {name : Tx.Bs} {i k : Nat} {r : Sx.Rl} (h : rs[i]? = some r) (hn : (r.name == name) = true) (hk : k ≤ Sx.many r) : (Sx.turnsOf (rs.take i) name ++ Sx.turnsTo r k) <+: Sx.turnsOf rs name := by
  have e := Sx.turnsOf_take (name := name) h
  rw [hn, if_pos rfl] at e
  have p1 : Sx.turnsTo r k <+: Sx.turnsR r := by
    rw [← Sx.turnsTo_all]
    unfold Sx.turnsTo
    refine ⟨((List.range (Sx.many r)).drop k).map (fun (j : Nat) => Sx.turnIn r (r.frm + (j : Int))), ?_⟩
    rw [← List.map_append]
    congr 1
    have : (List.range (Sx.many r)).take k = List.range k := by rw [List.take_range, Nat.min_eq_left hk]
    rw [← this]; exact List.take_append_drop _ _
  have p2 : Sx.turnsOf (rs.take (i + 1)) name <+: Sx.turnsOf rs name := by
    have : rs = rs.take (i + 1) ++ rs.drop (i + 1) := (List.take_append_drop _ _).symm
    refine ⟨Sx.turnsOf (rs.drop (i + 1)) name, ?_⟩
    conv => rhs; rw [this]
    unfold Sx.turnsOf
    rw [List.filter_append, List.flatMap_append]
  refine List.IsPrefix.trans ?_ p2
  rw [e]
  obtain ⟨t, ht⟩ := p1
  exact ⟨t, by rw [List.append_assoc, ht]⟩
theorem turns_lt {rs : List Sx.Rl} {name : Tx.Bs} {i k : Nat} {r : Sx.Rl} (h : rs[i]? = some r) (hn : (r.name == name) = true) (hk : k < Sx.many r) : (Sx.turnsOf (rs.take i) name ++ Sx.turnsTo r k).length < (Sx.turnsOf rs name).length := by
  have := (turns_prefix h hn (k := k + 1) (by omega)).length_le
  rw [Sx.turnsTo_succ] at this
  simp at this ⊢
  omega
def Kp (n₀ : Nat) (T : TypeId) (Bs : Nat) (W W' : World) : Prop := Below n₀ W W' ∧ KeepT T Bs W W'
set_option maxRecDepth 100000 in
set_option maxHeartbeats 4000000 in
theorem turns1_in (n l Bl Bn Bs : Nat) (hn : 1 ≤ n) (rs : List Sx.Rl) (name : Tx.Bs) (ra : Option Addr) (rcap : Nat) (W0 W : World) (h : RdRules W0 (.slice ra rs.length rcap) rs) (hok : ∀ r ∈ rs, Sx.RuleOk r) (hrs : rs.length ≤ 40)
    (cl : W0.cell? ⟨Bl, 0, none⟩ = some (.slice ra rs.length rcap)) (cn : W0.cell? ⟨Bn, 0, none⟩ = some (strV name)) (hBl : Bl < W0.heap.size) (hBn : Bn < W0.heap.size) (hBs : Bs < W.heap.size) (hW : Below W0.heap.size W0 W)
    (J Jx : List Sx.Tn → World → Prop) (hJ : AbidesFrom W.heap.size J)
    (hY : ∀ pre x W1, J pre W1 → pre.length < (Sx.turnsOf rs name).length → YieldAt Fence.wide (n - 1) Tryz.prog l #[turnV x] W1 fun e W' => (e = .returned (.bool true) ∧ J (pre ++ [x]) W' ∧ Kp W0.heap.size 51 Bs W1 W') ∨ (e = .returned (.bool false) ∧ Jx (pre ++ [x]) W'))
    (h0 : J [] W) :
    CallsIn Fence.wide n Tryz.prog 25 #[.func (.yield l) #[] #[], .pointer (some ⟨Bl, 0, none⟩), .pointer (some ⟨Bn, 0, none⟩)] W fun e W' => (∃ v, e = .returned v) ∧ ((∃ ys, ys = Sx.turnsOf rs name ∧ J ys W') ∨ (∃ pre, pre <+: Sx.turnsOf rs name ∧ Jx pre W')) := by
  have HY := hid hY
  have HJ := hid hJ
  have H := hid h
  have HOK := hid hok
  have cl1 := (hW.cell (p := ⟨Bl, 0, none⟩) hBl).trans cl
  have HCN := hid cn
  clear hY hJ h hok cl cn
  refine callsIn_of_wp Tryz.func25 rfl trivial ?_ rfl
  simp only [Tryz.ntmps25, List.size_toArray, List.length_cons, List.length_nil, Nat.reduceAdd, Nat.reduceSub, Array.replicate_succ, Array.replicate_zero, List.push_toArray, List.append_toArray, List.nil_append, List.cons_append]
  gi_wp2
  gi_loopw [9] (fun a wr => ∃ i : Nat, i ≤ rs.length ∧ a = .int .i64 i ∧ Hid (J (Sx.turnsOf (rs.take i) name) wr) ∧ Hid (Below W0.heap.size W0 wr) ∧ Hid (W.heap.size ≤ wr.heap.size)) (fun a _ => rs.length - (intOf a).toNat)
  case atStart => exact ⟨0, Nat.zero_le _, rfl, h0, hW, Nat.le_refl _⟩
  case round =>
    obtain ⟨i, hi, rfl, JS, B0, SZ⟩ := hrel
    by_cases hlt : i < rs.length
    case neg =>
      have e : rs.take i = rs := List.take_of_length_le (by omega)
      rw [e] at JS
      gi_wp2
      go_end0
      exact ⟨⟨_, rfl⟩, .inl ⟨_, rfl, JS.out⟩⟩
    obtain ⟨r, hx⟩ : ∃ r, rs[i]? = some r := ⟨_, List.getElem?_eq_getElem hlt⟩
    obtain ⟨rb, ro, rfl, hrb, hc⟩ := rd_elem (rd_below H.out B0.out) hx
    obtain ⟨c0, c1, c2, c3, c4, c5, c6, c7, c8, c9, c10⟩ := rd_rule hc
    have HX := hid hx
    have ok := HOK.out r (List.mem_of_getElem? hx)
    have cn1 : wr.cell? ⟨Bn, 0, none⟩ = some (strV name) := (B0.out.cell (p := ⟨Bn, 0, none⟩) hBn).trans HCN.out
    have sBn : Bn < wr.heap.size := Nat.lt_of_lt_of_le hBn B0.out.size
    clear hc hx
    cases hnm : (r.name == name)
    · have hnm' : (r.name != name) = true := by simp [bne, hnm]
      have JN : Hid (J (Sx.turnsOf (rs.take (i + 1)) name) (wr.alloc (.cells (ruleCells r).toArray 31))) := by
        show J _ _
        rw [Sx.turnsOf_take HX.out, hnm, if_neg (by decide), List.append_nil]
        exact HJ.out _ _ _ none JS.out (World.grownBy_alloc wr _ none) (fun r e => by cases e)
      have BN := hid (B0.out.alloc B0.out.size (.cells (ruleCells r).toArray 31))
      have SN : Hid (W.heap.size ≤ (wr.alloc (.cells (ruleCells r).toArray 31)).heap.size) := by show _ ≤ _; have := SZ.out; simp; omega
      gi_wp2
      go_roundw
      case rel => exact ⟨i + 1, by omega, by go_num, JN, BN, SN⟩
      case measure => simp [intOf]; omega
    · have hnm' : (r.name != name) = false := by simp [bne, hnm]
      have HNM := hid hnm
      have J1 : Hid (J (Sx.turnsOf (rs.take i) name ++ Sx.turnsTo r 0) (wr.alloc (.cells (ruleCells r).toArray 31))) := by
        show J _ _
        simp only [Sx.turnsTo, List.range_zero, List.map_nil, List.append_nil]
        exact HJ.out _ _ _ none JS.out (World.grownBy_alloc wr _ none) (fun r e => by cases e)
      have B1 := hid (B0.out.alloc B0.out.size (.cells (ruleCells r).toArray 31))
      have S1 : Hid (W.heap.size ≤ (wr.alloc (.cells (ruleCells r).toArray 31)).heap.size) := by show _ ≤ _; have := SZ.out; simp; omega
      have K1 : Hid ((wr.alloc (.cells (ruleCells r).toArray 31)).heap[wr.heap.size]? = some (.cells (ruleCells r).toArray 31)) := World.alloc_heap_new wr _
      have hRs : Hid (Bs ≠ wr.heap.size) := by show _ ≠ _; have := SZ.out; omega
      have HOKR := hid ok
      have X1 := hid (ca_new wr (ruleCells r) 31)
      obtain ⟨f1, f2, f3, _, _, fa, _, _⟩ := ok
      have hmany : Hid ((Sx.many r : Int) = r.to - r.frm + 1) := by show _ = _; simp [Sx.many]; omega
      gi_wp2
      obtain ⟨Rb, hRb⟩ : ∃ Rb, wr.heap.size = Rb := ⟨_, rfl⟩
      obtain ⟨V, hV⟩ : ∃ V, wr.alloc (.cells (ruleCells r).toArray 31) = V := ⟨_, rfl⟩
      rw [show wr.alloc (.cells #[strV r.name, .int .i64 r.frm, .int .i64 r.to, .int .i64 r.month, .int .i64 r.kind, .int .i64 r.wk, .int .i64 r.n, .int .i64 r.at_, .int .i64 r.clock, .int .i64 r.save, strV r.letter] 31) = V from hV, hRb]
      rw [hV] at J1 B1 S1 K1 X1
      rw [hRb] at K1 hRs X1
      clear hV c0 c1 c2 c3 c4 c5 c6 c7 c8 c9 c10 hrb JS B0 cn1 sBn SZ
      gi_loopw [6] (fun y wq => ∃ k : Nat, k ≤ Sx.many r ∧ y = .int .i64 (r.frm + (k : Int)) ∧ Hid (J (Sx.turnsOf (rs.take i) name ++ Sx.turnsTo r k) wq) ∧ Hid (Below W0.heap.size W0 wq) ∧ Hid (wq.heap[Rb]? = some (.cells (ruleCells r).toArray 31)) ∧ Hid (CellsAt wq Rb (ruleCells r)) ∧ Hid (W.heap.size ≤ wq.heap.size)) (fun y _ => (r.to + 1 - intOf y).toNat)
      case atStart => exact ⟨0, Nat.zero_le _, by simp, J1, B1, K1, X1, S1⟩
      case round =>
        clear J1 B1 K1 S1 X1
        obtain ⟨k, hk, rfl, J1, B1, K1, X1, S1⟩ := hrel
        have sR := X1.out.1
        obtain ⟨x0, _⟩ := ca_at X1.out 0 rfl
        obtain ⟨x1, _⟩ := ca_at X1.out 1 rfl
        obtain ⟨x2, _⟩ := ca_at X1.out 2 rfl
        obtain ⟨x3, _⟩ := ca_at X1.out 3 rfl
        obtain ⟨x4, _⟩ := ca_at X1.out 4 rfl
        obtain ⟨x5, _⟩ := ca_at X1.out 5 rfl
        obtain ⟨x6, _⟩ := ca_at X1.out 6 rfl
        obtain ⟨x7, _⟩ := ca_at X1.out 7 rfl
        obtain ⟨x8, _⟩ := ca_at X1.out 8 rfl
        obtain ⟨x9, _⟩ := ca_at X1.out 9 rfl
        obtain ⟨x10, _⟩ := ca_at X1.out 10 rfl
        by_cases hlk : k < Sx.many r
        case neg =>
          have hke : k = Sx.many r := by omega
          have hgt : ¬ r.frm + (k : Int) ≤ r.to := by have := hmany.out; omega
          have JN : Hid (J (Sx.turnsOf (rs.take (i + 1)) name) wr) := by
            have := J1.out
            rw [hke, Sx.turnsTo_all] at this
            show J _ _
            rw [Sx.turnsOf_take HX.out, HNM.out, if_pos rfl]
            exact this
          gi_wp2
          go_roundw
          case rel => exact ⟨i + 1, by omega, by go_num, JN, B1, S1⟩
          case measure => simp [intOf]; omega
        have hle : r.frm + (k : Int) ≤ r.to := by have := hmany.out; omega
        have OY := hid (Sx.on_year HOKR.out (y := r.frm + (k : Int)) (by omega) (by omega))
        have HC := hid (turnIn_any r (r.frm + (k : Int)) wr OY.out.1 fa.1 fa.2)
        obtain ⟨T, hT⟩ : ∃ T, Sx.turnIn r (r.frm + (k : Int)) = T := ⟨_, rfl⟩
        rw [hT] at HC
        have HT := hid hT
        have HLT := hid (turns_lt HX.out HNM.out hlk)
        clear hT
        gi_wp2_with (refine ⟨trivial, ?_⟩; gi_at_call 26; refine (callsIn_wide.2 HC.out).mono ?_; rintro e w1 ⟨rfl, hb⟩; have J2 := HJ.out _ _ _ none J1.out (below_grown hb) (fun r e => by cases e); obtain ⟨fn, tmps, assign, body, hy, hR⟩ := HY.out _ T w1 J2 HLT.out)
        refine hR.mono ?_
        have KB := K1.out
        have B2 : Below W0.heap.size W0 w1 := B1.out.trans (hb.mono B1.out.size)
        have X2 := ca_below X1.out hb
        have K2 : w1.heap[Rb]? = some (.cells (ruleCells r).toArray 31) := by rw [hb.block Rb sR]; exact KB
        have S2 : W.heap.size ≤ w1.heap.size := Nat.le_trans S1.out hb.size
        rintro e W3 (⟨rfl, hJ3, hk3⟩ | ⟨rfl, hJx3⟩)
        · have JN : Hid (J (Sx.turnsOf (rs.take i) name ++ Sx.turnsTo r (k + 1)) W3) := by
            show J _ _
            rw [Sx.turnsTo_succ, HT.out, ← List.append_assoc]
            exact hJ3
          have BN : Hid (Below W0.heap.size W0 W3) := B2.trans hk3.1
          have KN : Hid (W3.heap[Rb]? = some (.cells (ruleCells r).toArray 31)) := hk3.2.cells Rb _ _ K2 (by decide) (Ne.symm hRs.out)
          have XN : Hid (CellsAt W3 Rb (ruleCells r)) := ca_block X2 (Nat.lt_of_lt_of_le X2.1 hk3.2.size) (by rw [KN.out, K2])
          have SN : Hid (W.heap.size ≤ W3.heap.size) := Nat.le_trans S2 hk3.2.size
          clear hk3 hJ3 B2 X2 K2 S2 hb hR hy J2 KB J1 B1 K1 X1 S1
          gi_wp2
          go_roundw
          case rel => exact ⟨k + 1, by omega, by go_num, JN, BN, KN, XN, SN⟩
          case measure => simp [intOf]; omega
        · have PX : Hid ((Sx.turnsOf (rs.take i) name ++ Sx.turnsTo r k ++ [T]) <+: Sx.turnsOf rs name) := by
            have := turns_prefix HX.out HNM.out (k := k + 1) (by omega)
            rw [Sx.turnsTo_succ, HT.out, ← List.append_assoc] at this
            exact this
          gi_wp2
          refine bodyPost_ret (results_none rfl _ _ _) rfl ?_
          exact ⟨⟨_, rfl⟩, .inr ⟨_, PX.out, hJx3⟩⟩
end Go.Proofs.YtdekggmaeoeccaaGreat
namespace Go.Proofs.YtdekggmaeoeccaaGreat
open Go.RowKit Go.Shelf
set_option linter.unusedVariables false
set_option linter.unusedSimpArgs false
attribute [local go_sem] Oper.semAt_some

namespace Sx
def ago : Tn := ⟨-1099511627776, 0, 0, []⟩
def stepsFrom : Tn → List Tn → List (Tn × Tn)
  | _, [] => []
  | p, t :: r => (p, t) :: stepsFrom t r
def stepsOf (l : List Tn) : List (Tn × Tn) := stepsFrom ago l
def lastT (p : Tn) (l : List Tn) : Tn := (l.getLast?).getD p
theorem stepsFrom_append : ∀ (l : List Tn) (p t : Tn), stepsFrom p (l ++ [t]) = stepsFrom p l ++ [(lastT p l, t)]
  | [], p, t => rfl
  | u :: r, p, t => by
    simp only [List.cons_append, stepsFrom, stepsFrom_append r u t, lastT, List.getLast?_cons]
    cases r.getLast? <;> rfl
theorem stepsFrom_len : ∀ (l : List Tn) (p : Tn), (stepsFrom p l).length = l.length
  | [], p => rfl
  | u :: r, p => by simp [stepsFrom, stepsFrom_len r u]
theorem take_snoc {α : Type} {l : List α} {i : Nat} {t : α} (h : l[i]? = some t) : l.take (i + 1) = l.take i ++ [t] := by
  rw [List.take_add_one, h]; rfl
theorem steps_next {l : List Tn} {i : Nat} {t : Tn} (h : l[i]? = some t) : stepsOf (l.take (i + 1)) = stepsOf (l.take i) ++ [(lastT ago (l.take i), t)] := by
  unfold stepsOf; rw [take_snoc h, stepsFrom_append]
theorem last_next {l : List Tn} {i : Nat} {t : Tn} (h : l[i]? = some t) : lastT ago (l.take (i + 1)) = t := by
  rw [take_snoc h]; simp [lastT]
theorem stepsFrom_prefix : ∀ (a b : List Tn) (p : Tn), stepsFrom p a <+: stepsFrom p (a ++ b)
  | [], b, p => by simp [stepsFrom]
  | u :: r, b, p => by
    simp only [List.cons_append, stepsFrom]
    obtain ⟨t, ht⟩ := stepsFrom_prefix r b u
    exact ⟨t, by simp [ht]⟩
theorem steps_prefix (l : List Tn) (i : Nat) : stepsOf (l.take i) <+: stepsOf l := by
  have := stepsFrom_prefix (l.take i) (l.drop i) ago
  rwa [List.take_append_drop] at this
end Sx
def RdTurns := Rd 4 turnC
def RdTimes := Rd 3 timeC
theorem rd_turn {w : World} {b o i : Nat} {t : Sx.Tn} (h : ∀ k u, (turnC t)[k]? = some u → w.cell? ⟨b, o + i * 4 + k, none⟩ = some u) :
    w.cell? ⟨b, o + i * 4, none⟩ = some (.int .i64 t.stands) ∧ w.cell? ⟨b, o + i * 4 + 1, none⟩ = some (.int .i64 t.clock) ∧ w.cell? ⟨b, o + i * 4 + 2, none⟩ = some (.int .i64 t.save) ∧ w.cell? ⟨b, o + i * 4 + 3, none⟩ = some (strV t.letter) :=
  ⟨h 0 _ rfl, h 1 _ rfl, h 2 _ rfl, h 3 _ rfl⟩
theorem ca_heap2 {W : World} {b : Nat} {vs : List Value} {t : TypeId} (h : W.heap[b]? = some (.cells vs.toArray t (0, 0))) : CellsAt W b vs := by
  refine ⟨(Array.getElem?_eq_some_iff.1 h).1, fun k v hv => ?_⟩
  simp [World.cell?, World.frozen?, h, hv]
/- four cells of a block written one by one -/
theorem put4 {W : World} {b : Nat} {t : TypeId} {c0 c1 c2 c3 : Value} (v0 v1 v2 v3 : Value) (h : W.heap[b]? = some (.cells #[c0, c1, c2, c3] t)) :
    ((((W.setCell ⟨b, 0, none⟩ v0).setCell ⟨b, 1, none⟩ v1).setCell ⟨b, 2, none⟩ v2).setCell ⟨b, 3, none⟩ v3).heap[b]? = some (.cells #[v0, v1, v2, v3] t) := by
  obtain ⟨hlt, e⟩ := Array.getElem?_eq_some_iff.1 h
  simp [World.setCell, Array.getElem?_modify, h]
theorem grown4 (W : World) (b : Nat) (v0 v1 v2 v3 : Value) : W.grownBy ((((W.setCell ⟨b, 0, none⟩ v0).setCell ⟨b, 1, none⟩ v1).setCell ⟨b, 2, none⟩ v2).setCell ⟨b, 3, none⟩ v3) (some b) := by
  refine ⟨rfl, rfl, rfl, by simp, fun k hk hn => ?_⟩
  have hne : k ≠ b := fun e => hn (by rw [e])
  rw [Below.heap_setCell _ _ _ _ hne, Below.heap_setCell _ _ _ _ hne, Below.heap_setCell _ _ _ _ hne, Below.heap_setCell _ _ _ _ hne]

set_option maxRecDepth 100000 in
set_option maxHeartbeats 4000000 in
theorem steps1_in (n l Bo Bs : Nat) (hn : 1 ≤ n) (ts : List Sx.Tn) (ra : Option Addr) (rcap : Nat) (W0 W : World) (h : RdTurns W0 (.slice ra ts.length rcap) ts) (hts : ts.length ≤ 10000)
    (cl : W.cell? ⟨Bo, 0, none⟩ = some (.slice ra ts.length rcap)) (hBo : Bo < W.heap.size) (hBs : Bs < W.heap.size) (hW : Below W0.heap.size W0 W)
    (J Jx : List (Sx.Tn × Sx.Tn) → World → Prop) (hJ : AbidesC W.heap.size J)
    (hY : ∀ pre x W1, J pre W1 → pre ++ [x] <+: Sx.stepsOf ts → YieldAt Fence.wide (n - 1) Tryz.prog l #[stepV x.1 x.2] W1 fun e W' => (e = .returned (.bool true) ∧ J (pre ++ [x]) W' ∧ Kp W0.heap.size 33 Bs W1 W') ∨ (e = .returned (.bool false) ∧ Jx (pre ++ [x]) W'))
    (h0 : J [] W) :
    CallsIn Fence.wide n Tryz.prog 29 #[.func (.yield l) #[] #[], .pointer (some ⟨Bo, 0, none⟩)] W fun e W' => (∃ v, e = .returned v) ∧ ((∃ ys, ys = Sx.stepsOf ts ∧ J ys W') ∨ (∃ pre, pre <+: Sx.stepsOf ts ∧ Jx pre W')) := by
  have HY := hid hY
  have HJ := hid hJ
  have H := hid h
  have cl1 := cl
  have sBo : Bo < W.heap.size := hBo
  have J0 : Hid (J (Sx.stepsOf (ts.take 0)) (W.alloc (.cells (turnC Sx.ago).toArray 51))) := hJ _ _ _ none h0 (World.grownBy_alloc W _ none) (fun r e => by cases e)
  have B0 := hid (hW.alloc hW.size (.cells (turnC Sx.ago).toArray 51))
  have F0 : Hid ((W.alloc (.cells (turnC Sx.ago).toArray 51)).heap[W.heap.size]? = some (.cells (turnC (Sx.lastT Sx.ago (ts.take 0))).toArray 51)) := World.alloc_heap_new W _
  have S0 : Hid (W.heap.size < (W.alloc (.cells (turnC Sx.ago).toArray 51)).heap.size) := by show _ < _; simp
  have hsB : Hid (Bs ≠ W.heap.size ∧ W0.heap.size ≤ W.heap.size) := ⟨by omega, hW.size⟩
  have BsL := hid hBs
  clear hY hJ h cl h0
  refine callsIn_of_wp Tryz.func29 rfl trivial ?_ rfl
  simp only [Tryz.ntmps29, List.size_toArray, List.length_cons, List.length_nil, Nat.reduceAdd, Nat.reduceSub, Array.replicate_succ, Array.replicate_zero, List.push_toArray, List.append_toArray, List.nil_append, List.cons_append]
  gi_wp2
  obtain ⟨Fb, hFb⟩ : ∃ Fb, W.heap.size = Fb := ⟨_, rfl⟩
  rw [hFb] at HJ F0 S0 hsB BsL ⊢
  obtain ⟨V, hV⟩ : ∃ V, W.alloc (.cells (turnC Sx.ago).toArray 51) = V := ⟨_, rfl⟩
  rw [show W.alloc (.cells #[.int .i64 (-1099511627776), .int .i64 0, .int .i64 0, .string ⟨#[]⟩] 51) = V from hV]
  rw [hV] at J0 B0 F0 S0
  clear hV hFb hW hBs cl1 sBo
  gi_loopw [9] (fun a wr => ∃ i : Nat, i ≤ ts.length ∧ a = .int .i64 i ∧ Hid (J (Sx.stepsOf (ts.take i)) wr) ∧ Hid (Below W0.heap.size W0 wr) ∧ Hid (wr.heap[Fb]? = some (.cells (turnC (Sx.lastT Sx.ago (ts.take i))).toArray 51)) ∧ Hid (Fb < wr.heap.size)) (fun a _ => ts.length - (intOf a).toNat)
  case atStart => exact ⟨0, Nat.zero_le _, rfl, J0, B0, F0, S0⟩
  case round =>
    clear J0 B0 F0 S0
    obtain ⟨i, hi, rfl, JS, B0, F0, SZ⟩ := hrel
    by_cases hlt : i < ts.length
    case neg =>
      have e : ts.take i = ts := List.take_of_length_le (by omega)
      rw [e] at JS
      gi_wp2
      go_end0
      exact ⟨⟨_, rfl⟩, .inl ⟨_, rfl, JS.out⟩⟩
    obtain ⟨t, hx⟩ : ∃ t, ts[i]? = some t := ⟨_, List.getElem?_eq_getElem hlt⟩
    obtain ⟨rb, ro, rfl, hrb, hc⟩ := rd_elem (rd_below H.out B0.out) hx
    obtain ⟨c0, c1, c2, c3⟩ := rd_turn hc
    have HX := hid hx
    have HL := hid (Sx.steps_next hx)
    have HN := hid (Sx.last_next hx)
    obtain ⟨p, hp⟩ : ∃ p, Sx.lastT Sx.ago (ts.take i) = p := ⟨_, rfl⟩
    rw [hp] at F0 HL
    have CF := ca_heap2 F0.out
    obtain ⟨f0, z0⟩ := ca_at CF 0 rfl
    obtain ⟨f1, z1⟩ := ca_at CF 1 rfl
    obtain ⟨f2, z2⟩ := ca_at CF 2 rfl
    obtain ⟨f3, z3⟩ := ca_at CF 3 rfl
    have sF := SZ.out
    have J2 : Hid (J (Sx.stepsOf (ts.take i)) (wr.alloc (.cells (turnC t).toArray 51))) := HJ.out _ _ _ none JS.out (World.grownBy_alloc wr _ none) (fun r e => by cases e)
    have B2 := hid (B0.out.alloc B0.out.size (.cells (turnC t).toArray 51))
    have PX : Hid ((Sx.stepsOf (ts.take i) ++ [(p, t)]) <+: Sx.stepsOf ts) := by
      show _ <+: _
      rw [← HL.out]
      exact Sx.steps_prefix ts (i + 1)
    clear hc hx hp CF
    obtain ⟨fn, tmps, assign, body, hy, hR⟩ := HY.out _ (p, t) (wr.alloc (.cells #[.int .i64 t.stands, .int .i64 t.clock, .int .i64 t.save, strV t.letter] 51)) J2.out PX.out
    dsimp only at hy
    have HR := hid hR
    have K2 : Hid ((wr.alloc (.cells (turnC t).toArray 51)).heap[wr.heap.size]? = some (.cells (turnC t).toArray 51)) := World.alloc_heap_new wr _
    have F2 : Hid ((wr.alloc (.cells (turnC t).toArray 51)).heap[Fb]? = some (.cells (turnC p).toArray 51)) := by show _ = _; rw [Below.heap_alloc _ _ _ sF]; exact F0.out
    have hT : Hid (Bs ≠ wr.heap.size ∧ W0.heap.size ≤ wr.heap.size ∧ Fb < wr.heap.size) := ⟨by have := hsB.out; have := BsL.out; omega, B0.out.size, SZ.out⟩
    clear hR
    gi_wp2
    refine HR.out.mono ?_
    clear HR hy f0 f1 f2 f3 z0 z1 z2 z3 c0 c1 c2 c3 hrb F0 JS B0 SZ sF J2
    obtain ⟨Tb, hTb⟩ : ∃ Tb, wr.heap.size = Tb := ⟨_, rfl⟩
    obtain ⟨X, hX⟩ : ∃ X, wr.alloc (.cells (turnC t).toArray 51) = X := ⟨_, rfl⟩
    rw [show wr.alloc (.cells #[.int .i64 t.stands, .int .i64 t.clock, .int .i64 t.save, strV t.letter] 51) = X from hX]
    rw [hX] at K2 F2 B2
    rw [hTb] at K2 hT ⊢
    clear hX hTb
    rintro e W3 (⟨rfl, hJ3, hk3⟩ | ⟨rfl, hJx3⟩)
    · have F3 : W3.heap[Fb]? = some (.cells (turnC p).toArray 51) := hk3.2.cells Fb _ _ F2.out (by decide) (Ne.symm hsB.out.1)
      have T3 : W3.heap[Tb]? = some (.cells (turnC t).toArray 51) := hk3.2.cells Tb _ _ K2.out (by decide) (Ne.symm hT.out.1)
      have B3 : Below W0.heap.size W0 W3 := B2.out.trans hk3.1
      have s3 : Fb < W3.heap.size := (Array.getElem?_eq_some_iff.1 F3).1
      have st3 : Tb < W3.heap.size := (Array.getElem?_eq_some_iff.1 T3).1
      obtain ⟨f0, z0⟩ := ca_at (ca_heap2 F3) 0 rfl
      obtain ⟨f1, z1⟩ := ca_at (ca_heap2 F3) 1 rfl
      obtain ⟨f2, z2⟩ := ca_at (ca_heap2 F3) 2 rfl
      obtain ⟨f3, z3⟩ := ca_at (ca_heap2 F3) 3 rfl
      obtain ⟨c0, _⟩ := ca_at (ca_heap2 T3) 0 rfl
      obtain ⟨c1, _⟩ := ca_at (ca_heap2 T3) 1 rfl
      obtain ⟨c2, _⟩ := ca_at (ca_heap2 T3) 2 rfl
      obtain ⟨c3, _⟩ := ca_at (ca_heap2 T3) 3 rfl
      have G := grown4 W3 Fb (.int .i64 t.stands) (.int .i64 t.clock) (.int .i64 t.save) (strV t.letter)
      have JN : Hid (J (Sx.stepsOf (ts.take (i + 1))) ((((W3.setCell ⟨Fb, 0, none⟩ (.int .i64 t.stands)).setCell ⟨Fb, 1, none⟩ (.int .i64 t.clock)).setCell ⟨Fb, 2, none⟩ (.int .i64 t.save)).setCell ⟨Fb, 3, none⟩ (strV t.letter))) := by
        show J _ _
        rw [HL.out]
        exact HJ.out _ _ _ _ hJ3 G (fun r e => by cases e; exact ⟨Nat.le_refl _, .inl rfl⟩)
      have BN := hid (B3.grown G B3.size (fun k e => by cases e; exact hsB.out.2))
      have FN : Hid (((((W3.setCell ⟨Fb, 0, none⟩ (.int .i64 t.stands)).setCell ⟨Fb, 1, none⟩ (.int .i64 t.clock)).setCell ⟨Fb, 2, none⟩ (.int .i64 t.save)).setCell ⟨Fb, 3, none⟩ (strV t.letter)).heap[Fb]? = some (.cells (turnC (Sx.lastT Sx.ago (ts.take (i + 1)))).toArray 51)) := by
        show _ = _
        rw [HN.out]
        exact put4 _ _ _ _ F3
      have SN : Hid (Fb < ((((W3.setCell ⟨Fb, 0, none⟩ (.int .i64 t.stands)).setCell ⟨Fb, 1, none⟩ (.int .i64 t.clock)).setCell ⟨Fb, 2, none⟩ (.int .i64 t.save)).setCell ⟨Fb, 3, none⟩ (strV t.letter)).heap.size) := Nat.lt_of_lt_of_le s3 G.size
      clear hk3 hJ3 B3 G F3 T3 F2 K2 B2
      gi_wp2
      go_roundw
      case rel => exact ⟨i + 1, by omega, by go_num, JN, BN, FN, SN⟩
      case measure => simp [intOf]; omega
    · gi_wp2
      refine bodyPost_ret (results_none rfl _ _ _) rfl ?_
      exact ⟨⟨_, rfl⟩, .inr ⟨_, PX.out, hJx3⟩⟩
theorem steps_stops (n Bo Bs : Nat) (hn : 1 ≤ n) (ts : List Sx.Tn) (ra : Option Addr) (rcap : Nat) (W0 w : World) (h : RdTurns W0 (.slice ra ts.length rcap) ts) (hts : ts.length ≤ 10000)
    (cl : w.cell? ⟨Bo, 0, none⟩ = some (.slice ra ts.length rcap)) (hBo : Bo < w.heap.size) (hBs : Bs < w.heap.size) (hW : Below W0.heap.size W0 w) :
    SeqC Fence.wide n Tryz.prog 29 #[.pointer (some ⟨Bo, 0, none⟩)] (fun x : Sx.Tn × Sx.Tn => #[stepV x.1 x.2]) (Kp W0.heap.size 33 Bs) (fun ys => ys = Sx.stepsOf ts) (fun pre => pre <+: Sx.stepsOf ts) w :=
  fun l J Jx W hW1 hJ hJx hY h0 => steps1_in n l Bo Bs hn ts ra rcap W0 W h hts ((hW1.cell (p := ⟨Bo, 0, none⟩) hBo).trans cl) (Nat.lt_of_lt_of_le hBo hW1.size) (Nat.lt_of_lt_of_le hBs hW1.size) (hW.trans (hW1.mono hW.size)) J Jx hJ hY h0
end Go.Proofs.YtdekggmaeoeccaaGreat
namespace Go.Proofs.YtdekggmaeoeccaaGreat
open Go.RowKit Go.Shelf
set_option linter.unusedVariables false
set_option linter.unusedSimpArgs false
attribute [local go_sem] Oper.semAt_some

namespace Sx
def close (x : Tn × Tn) : Bool := decide (x.2.stands - x.1.stands < 172800)
theorem close_apartFrom : ∀ (l : List Tn) (p : Tn), (stepsFrom p l).any close = !apartFrom p.stands l
  | [], p => rfl
  | t :: r, p => by
    simp only [stepsFrom, List.any_cons, close_apartFrom r t, apartFrom, close]
    cases apartFrom t.stands r <;> by_cases h : 172800 ≤ t.stands - p.stands <;> simp [h] <;> omega
theorem close_apart {l : List Tn} (h : ∀ t ∈ l, -1000000000000 ≤ t.stands) : (stepsOf l).any close = !apart l := by
  match l, h with
  | [], _ => rfl
  | t :: r, h =>
    have h1 := h t (by simp)
    simp only [stepsOf, stepsFrom, List.any_cons, close_apartFrom, apart, close, ago]
    rw [decide_eq_false (by omega)]
    rfl
end Sx
def stepC (x : Sx.Tn × Sx.Tn) : List Value := [.int .i64 x.1.stands, .int .i64 x.1.clock, .int .i64 x.1.save, strV x.1.letter, .int .i64 x.2.stands, .int .i64 x.2.clock, .int .i64 x.2.save, strV x.2.letter]
def noT : Sx.Tn := ⟨0, 0, 0, []⟩
def noS : Sx.Tn × Sx.Tn := (noT, noT)
set_option maxRecDepth 100000 in
set_option maxHeartbeats 1000000 in
theorem steps_any (ra : Option Addr) (n rcap : Nat) (w : World) :
    Calls Tryz.prog 11 #[.slice ra n rcap] w fun e w' => e = .returned (.func (.func 29) #[] #[.pointer (some ⟨w.heap.size, 0, none⟩)]) ∧ w' = w.alloc (.cells #[.slice ra n rcap] 41) := by
  go_enter Tryz.func11, Tryz.ntmps11
  go_wp2
  go_ret
  exact ⟨rfl, rfl⟩
set_option maxRecDepth 100000 in
set_option maxHeartbeats 1000000 in
theorem check1_any (x : Sx.Tn × Sx.Tn) (w : World) (h1 : -2000000000000 ≤ x.1.stands) (h2 : x.1.stands ≤ 2000000000000) (h3 : -2000000000000 ≤ x.2.stands) (h4 : x.2.stands ≤ 2000000000000) :
    Calls Tryz.prog 28 #[stepV x.1 x.2] w fun e w' => e = .returned (.bool (Sx.close x)) ∧ Below w.heap.size w w' := by
  obtain ⟨p, t⟩ := x
  dsimp only at h1 h2 h3 h4 ⊢
  have EC : Hid (Sx.close (p, t) = decide (t.stands - p.stands < 172800)) := rfl
  go_enter Tryz.func28, Tryz.ntmps28
  go_wp2
  go_ret
  exact ⟨by rw [EC.out]; rfl, (Below.refl _ _).alloc (Nat.le_refl _) _⟩
theorem ownC_heap {β : Type} {B k : Nat} {o : Obj} (h : k < B) : OwnC B (fun (_ : β) W => W.heap[k]? = some o) :=
  fun _ W W' row hs hg hr => (hg.block k (Array.getElem?_eq_some_iff.1 hs).1 (fun e => by have := (hr k e.symm).1; omega)).trans hs
theorem ownC_pure {β : Type} {B : Nat} (p : β → Prop) : OwnC B (fun s (_ : World) => p s) := fun _ _ _ _ hs _ _ => hs
theorem kpC_t {n₀ Bs : Nat} {T : TypeId} {A B C : World} (h : Kp n₀ T Bs A B) (k : Kp n₀ T Bs B C) : Kp n₀ T Bs A C := ⟨h.1.trans k.1, keepT_t h.2 k.2⟩
theorem kpC_b {n₀ Bs : Nat} {T : TypeId} {w : World} (hn : n₀ ≤ w.heap.size) (W : World) (l : Nat) (o o' : Obj) (a : w.heap.size ≤ l) (b : W.heap[l]? = some o) (c : o.isCells = false) (d : o.isWalk = false) : Kp n₀ T Bs W (W.putObj l o') :=
  ⟨belowK_b hn W l o o' a b c d, keepT_b (w := w) W l o o' a b c d⟩
theorem kp_grow {n₀ Bs : Nat} {T : TypeId} {W W' : World} (hb : Below W.heap.size W W') (hn : n₀ ≤ W.heap.size) : Kp n₀ T Bs W W' :=
  ⟨hb.mono hn, hb.size, fun k cs t a _ _ => by rw [hb.block k (Array.getElem?_eq_some_iff.1 a).1]; exact a⟩
theorem keeps_below {W W' : World} (hb : Below W.heap.size W W') : KeepsOthers W W' :=
  ⟨hb.size, fun k o hk _ => (hb.block k (Array.getElem?_eq_some_iff.1 hk).1).trans hk⟩
theorem ownC_ex {β γ : Type} {B : Nat} {I : γ → β → World → Prop} (h : ∀ x, OwnC B (I x)) : OwnC B (fun s W => ∃ x, I x s W) :=
  fun s W W' row ⟨x, hs⟩ hg hr => ⟨x, h x s W W' row hs hg hr⟩
theorem steps_mem : ∀ (l : List Sx.Tn) (p : Sx.Tn) (x : Sx.Tn × Sx.Tn), x ∈ Sx.stepsFrom p l → (x.1 = p ∨ x.1 ∈ l) ∧ x.2 ∈ l
  | [], p, x, h => by simp [Sx.stepsFrom] at h
  | t :: r, p, x, h => by
    simp only [Sx.stepsFrom, List.mem_cons] at h
    rcases h with rfl | h
    · exact ⟨.inl rfl, by simp⟩
    · have := steps_mem r t x h
      exact ⟨.inr (by rcases this.1 with e | e <;> simp [e]), by simp [this.2]⟩
theorem prefix_mem {α : Type} {pre l : List α} {x : α} (h : pre ++ [x] <+: l) : x ∈ l := h.subset (by simp)
theorem below_put {n : Nat} {A B : World} (h : Below n A B) {k : Nat} (hk : n ≤ k) (c : Nat) (v : Value) : Below n A (B.setCell ⟨k, c, none⟩ v) := below_set h hk v
theorem put_at {W : World} {b : Nat} {t : TypeId} {cs : Array Value} (h : W.heap[b]? = some (.cells cs t)) (i : Nat) (v : Value) : (W.setCell ⟨b, i, none⟩ v).heap[b]? = some (.cells (cs.setIfInBounds i v) t) := by
  obtain ⟨hlt, e⟩ := Array.getElem?_eq_some_iff.1 h
  simp [World.setCell, Array.getElem?_modify, h]
theorem put8 {W : World} {b : Nat} {t : TypeId} {c0 c1 c2 c3 c4 c5 c6 c7 : Value} (v0 v1 v2 v3 v4 v5 v6 v7 : Value) (h : W.heap[b]? = some (.cells #[c0, c1, c2, c3, c4, c5, c6, c7] t)) :
    ((((((((W.setCell ⟨b, 0, none⟩ v0).setCell ⟨b, 1, none⟩ v1).setCell ⟨b, 2, none⟩ v2).setCell ⟨b, 3, none⟩ v3).setCell ⟨b, 4, none⟩ v4).setCell ⟨b, 5, none⟩ v5).setCell ⟨b, 6, none⟩ v6).setCell ⟨b, 7, none⟩ v7).heap[b]? = some (.cells #[v0, v1, v2, v3, v4, v5, v6, v7] t) := by
  have e := put_at (put_at (put_at (put_at (put_at (put_at (put_at (put_at h 0 v0) 1 v1) 2 v2) 3 v3) 4 v4) 5 v5) 6 v6) 7 v7
  simp only [List.setIfInBounds_toArray, List.set_cons_zero, List.set_cons_succ] at e
  exact e
theorem put1 {W : World} {b : Nat} {t : TypeId} {c0 : Value} (v0 : Value) (h : W.heap[b]? = some (.cells #[c0] t)) : (W.setCell ⟨b, 0, none⟩ v0).heap[b]? = some (.cells #[v0] t) := by
  obtain ⟨hlt, e⟩ := Array.getElem?_eq_some_iff.1 h
  simp [World.setCell, Array.getElem?_modify, h]
theorem grown_put {W W' : World} {b : Nat} (h : W.grownBy W' (some b)) (i : Nat) (v : Value) : W.grownBy (W'.setCell ⟨b, i, none⟩ v) (some b) :=
  ⟨h.os, h.tape, h.output, by simpa using h.size, fun k hk hn => (Below.heap_setCell _ _ _ _ (fun e => hn (by rw [e]))).trans (h.block k hk hn)⟩
theorem grown_same (W : World) (b : Nat) : W.grownBy W (some b) := ⟨rfl, rfl, rfl, Nat.le_refl _, fun _ _ _ => rfl⟩
theorem grown8 (W : World) (b : Nat) (v0 v1 v2 v3 v4 v5 v6 v7 : Value) : W.grownBy ((((((((W.setCell ⟨b, 0, none⟩ v0).setCell ⟨b, 1, none⟩ v1).setCell ⟨b, 2, none⟩ v2).setCell ⟨b, 3, none⟩ v3).setCell ⟨b, 4, none⟩ v4).setCell ⟨b, 5, none⟩ v5).setCell ⟨b, 6, none⟩ v6).setCell ⟨b, 7, none⟩ v7) (some b) :=
  grown_put (grown_put (grown_put (grown_put (grown_put (grown_put (grown_put (grown_put (grown_same W b) 0 v0) 1 v1) 2 v2) 3 v3) 4 v4) 5 v5) 6 v6) 7 v7
theorem keeps_grown {W W' : World} {b : Nat} {cs : Array Value} {t : TypeId} (hg : W.grownBy W' (some b)) (h : W.heap[b]? = some (.cells cs t)) : KeepsOthers W W' :=
  KeepsOthers.of_grownBy hg (fun j o e ho => by cases e; rw [h] at ho; cases ho; rfl)
set_option maxRecDepth 100000 in
set_option maxHeartbeats 2000000 in
theorem first_end {w W : World} {N D : Nat} {a : Act} {x : Sx.Tn × Sx.Tn} {b : Bool} (hN : w.heap.size = N) (h4 : a.tmps.getD 4 undef = .pointer (some ⟨N + 1, 0, none⟩)) (h5 : a.tmps.getD 5 undef = .pointer (some ⟨N + 1 + 1, 0, none⟩)) (hd : a.defers = [{ target := .collected D, args := #[] }])
    (i1 : W.heap[N + 1]? = some (.cells (stepC x).toArray 53)) (i2 : W.heap[N + 1 + 1]? = some (.cells #[.bool b] 4)) (hD : N + 1 + 1 < D) (hK : W.heap[D]? = some (.deferred (some []))) (hB : Below w.heap.size w W) :
    bodyPostM Fence.wide 4 Tryz.prog Tryz.f48 (fun e w' => ∃ p t : Sx.Tn, e = .returned (.tuple #[stepV p t, .bool b]) ∧ Below w.heap.size w w') .ret a W := by
  obtain ⟨tm, df⟩ := a
  dsimp only at h4 h5 hd
  subst hd
  rw [Array.getD_eq_getD_getElem?] at h4 h5
  have hX := belowK_b (w := w) (Nat.le_refl _) W D _ (.deferred none) (by omega) hK rfl rfl
  have j1 : (W.putObj D (.deferred none)).heap[N + 1]? = some (.cells (stepC x).toArray 53) := (World.putObj_heap_other (by omega)).trans i1
  have j2 : (W.putObj D (.deferred none)).heap[N + 1 + 1]? = some (.cells #[.bool b] 4) := (World.putObj_heap_other (by omega)).trans i2
  refine ⟨by simp, .inl ⟨_, _, rfl, run_takeDeferred hK, ?_⟩⟩
  have BX := hB.trans hX
  generalize W.putObj D (.deferred none) = X at j1 j2 BX ⊢
  obtain ⟨y0, _⟩ := ca_at (ca_heap2 j1) 0 rfl
  obtain ⟨y1, _⟩ := ca_at (ca_heap2 j1) 1 rfl
  obtain ⟨y2, _⟩ := ca_at (ca_heap2 j1) 2 rfl
  obtain ⟨y3, _⟩ := ca_at (ca_heap2 j1) 3 rfl
  obtain ⟨y4, _⟩ := ca_at (ca_heap2 j1) 4 rfl
  obtain ⟨y5, _⟩ := ca_at (ca_heap2 j1) 5 rfl
  obtain ⟨y6, _⟩ := ca_at (ca_heap2 j1) 6 rfl
  obtain ⟨y7, _⟩ := ca_at (ca_heap2 j1) 7 rfl
  have b0 := (ca_at (ca_heap2 (vs := [.bool b]) j2) 0 rfl).1
  clear j1 j2 i1 i2 hK hB hX
  refine ⟨.tuple #[stepV x.1 x.2, .bool b], ?_, x.1, x.2, rfl, BX⟩
  simp [results, Tryz.results48, go_sem, *]
set_option maxRecDepth 100000 in
set_option maxHeartbeats 4000000 in
theorem seekFirst_any (Bo : Nat) (ts : List Sx.Tn) (ra : Option Addr) (rcap : Nat) (w : World) (h : RdTurns w (.slice ra ts.length rcap) ts) (hts : ts.length ≤ 10000) (hbd : ∀ t ∈ ts, -1000000000000 ≤ t.stands ∧ t.stands ≤ 1000000000000)
    (cl : w.cell? ⟨Bo, 0, none⟩ = some (.slice ra ts.length rcap)) (hBo : Bo < w.heap.size) :
    Calls Tryz.prog 48 #[.func (.func 29) #[] #[.pointer (some ⟨Bo, 0, none⟩)], .func (.func 28) #[] #[]] w
      fun e w' => ∃ p t : Sx.Tn, e = .returned (.tuple #[stepV p t, .bool ((Sx.stepsOf ts).any Sx.close)]) ∧ Below w.heap.size w w' := by
  refine (callsIn_wide (n := 4)).1 ?_
  refine callsIn_of_wp_marks Tryz.func48 rfl trivial ?_ rfl
  simp only [Tryz.ntmps48, List.size_toArray, List.length_cons, List.length_nil, Nat.reduceAdd, Nat.reduceSub, Array.replicate_succ, Array.replicate_zero, List.push_toArray, List.append_toArray, List.nil_append, List.cons_append]
  gi_wp2
  obtain ⟨N, hN⟩ : ∃ N, w.heap.size = N := ⟨_, rfl⟩
  obtain ⟨V, hV⟩ : ∃ V, (((w.alloc (.cells #[.func (.func 28) #[] #[]] 76)).alloc (.cells (stepC noS).toArray 53)).alloc (.cells #[.bool false] 4)) = V := ⟨_, rfl⟩
  rw [show (((w.alloc (.cells #[.func (.func 28) #[] #[]] 76)).alloc (.cells #[.int .i64 0, .int .i64 0, .int .i64 0, .string ⟨#[]⟩, .int .i64 0, .int .i64 0, .int .i64 0, .string ⟨#[]⟩] 53)).alloc (.cells #[.bool false] 4)) = V from hV]
  have vS : V.heap.size = N + 3 := by rw [← hV, ← hN]; simp
  have v0 : V.heap[N]? = some (.cells #[.func (.func 28) #[] #[]] 76) := by
    rw [← hV, Below.heap_alloc _ _ _ (by simp; omega), Below.heap_alloc _ _ _ (by simp; omega), ← hN]; exact World.alloc_heap_new w _
  have v1 : V.heap[N + 1]? = some (.cells (stepC noS).toArray 53) := by
    rw [← hV, Below.heap_alloc _ _ _ (by simp; omega), ← hN]
    have := World.alloc_heap_new (w.alloc (.cells #[.func (.func 28) #[] #[]] 76)) (.cells (stepC noS).toArray 53)
    rwa [World.size_alloc] at this
  have v2 : V.heap[N + 1 + 1]? = some (.cells #[.bool false] 4) := by
    rw [← hV, ← hN]
    have := World.alloc_heap_new ((w.alloc (.cells #[.func (.func 28) #[] #[]] 76)).alloc (.cells (stepC noS).toArray 53)) (.cells #[.bool false] 4)
    rwa [World.size_alloc, World.size_alloc] at this
  have vB : Below w.heap.size w V := by
    rw [← hV]; exact (((Below.refl _ w).alloc (Nat.le_refl _) _).alloc (by simp) _).alloc (by simp; omega) _
  rw [hN]
  refine wpIn_range_c rfl (by omega) (gf := 29) (lb := #[.pointer (some ⟨Bo, 0, none⟩)]) rfl trivial (enters_of Tryz.func29 (by kernel_rfl) rfl)
    (steps_stops 3 Bo N (by omega) ts ra rcap w _ h hts ((vB.cell (p := ⟨Bo, 0, none⟩) hBo).trans cl) (Nat.lt_of_lt_of_le hBo vB.size) (by omega) vB) kpC_t (kpC_b (by omega)) (Below.refl _ _) (fun _ => rfl)
    (fun pre W => (W.heap[N]? = some (.cells #[.func (.func 28) #[] #[]] 76) ∧ W.heap[N + 1]? = some (.cells (stepC noS).toArray 53) ∧ W.heap[N + 1 + 1]? = some (.cells #[.bool false] 4)) ∧ Below w.heap.size w W ∧ pre.any Sx.close = false)
    (fun c pre W => c = .ret ∧ (∃ x, W.heap[N + 1]? = some (.cells (stepC x).toArray 53)) ∧ W.heap[N + 1 + 1]? = some (.cells #[.bool true] 4) ∧ Below w.heap.size w W ∧ pre.any Sx.close = true)
    (OwnC.and (OwnC.and (ownC_heap (by omega)) (OwnC.and (ownC_heap (by omega)) (ownC_heap (by omega)))) (OwnC.and (ownC_below (Nat.le_refl _) (by omega)) (ownC_pure _)))
    (fun c => OwnC.and (ownC_pure _) (OwnC.and (ownC_ex fun x => ownC_heap (by omega)) (OwnC.and (ownC_heap (by omega)) (OwnC.and (ownC_below (Nat.le_refl _) (by omega)) (ownC_pure _)))))
    ⟨⟨v0, v1, v2⟩, vB, rfl⟩
    (fun x a' W => ∃ Bx, N + 1 + 1 < Bx ∧ W.heap[Bx]? = some (.cells (stepC x).toArray 53 (0, 0)) ∧ a' = { tmps := #[.func (.func 29) #[] #[.pointer (some ⟨Bo, 0, none⟩)], .func (.func 28) #[] #[], undef, .pointer (some ⟨N, 0, none⟩), .pointer (some ⟨N + 1, 0, none⟩), .pointer (some ⟨N + 1 + 1, 0, none⟩), .pointer (some ⟨Bx, 0, none⟩), undef, .func (.func 29) #[] #[.pointer (some ⟨Bo, 0, none⟩)], stepV x.1 x.2, undef, undef, undef, undef, undef], defers := [] })
    ?hAx ?assign ?body ?done ?stop
  case hAx =>
    rintro x a' _ X Y row ⟨Bx, q1, q2, q3⟩ hg hr
    refine ⟨Bx, q1, ?_, q3⟩
    rw [hg.block Bx (Array.getElem?_eq_some_iff.1 q2).1 (fun e => by obtain ⟨_, o, ho, hc⟩ := hr Bx e.symm; rw [q2] at ho; cases ho; simp [Obj.isCells] at hc)]
    exact q2
  case assign =>
    rintro l pre ⟨p, t⟩ W K ⟨⟨i0, i1, i2⟩, iB, iP⟩ sz hK
    rw [vS] at sz
    have KB := hid ((Below.refl W.heap.size W).alloc (Nat.le_refl _) (.cells (stepC (p, t)).toArray 53))
    have R := hid (hK { tmps := #[.func (.func 29) #[] #[.pointer (some ⟨Bo, 0, none⟩)], .func (.func 28) #[] #[], undef, .pointer (some ⟨N, 0, none⟩), .pointer (some ⟨N + 1, 0, none⟩), .pointer (some ⟨N + 1 + 1, 0, none⟩), .pointer (some ⟨W.heap.size, 0, none⟩), undef, .func (.func 29) #[] #[.pointer (some ⟨Bo, 0, none⟩)], stepV p t, undef, undef, undef, undef, undef], defers := [] } (W.alloc (.cells (stepC (p, t)).toArray 53)) ((KeepsOthers.alloc _ _).from _) (kp_grow KB.out iB.size)
      ⟨⟨(KB.out.block _ (Array.getElem?_eq_some_iff.1 i0).1).trans i0, (KB.out.block _ (Array.getElem?_eq_some_iff.1 i1).1).trans i1, (KB.out.block _ (Array.getElem?_eq_some_iff.1 i2).1).trans i2⟩, iB.alloc iB.size _, iP⟩ ⟨W.heap.size, by omega, World.alloc_heap_new W _, rfl⟩)
    clear hK i0 i1 i2
    gi_wp2
    exact R.out
  case body =>
    rintro l pre ⟨p, t⟩ a' W hl ⟨r, hr⟩ ⟨⟨i0, i1, i2⟩, iB, iP⟩ ⟨Bx, hBx, hX, rfl⟩ hpx sz
    have hm := steps_mem ts Sx.ago (p, t) (prefix_mem hpx)
    dsimp only at hm
    have hb1 : -2000000000000 ≤ p.stands ∧ p.stands ≤ 2000000000000 := by
      rcases hm.1 with rfl | e
      · simp [Sx.ago]
      · have := hbd _ e; omega
    have hb2 := hbd _ hm.2
    have HC := hid (check1_any (p, t) W hb1.1 hb1.2 (by dsimp only; omega) (by dsimp only; omega))
    obtain ⟨x0, _⟩ := ca_at (ca_heap2 hX) 0 rfl
    obtain ⟨x1, _⟩ := ca_at (ca_heap2 hX) 1 rfl
    obtain ⟨x2, _⟩ := ca_at (ca_heap2 hX) 2 rfl
    obtain ⟨x3, _⟩ := ca_at (ca_heap2 hX) 3 rfl
    obtain ⟨x4, _⟩ := ca_at (ca_heap2 hX) 4 rfl
    obtain ⟨x5, _⟩ := ca_at (ca_heap2 hX) 5 rfl
    obtain ⟨x6, _⟩ := ca_at (ca_heap2 hX) 6 rfl
    obtain ⟨x7, _⟩ := ca_at (ca_heap2 hX) 7 rfl
    have f0 := (ca_at (ca_heap2 (vs := [.func (.func 28) #[] #[]]) i0) 0 rfl).1
    have sx := (Array.getElem?_eq_some_iff.1 hX).1
    have s0 := (Array.getElem?_eq_some_iff.1 i0).1
    have HX := hid hX
    have I0 := hid i0
    have I1 := hid i1
    have I2 := hid i2
    have IB := hid iB
    clear hm hb1 hb2 hX i0 i1 i2 iB hr hpx
    dsimp only at HC
    obtain ⟨C, hC⟩ : ∃ C, Sx.close (p, t) = C := ⟨_, rfl⟩
    rw [hC] at HC
    have HCC := hid hC
    have IP := hid iP
    have SV : Hid (V.heap.size = N + 3 ∧ w.heap.size = N) := ⟨vS, hN⟩
    clear hC iP
    cases C
    case false =>
      gi_wp2_with (refine ⟨trivial, ?_⟩; gi_at_call 28; refine (CallsIn.inRound l (callsIn_wide.2 HC.out)).mono ?_; rintro e w1 ⟨rfl, hb⟩)
      refine ⟨(keeps_below hb).from _, kp_grow hb IB.out.size, ⟨(hb.block _ (Array.getElem?_eq_some_iff.1 I0.out).1).trans I0.out, (hb.block _ (Array.getElem?_eq_some_iff.1 I1.out).1).trans I1.out, (hb.block _ (Array.getElem?_eq_some_iff.1 I2.out).1).trans I2.out⟩, IB.out.trans (hb.mono IB.out.size), ?_⟩
      rw [List.any_append, IP.out]; simp [HCC.out]
    case true =>
      gi_wp2_with (refine ⟨trivial, ?_⟩; gi_at_call 28; refine (CallsIn.inRound l (callsIn_wide.2 HC.out)).mono ?_; rintro e w1 ⟨rfl, hb⟩; have HB := hid hb; have CX := ca_below (ca_heap2 HX.out) hb; obtain ⟨y0, _⟩ := ca_at CX 0 rfl; obtain ⟨y1, _⟩ := ca_at CX 1 rfl; obtain ⟨y2, _⟩ := ca_at CX 2 rfl; obtain ⟨y3, _⟩ := ca_at CX 3 rfl; obtain ⟨y4, _⟩ := ca_at CX 4 rfl; obtain ⟨y5, _⟩ := ca_at CX 5 rfl; obtain ⟨y6, _⟩ := ca_at CX 6 rfl; obtain ⟨y7, _⟩ := ca_at CX 7 rfl; have CR := ca_below (ca_heap2 I1.out) hb; obtain ⟨r0, q0⟩ := ca_at CR 0 rfl; obtain ⟨r1, q1⟩ := ca_at CR 1 rfl; obtain ⟨r2, q2⟩ := ca_at CR 2 rfl; obtain ⟨r3, q3⟩ := ca_at CR 3 rfl; obtain ⟨r4, q4⟩ := ca_at CR 4 rfl; obtain ⟨r5, q5⟩ := ca_at CR 5 rfl; obtain ⟨r6, q6⟩ := ca_at CR 6 rfl; obtain ⟨r7, q7⟩ := ca_at CR 7 rfl; have CB := ca_below (ca_heap2 (vs := [.bool false]) I2.out) hb; obtain ⟨b0, b1⟩ := ca_at CB 0 rfl; have sR := CR.1; have sB := CB.1; clear hb CX CR CB)
      have G1 := grown8 w1 (N + 1) (.int .i64 p.stands) (.int .i64 p.clock) (.int .i64 p.save) (strV p.letter) (.int .i64 t.stands) (.int .i64 t.clock) (.int .i64 t.save) (strV t.letter)
      have hb := HB.out
      have e1 := (hb.block _ (Array.getElem?_eq_some_iff.1 I1.out).1).trans I1.out
      have e2 := (hb.block _ (Array.getElem?_eq_some_iff.1 I2.out).1).trans I2.out
      have p1 := put8 (.int .i64 p.stands) (.int .i64 p.clock) (.int .i64 p.save) (strV p.letter) (.int .i64 t.stands) (.int .i64 t.clock) (.int .i64 t.save) (strV t.letter) e1
      have p2 := (G1.block (N + 1 + 1) (Array.getElem?_eq_some_iff.1 e2).1 (by simp)).trans e2
      have p3 := put1 (.bool true) p2
      have G2 := grownBy_setCell' ((((((((w1.setCell ⟨N + 1, 0, none⟩ (.int .i64 p.stands)).setCell ⟨N + 1, 1, none⟩ (.int .i64 p.clock)).setCell ⟨N + 1, 2, none⟩ (.int .i64 p.save)).setCell ⟨N + 1, 3, none⟩ (strV p.letter)).setCell ⟨N + 1, 4, none⟩ (.int .i64 t.stands)).setCell ⟨N + 1, 5, none⟩ (.int .i64 t.clock)).setCell ⟨N + 1, 6, none⟩ (.int .i64 t.save)).setCell ⟨N + 1, 7, none⟩ (strV t.letter)) (N + 1 + 1) (.bool true)
      have B1 := IB.out.trans (hb.mono IB.out.size)
      have B2 := B1.grown G1 B1.size (fun k e => by cases e; have := SV.out; omega)
      have B3 := B2.grown G2 B2.size (fun k e => by cases e; have := SV.out; omega)
      refine ⟨(((keeps_below hb).trans (keeps_grown G1 e1)).trans (keeps_grown G2 p2)).from _, rfl, ⟨(p, t), ?_⟩, p3, B3, ?_⟩
      · exact (G2.block (N + 1) (Array.getElem?_eq_some_iff.1 p1).1 (by simp)).trans p1
      · rw [List.any_append]; simp [HCC.out]
  case done =>
    rintro D ys W hD rfl ⟨⟨i0, i1, i2⟩, iB, iP⟩ hK
    rw [vS] at hD
    have hD0 : N + 1 + 1 < D := by omega
    have CR := ca_heap2 i1
    have CB := ca_heap2 (vs := [.bool false]) i2
    obtain ⟨r0, q0⟩ := ca_at CR 0 rfl
    obtain ⟨r1, q1⟩ := ca_at CR 1 rfl
    obtain ⟨r2, q2⟩ := ca_at CR 2 rfl
    obtain ⟨r3, q3⟩ := ca_at CR 3 rfl
    obtain ⟨r4, q4⟩ := ca_at CR 4 rfl
    obtain ⟨r5, q5⟩ := ca_at CR 5 rfl
    obtain ⟨r6, q6⟩ := ca_at CR 6 rfl
    obtain ⟨r7, q7⟩ := ca_at CR 7 rfl
    obtain ⟨b0, b1⟩ := ca_at CB 0 rfl
    have sR := CR.1
    have sB := CB.1
    have HK := hid hK
    have IB := hid iB
    have IP := hid iP
    have I1 := hid i1
    have I2 := hid i2
    clear i0 i1 i2 CR CB hK iB iP v0 v1 v2 vB hV vS h hbd cl
    gi_wp2
    have G0 := World.grownBy_alloc W (.cells (stepC noS).toArray 53) none
    have G1 := grown8 W (N + 1) (.int .i64 0) (.int .i64 0) (.int .i64 0) (.string ⟨#[]⟩) (.int .i64 0) (.int .i64 0) (.int .i64 0) (.string ⟨#[]⟩)
    have p1 := put8 (.int .i64 0) (.int .i64 0) (.int .i64 0) (.string ⟨#[]⟩) (.int .i64 0) (.int .i64 0) (.int .i64 0) (.string ⟨#[]⟩) I1.out
    have p2 := (G1.block (N + 1 + 1) (Array.getElem?_eq_some_iff.1 I2.out).1 (by simp)).trans I2.out
    have p3 := put1 (.bool false) p2
    have G2 := grownBy_setCell' ((((((((W.setCell ⟨N + 1, 0, none⟩ (.int .i64 0)).setCell ⟨N + 1, 1, none⟩ (.int .i64 0)).setCell ⟨N + 1, 2, none⟩ (.int .i64 0)).setCell ⟨N + 1, 3, none⟩ (.string ⟨#[]⟩)).setCell ⟨N + 1, 4, none⟩ (.int .i64 0)).setCell ⟨N + 1, 5, none⟩ (.int .i64 0)).setCell ⟨N + 1, 6, none⟩ (.int .i64 0)).setCell ⟨N + 1, 7, none⟩ (.string ⟨#[]⟩)) (N + 1 + 1) (.bool false)
    have p4 := (G2.block (N + 1) (Array.getElem?_eq_some_iff.1 p1).1 (by simp)).trans p1
    have d1 := (G1.block D (Array.getElem?_eq_some_iff.1 HK.out).1 (by simp; omega)).trans HK.out
    have d2 := (G2.block D (Array.getElem?_eq_some_iff.1 d1).1 (by simp; omega)).trans d1
    have B2 := IB.out.grown G1 IB.out.size (fun k e => by cases e; omega)
    have B3 := B2.grown G2 B2.size (fun k e => by cases e; omega)
    have B4 := B3.alloc B3.size (.cells (stepC noS).toArray 53)
    rw [show (Sx.stepsOf ts).any Sx.close = false from IP.out]
    exact first_end (x := noS) hN rfl rfl rfl ((Below.heap_alloc _ _ _ (Array.getElem?_eq_some_iff.1 p4).1).trans p4) ((Below.heap_alloc _ _ _ (Array.getElem?_eq_some_iff.1 p3).1).trans p3) hD0 ((Below.heap_alloc _ _ _ (Array.getElem?_eq_some_iff.1 d2).1).trans d2) B4
  case stop =>
    rintro D c pre W hD hpre ⟨rfl, ⟨x, i1⟩, i2, iB, iP⟩ hK
    rw [vS] at hD
    have hA : (Sx.stepsOf ts).any Sx.close = true := by
      obtain ⟨r, hr⟩ := hpre
      rw [← hr, List.any_append, iP]; rfl
    have E := hid (first_end (a := { tmps := #[.func (.func 29) #[] #[.pointer (some ⟨Bo, 0, none⟩)], .func (.func 28) #[] #[], undef, .pointer (some ⟨N, 0, none⟩), .pointer (some ⟨N + 1, 0, none⟩), .pointer (some ⟨N + 1 + 1, 0, none⟩), undef, undef, .func (.func 29) #[] #[.pointer (some ⟨Bo, 0, none⟩)], undef, undef, undef, undef, undef, undef], defers := [{ target := .collected D, args := #[] }] }) hN rfl rfl rfl i1 i2 (show N + 1 + 1 < D by omega) hK iB)
    have HA := hid hA
    clear v0 v1 v2 vB hV vS h hbd cl i1 i2 hK iB iP hA
    gi_wp2
    rw [HA.out]
    exact E.out
set_option maxRecDepth 100000 in
set_option maxHeartbeats 1000000 in
theorem seekHas_any (Bo : Nat) (ts : List Sx.Tn) (ra : Option Addr) (rcap : Nat) (w : World) (h : RdTurns w (.slice ra ts.length rcap) ts) (hts : ts.length ≤ 10000) (hbd : ∀ t ∈ ts, -1000000000000 ≤ t.stands ∧ t.stands ≤ 1000000000000)
    (cl : w.cell? ⟨Bo, 0, none⟩ = some (.slice ra ts.length rcap)) (hBo : Bo < w.heap.size) :
    Calls Tryz.prog 27 #[.func (.func 29) #[] #[.pointer (some ⟨Bo, 0, none⟩)], .func (.func 28) #[] #[]] w
      fun e w' => e = .returned (.bool ((Sx.stepsOf ts).any Sx.close)) ∧ Below w.heap.size w w' := by
  have C := hid (seekFirst_any Bo ts ra rcap w h hts hbd cl hBo)
  clear h hbd cl
  go_enter Tryz.func27, Tryz.ntmps27
  go_wp2_with fail
  refine C.out.mono ?_
  rintro e w1 ⟨p, t, rfl, hb⟩
  have HB := hid hb
  clear hb
  go_wp2
  go_ret
  exact ⟨rfl, HB.out.alloc HB.out.size _⟩
/- what is wrong with turns in order -/
def turnsE (ts : List Sx.Tn) : Int := if ts.isEmpty = true then 5 else if (Sx.stepsOf ts).any Sx.close = true then 4 else if 1000 < ts.length then 2 else 0
set_option maxRecDepth 100000 in
set_option maxHeartbeats 2000000 in
theorem checkTurns_any (ts : List Sx.Tn) (v : Value) (w : World) (h : RdTurns w v ts) (hts : ts.length ≤ 10000) (hbd : ∀ t ∈ ts, -1000000000000 ≤ t.stands ∧ t.stands ≤ 1000000000000) :
    Calls Tryz.prog 10 #[v] w fun e w' => e = .returned (.int .i64 (turnsE ts)) ∧ Below w.heap.size w w' := by
  obtain ⟨ra, rcap, rfl⟩ := rd_shape h
  by_cases he : ts = []
  · subst he
    have hz : Hid (turnsE [] = 5) := rfl
    clear h hts hbd
    go_enter Tryz.func10, Tryz.ntmps10
    go_wp2
    go_ret
    exact ⟨ret_int hz.out.symm, Below.refl _ _⟩
  have hl : ts.length ≠ 0 := fun q => he (List.length_eq_zero_iff.1 q)
  have hl0 : (ts.length == 0) = false := by simp [he]
  have hz : (((ts.length : Int)) == 0) = false := by simp; exact he
  have B1 := hid ((Below.refl w.heap.size w).alloc (Nat.le_refl _) (.cells #[.slice ra ts.length rcap] 41))
  have C := hid (seekHas_any w.heap.size ts ra rcap (w.alloc (.cells #[.slice ra ts.length rcap] 41)) (rd_below h B1.out) hts hbd (ca_at (ca_new w [.slice ra ts.length rcap] 41) 0 rfl).1 (by simp))
  obtain ⟨A, hA⟩ : ∃ A, (Sx.stepsOf ts).any Sx.close = A := ⟨_, rfl⟩
  have HE : Hid (turnsE ts = if A = true then 4 else if 1000 < ts.length then 2 else 0) := by
    show _ = _
    unfold turnsE
    rw [if_neg (by simp [he]), hA]
  rw [hA] at C
  clear h hbd hA
  cases A
  case true =>
    go_enter Tryz.func10, Tryz.ntmps10
    go_wp2_with (first | (go_at_call 11; refine (steps_any _ _ _ _).mono ?_; rintro e w1 ⟨rfl, rfl⟩) | (go_at_call 27; refine C.out.mono ?_; rintro e w1 ⟨rfl, hb⟩))
    go_ret
    exact ⟨ret_int (by rw [HE.out]; rfl), B1.out.trans (hb.mono B1.out.size)⟩
  case false =>
    by_cases hm : 1000 < ts.length
    · have HE2 : Hid (turnsE ts = 2) := by show _ = _; rw [HE.out, if_neg (by decide), if_pos hm]
      go_enter Tryz.func10, Tryz.ntmps10
      go_wp2_with (first | (go_at_call 11; refine (steps_any _ _ _ _).mono ?_; rintro e w1 ⟨rfl, rfl⟩) | (go_at_call 27; refine C.out.mono ?_; rintro e w1 ⟨rfl, hb⟩))
      go_ret
      exact ⟨ret_int HE2.out.symm, B1.out.trans (hb.mono B1.out.size)⟩
    · have HE2 : Hid (turnsE ts = 0) := by show _ = _; rw [HE.out, if_neg (by decide), if_neg hm]
      go_enter Tryz.func10, Tryz.ntmps10
      go_wp2_with (first | (go_at_call 11; refine (steps_any _ _ _ _).mono ?_; rintro e w1 ⟨rfl, rfl⟩) | (go_at_call 27; refine C.out.mono ?_; rintro e w1 ⟨rfl, hb⟩))
      go_ret
      exact ⟨ret_int HE2.out.symm, B1.out.trans (hb.mono B1.out.size)⟩
end Go.Proofs.YtdekggmaeoeccaaGreat
namespace Go.Proofs.YtdekggmaeoeccaaGreat
open Go.RowKit Go.Shelf
set_option linter.unusedVariables false
set_option linter.unusedSimpArgs false
attribute [local go_sem] Oper.semAt_some

theorem Tryz.infoTurn : (Tryz.prog.info? 51).map (fun i => (i.zero, i.size, i.bytes)) = some (some (.agg #[.int .i64 0, .int .i64 0, .int .i64 0, .string ⟨#[]⟩]), 4, 40) := by kernel_rfl
theorem kp_t {n₀ Bs : Nat} {T : TypeId} {A B C : World} (h : Kp n₀ T Bs A B) (k : Kp n₀ T Bs B C) : Kp n₀ T Bs A C := ⟨h.1.trans k.1, keepT_t h.2 k.2⟩
theorem kp_b {n₀ Bs : Nat} {T : TypeId} {w : World} (hn : n₀ ≤ w.heap.size) (W : World) (l : Nat) (o o' : Obj) (a : w.heap.size ≤ l) (b : W.heap[l]? = some o) (c : o.isCells = false) (d : o.isWalk = false) : Kp n₀ T Bs W (W.putObj l o') :=
  ⟨belowK_b hn W l o o' a b c d, keepT_b (w := w) W l o o' a b c d⟩
theorem turns_stops (n Bl Bn Bs : Nat) (hn : 1 ≤ n) (rs : List Sx.Rl) (name : Tx.Bs) (ra : Option Addr) (rcap : Nat) (W0 w : World) (h : RdRules W0 (.slice ra rs.length rcap) rs) (hok : ∀ r ∈ rs, Sx.RuleOk r) (hrs : rs.length ≤ 40)
    (cl : W0.cell? ⟨Bl, 0, none⟩ = some (.slice ra rs.length rcap)) (cn : W0.cell? ⟨Bn, 0, none⟩ = some (strV name)) (hBl : Bl < W0.heap.size) (hBn : Bn < W0.heap.size) (hBs : Bs < w.heap.size) (hW : Below W0.heap.size W0 w) :
    SeqStopsK Fence.wide n Tryz.prog 25 #[.pointer (some ⟨Bl, 0, none⟩), .pointer (some ⟨Bn, 0, none⟩)] (fun t : Sx.Tn => #[turnV t]) (Kp W0.heap.size 51 Bs) (fun ys => ys = Sx.turnsOf rs name) (fun pre => pre <+: Sx.turnsOf rs name) (Sx.turnsOf rs name).length w :=
  fun l J Jx W hW1 hJ hJx hY h0 => turns1_in n l Bl Bn Bs hn rs name ra rcap W0 W h hok hrs cl cn hBl hBn (Nat.lt_of_lt_of_le hBs hW1.size) (hW.trans (hW1.mono hW.size)) J Jx hJ hY h0

theorem keepT_app {T : TypeId} {Bs B z n : Nat} {W w1 : World} {v u : Value} {xs : List Value} {o : Obj} (hrow : W.ownsRow B T z v n xs) (hg : (W.alloc o).grownBy w1 v.ownBlock) : KeepT T Bs W (w1.setCell ⟨Bs, 0, none⟩ u) := by
  have hs := hg.size
  simp at hs
  refine ⟨by simp; omega, fun k cs t a ht hk => ?_⟩
  have hk2 := (Array.getElem?_eq_some_iff.1 a).1
  rw [Below.heap_setCell _ _ _ _ hk, hg.block k (by simp; omega) ?_, Below.heap_alloc _ _ _ hk2]
  · exact a
  · intro e
    rcases hrow.2 with ⟨rfl, _⟩ | ⟨g, cap, cur, rfl, _, hh, _⟩
    · simp [Value.ownBlock] at e
    · simp [Value.ownBlock] at e
      subst e
      rw [hh] at a
      simp at a
      exact ht a.2.symm
theorem ca_heap {W : World} {b : Nat} {vs : List Value} {t : TypeId} (h : W.heap[b]? = some (.cells vs.toArray t (0, 0))) : CellsAt W b vs := by
  refine ⟨(Array.getElem?_eq_some_iff.1 h).1, fun k v hv => ?_⟩
  simp [World.cell?, World.frozen?, h, hv]
theorem turn_one (x : Sx.Tn) : ∀ u ∈ turnC x, u.oneCell' = true := by
  intro u hu; simp only [turnC, List.mem_cons, List.not_mem_nil, or_false] at hu; rcases hu with rfl | rfl | rfl | rfl <;> rfl
theorem turn_cells (w : World) (x : Sx.Tn) {e : TypeId} : ∀ (j : Nat) (u : Value), (turnC x)[j]? = some u → (w.alloc (.cells #[.int .i64 x.stands, .int .i64 x.clock, .int .i64 x.save, strV x.letter] e)).cell? ((⟨w.heap.size, 0, none⟩ : Addr).add j) = some u := new_cells w (turnC x)
set_option maxRecDepth 100000 in
set_option maxHeartbeats 4000000 in
theorem appendSeq_any (Bl Bn : Nat) (rs : List Sx.Rl) (name : Tx.Bs) (ra : Option Addr) (rcap : Nat) (w : World) (h : RdRules w (.slice ra rs.length rcap) rs) (hok : ∀ r ∈ rs, Sx.RuleOk r) (hrs : rs.length ≤ 40)
    (cl : w.cell? ⟨Bl, 0, none⟩ = some (.slice ra rs.length rcap)) (cn : w.cell? ⟨Bn, 0, none⟩ = some (strV name)) (hBl : Bl < w.heap.size) (hBn : Bn < w.heap.size) (hN : (Sx.turnsOf rs name).length ≤ 10000) :
    Calls Tryz.prog 74 #[.slice none 0 0, .func (.func 25) #[] #[.pointer (some ⟨Bl, 0, none⟩), .pointer (some ⟨Bn, 0, none⟩)]] w
      fun e w' => ∃ v, e = .returned v ∧ w'.ownsRow w.heap.size 51 4 v (Sx.turnsOf rs name).length ((Sx.turnsOf rs name).flatMap turnC) ∧ Below w.heap.size w w' := by
  obtain ⟨i0, hi, hz0, hz1, hz2⟩ := info_parts Tryz.infoTurn
  refine (callsIn_wide (n := 4)).1 ?_
  refine callsIn_of_wp_marks Tryz.func74 rfl trivial ?_ rfl
  simp only [Tryz.ntmps74, List.size_toArray, List.length_cons, List.length_nil, Nat.reduceAdd, Nat.reduceSub, Array.replicate_succ, Array.replicate_zero, List.push_toArray, List.append_toArray, List.nil_append, List.cons_append]
  gi_wp2
  have bO := Boxed.new w 41 (.slice none 0 0)
  have hB0 : Below w.heap.size w (w.alloc (.cells #[.slice none 0 0] 41)) := (Below.refl _ w).alloc (Nat.le_refl _) _
  refine wpIn_rangeFunc_ownH rfl (by omega) (gf := 25) (lb := #[.pointer (some ⟨Bl, 0, none⟩), .pointer (some ⟨Bn, 0, none⟩)]) rfl trivial (enters_of Tryz.func25 (by kernel_rfl) rfl)
    (turns_stops 3 Bl Bn w.heap.size (by omega) rs name ra rcap w _ h hok hrs cl cn hBl hBn (by simp) hB0) kp_t (kp_b (by simp)) (Below.refl _ _) (fun _ => rfl)
    (fun (pre : List Sx.Tn) W => (∃ v, Boxed W w.heap.size 41 v ∧ W.ownsRow w.heap.size 51 4 v pre.length (pre.flatMap turnC) ∧ True) ∧ Below w.heap.size w W)
    (fun _ _ _ => False)
    (OwnFrom.and (Own.from (holdsRow_own w.heap.size w.heap.size 41 51 4 (fun (pre : List Sx.Tn) => pre.length) (fun (pre : List Sx.Tn) => pre.flatMap turnC) (fun (pre : List Sx.Tn) v => True)) _) (ownFrom_below (Nat.le_refl _) (by simp)))
    (fun _ _ _ _ _ hs _ _ => hs)
    ⟨⟨_, bO, World.ownsRow_nil _ _ _ _, trivial⟩, hB0⟩
    (fun x a' W => ∃ Bx, w.heap.size < Bx ∧ W.heap[Bx]? = some (.cells (turnC x).toArray 51 (0, 0)) ∧ a' = { tmps := #[.slice none 0 0, .func (.func 25) #[] #[.pointer (some ⟨Bl, 0, none⟩), .pointer (some ⟨Bn, 0, none⟩)], .pointer (some ⟨w.heap.size, 0, none⟩), undef, .slice none 0 0, .pointer (some ⟨Bx, 0, none⟩), .func (.func 25) #[] #[.pointer (some ⟨Bl, 0, none⟩), .pointer (some ⟨Bn, 0, none⟩)], turnV x, undef, undef, undef, undef, undef], defers := [] })
    ?hAx ?assign ?body ?done ?stop
  case hAx =>
    rintro x a' _ X Y row ⟨Bx, q1, q2, q3⟩ hg hr
    refine ⟨Bx, q1, ?_, q3⟩
    rw [hg.block Bx (Array.getElem?_eq_some_iff.1 q2).1 (fun e => by obtain ⟨_, o, ho, hc⟩ := hr Bx e.symm; rw [q2] at ho; cases ho; simp [Obj.isCells] at hc)]
    exact q2
  case assign =>
    rintro l pre x W K ⟨⟨v, hv, hrow, _⟩, hB1⟩ hK
    gi_wp2
    refine hK _ _ ((KeepsOthers.alloc _ _).from _) ⟨(Below.refl _ W).alloc hB1.size _, ?_⟩ ⟨⟨v, hv.alloc _, hrow.alloc _, trivial⟩, hB1.alloc hB1.size _⟩ ⟨W.heap.size, hv.lt, World.alloc_heap_new W _, rfl⟩
    exact ⟨by simp, fun k cs t a _ _ => by rw [Below.heap_alloc _ _ _ (Array.getElem?_eq_some_iff.1 a).1]; exact a⟩
  case body =>
    rintro l pre x a' W hl ⟨r, hr⟩ ⟨⟨v, hv, hrow, _⟩, hB⟩ ⟨Bx, hBx, hX, rfl⟩ hlt
    have hc := hv.cell
    have CX := ca_heap hX
    obtain ⟨x0, _⟩ := ca_at CX 0 rfl
    obtain ⟨x1, _⟩ := ca_at CX 1 rfl
    obtain ⟨x2, _⟩ := ca_at CX 2 rfl
    obtain ⟨x3, _⟩ := ca_at CX 3 rfl
    have sx := CX.1
    have hpl : pre.length + 1 ≤ 10000 := by omega
    gi_wp2_with (gi_at_builtin; refine wpListIn_append_own _ rfl _ _ 41 rfl w.heap.size 51 i0 (.agg #[.int .i64 0, .int .i64 0, .int .i64 0, .string ⟨#[]⟩]) 4 40 Tryz.underlying41 hi hz0 hz1 hz2 rfl (by decide) _ _ _ rfl (hrow.alloc _) ⟨W.heap.size, 0, none⟩ 1 1 (turnC x) rfl rfl (turn_cells _ _) (turn_one x) (by unfold maxLen; omega) (by omega) (by have := hB.size; simp; omega) ?_; intro v' w1 hown' hgrow _; obtain ⟨g', cap', rfl⟩ := ownsRow_succ hown'; obtain ⟨hv1, hv2, hr2, hk2, hb2⟩ := hv.appended (by decide) hrow hB.size (Nat.le_refl _) hown' hgrow; have hc1 := hv1.cell; have hf1 := hv1.frozen)
    exact ⟨hk2.from _, ⟨hb2, keepT_app hrow hgrow⟩, ⟨_, hv2, by simpa using hr2, trivial⟩, hB.trans hb2⟩
  case done =>
    rintro D ys W hD rfl ⟨⟨v, hv, hrow, _⟩, hB⟩ hK
    have hc := hv.cell
    gi_wp2
    refine ⟨by simp, .inl ⟨_, _, rfl, run_takeDeferred hK, ?_⟩⟩
    exact ⟨_, results_tmp rfl _ _ _, v, rfl, ownsRow_putObj hrow _ hK rfl, hB.trans (belowK_b (w := w) (Nat.le_refl _) W D _ _ (by simp at hD; omega) hK rfl rfl)⟩
  case stop =>
    rintro D c pre W _ _ h _
    exact h.elim
end Go.Proofs.YtdekggmaeoeccaaGreat
namespace Go.Proofs.YtdekggmaeoeccaaGreat
open Go.RowKit Go.Shelf
set_option linter.unusedVariables false
set_option linter.unusedSimpArgs false

set_option maxRecDepth 100000 in
set_option maxHeartbeats 1000000 in
theorem turns_any (rv : Value) (name : Tx.Bs) (w : World) (ra : Option Addr) (n rcap : Nat) (hrv : rv = .slice ra n rcap) :
    Calls Tryz.prog 9 #[rv, strV name] w fun e w' => e = .returned (.func (.func 25) #[] #[.pointer (some ⟨w.heap.size, 0, none⟩), .pointer (some ⟨w.heap.size + 1, 0, none⟩)]) ∧ w' = (w.alloc (.cells #[rv] 22)).alloc (.cells #[strV name] 9) := by
  subst hrv
  go_enter Tryz.func9, Tryz.ntmps9
  go_wp2
  go_ret
  exact ⟨rfl, rfl⟩
set_option maxRecDepth 100000 in
set_option maxHeartbeats 1000000 in
theorem collect_any (Bl Bn : Nat) (rs : List Sx.Rl) (name : Tx.Bs) (ra : Option Addr) (rcap : Nat) (w : World) (h : RdRules w (.slice ra rs.length rcap) rs) (hok : ∀ r ∈ rs, Sx.RuleOk r) (hrs : rs.length ≤ 40)
    (cl : w.cell? ⟨Bl, 0, none⟩ = some (.slice ra rs.length rcap)) (cn : w.cell? ⟨Bn, 0, none⟩ = some (strV name)) (hBl : Bl < w.heap.size) (hBn : Bn < w.heap.size) (hN : (Sx.turnsOf rs name).length ≤ 10000) :
    Calls Tryz.prog 44 #[.func (.func 25) #[] #[.pointer (some ⟨Bl, 0, none⟩), .pointer (some ⟨Bn, 0, none⟩)]] w
      fun e w' => ∃ v, e = .returned v ∧ w'.ownsRow w.heap.size 51 4 v (Sx.turnsOf rs name).length ((Sx.turnsOf rs name).flatMap turnC) ∧ Below w.heap.size w w' := by
  have C := hid (appendSeq_any Bl Bn rs name ra rcap w h hok hrs cl cn hBl hBn hN)
  clear h hok cl cn hN
  go_enter Tryz.func44, Tryz.ntmps44
  go_wp2_with fail
  refine C.out.mono ?_
  rintro e w1 ⟨v, rfl, hown, hb⟩
  go_wp2
  go_ret
  exact ⟨_, rfl, hown, hb⟩
/- there are not too many -/
theorem turns_few {rs : List Sx.Rl} {name : Tx.Bs} (h : ∀ r ∈ rs, Sx.RuleOk r) (hl : rs.length ≤ 40) : (Sx.turnsOf rs name).length ≤ 10000 := by
  have key : ∀ l : List Sx.Rl, (∀ r ∈ l, Sx.RuleOk r) → (Sx.turnsOf l name).length ≤ 201 * l.length := by
    intro l
    induction l with
    | nil => intro _; simp [Sx.turnsOf]
    | cons r l ih =>
      intro hr
      have ih := ih fun x hx => hr x (by simp [hx])
      have ok := hr r (by simp)
      have hm : (Sx.turnsR r).length ≤ 201 := by have := ok.frm; have := ok.le; have := ok.to; simp [Sx.turnsR, Sx.many]; omega
      unfold Sx.turnsOf at ih ⊢
      cases q : (r.name == name)
      · simp only [List.filter_cons, q, Bool.false_eq_true, if_false, List.length_cons]; omega
      · simp only [List.filter_cons, q, if_true, List.flatMap_cons, List.length_append, List.length_cons]; omega
  have := key rs h
  omega
end Go.Proofs.YtdekggmaeoeccaaGreat
namespace Go.Proofs
open Go.Shelf
def Tryz.laysSortTurn_ren : Go.Shelf.Ren := ⟨fun | 6 => 45 | 15 => 76 | 14 => 75 | 28 => 105 | 29 => 106 | 20 => 97 | 21 => 98 | 22 => 99 | 23 => 100 | 24 => 101 | 25 => 102 | 26 => 103 | 27 => 104 | 46 => 117 | 47 => 118 | 48 => 119 | 49 => 120 | 50 => 121 | 57 => 124 | n => n, fun | 22 => 41 | 24 => 51 | 25 => 72 | 3 => 3 | 39 => 128 | 0 => 0 | 53 => 146 | 55 => 148 | 4 => 4 | 46 => 139 | 45 => 138 | 50 => 143 | 5 => 5 | 9 => 9 | 66 => 150 | 70 => 154 | 76 => 156 | 77 => 116 | n => n, fun | n => n⟩
theorem Tryz.laysSortTurn : Go.Proofs.SlLaysF0.n6 Tryz.prog Tryz.laysSortTurn_ren := {
  mixed := by kernel_rfl
  f6 := ⟨Tryz.f45.name, by decide, Tryz.func45.trans (congrArg some (by kernel_rfl))⟩
  f14 := ⟨Tryz.f75.name, by decide, Tryz.func75.trans (congrArg some (by kernel_rfl))⟩
  f15 := Tryz.func76.trans (congrArg some (by kernel_rfl))
  f20 := ⟨Tryz.f97.name, by decide, Tryz.func97.trans (congrArg some (by kernel_rfl))⟩
  f21 := ⟨Tryz.f98.name, by decide, Tryz.func98.trans (congrArg some (by kernel_rfl))⟩
  f22 := ⟨Tryz.f99.name, by decide, Tryz.func99.trans (congrArg some (by kernel_rfl))⟩
  f23 := ⟨Tryz.f100.name, by decide, Tryz.func100.trans (congrArg some (by kernel_rfl))⟩
  f24 := ⟨Tryz.f101.name, by decide, Tryz.func101.trans (congrArg some (by kernel_rfl))⟩
  f25 := ⟨Tryz.f102.name, by decide, Tryz.func102.trans (congrArg some (by kernel_rfl))⟩
  f26 := ⟨Tryz.f103.name, by decide, Tryz.func103.trans (congrArg some (by kernel_rfl))⟩
  f27 := ⟨Tryz.f104.name, by decide, Tryz.func104.trans (congrArg some (by kernel_rfl))⟩
  f28 := Tryz.func105.trans (congrArg some (by kernel_rfl))
  f29 := Tryz.func106.trans (congrArg some (by kernel_rfl))
  f46 := ⟨Tryz.f117.name, by decide, Tryz.func117.trans (congrArg some (by kernel_rfl))⟩
  f47 := Tryz.func118.trans (congrArg some (by kernel_rfl))
  f48 := Tryz.func119.trans (congrArg some (by kernel_rfl))
  f49 := ⟨Tryz.f120.name, by decide, Tryz.func120.trans (congrArg some (by kernel_rfl))⟩
  f50 := ⟨Tryz.f121.name, by decide, Tryz.func121.trans (congrArg some (by kernel_rfl))⟩
  f57 := ⟨Tryz.f124.name, by decide, Tryz.func124.trans (congrArg some (by kernel_rfl))⟩
  t0 := Tryz.underlying0
  a0 := Tryz.isAgg0
  z0 := Tryz.sizeOf0
  v0 := Tryz.zeroValue0
  t3 := Tryz.underlying3
  a3 := Tryz.isAgg3
  z3 := Tryz.sizeOf3
  v3 := Tryz.zeroValue3
  t4 := Tryz.underlying4
  a4 := Tryz.isAgg4
  z4 := Tryz.sizeOf4
  v4 := Tryz.zeroValue4
  t5 := Tryz.underlying5
  a5 := Tryz.isAgg5
  z5 := Tryz.sizeOf5
  v5 := Tryz.zeroValue5
  t9 := Tryz.underlying9
  a9 := Tryz.isAgg9
  z9 := Tryz.sizeOf9
  v9 := Tryz.zeroValue9
  t22 := Tryz.underlying41
  a22 := Tryz.isAgg41
  z22 := Tryz.sizeOf41
  v22 := Tryz.zeroValue41
  t25 := Tryz.underlying72
  a25 := Tryz.isAgg72
  z25 := Tryz.sizeOf72
  v25 := Tryz.zeroValue72
  t39 := Tryz.underlying128
  a39 := Tryz.isAgg128
  z39 := Tryz.sizeOf128
  v39 := Tryz.zeroValue128
  t45 := Tryz.underlying138
  a45 := Tryz.isAgg138
  z45 := Tryz.sizeOf138
  v45 := Tryz.zeroValue138
  t46 := Tryz.underlying139
  a46 := Tryz.isAgg139
  z46 := Tryz.sizeOf139
  v46 := Tryz.zeroValue139
  t50 := Tryz.underlying143
  a50 := Tryz.isAgg143
  z50 := Tryz.sizeOf143
  v50 := Tryz.zeroValue143
  t53 := Tryz.underlying146
  a53 := Tryz.isAgg146
  z53 := Tryz.sizeOf146
  v53 := Tryz.zeroValue146
  t55 := Tryz.underlying148
  a55 := Tryz.isAgg148
  z55 := Tryz.sizeOf148
  v55 := Tryz.zeroValue148
  t66 := Tryz.underlying150
  a66 := Tryz.isAgg150
  z66 := Tryz.sizeOf150
  v66 := Tryz.zeroValue150
  t70 := Tryz.underlying154
  a70 := Tryz.isAgg154
  z70 := Tryz.sizeOf154
  v70 := Tryz.zeroValue154
  t76 := Tryz.underlying156
  a76 := Tryz.isAgg156
  z76 := Tryz.sizeOf156
  v76 := Tryz.zeroValue156
  t77 := Tryz.underlying116
  a77 := Tryz.isAgg116
  z77 := Tryz.sizeOf116
  v77 := Tryz.zeroValue116 }
end Go.Proofs
namespace Go.Proofs.YtdekggmaeoeccaaGreat
open Go.RowKit Go.Shelf Go.Sort
set_option linter.unusedVariables false
set_option linter.unusedSimpArgs false

instance : Inhabited Sx.Tn := ⟨Sx.ago⟩
def cmpT (x y : Sx.Tn) : Int := cmpI x.stands y.stands
theorem ltT (x y : Sx.Tn) : ltOf cmpT x y = decide (x.stands < y.stands) := by
  unfold ltOf cmpT cmpI
  by_cases h1 : x.stands < y.stands
  · simp [h1]
  · by_cases h2 : y.stands < x.stands <;> simp [h1, h2]
theorem swoT : SWO (ltOf cmpT) where
  irrefl x := by rw [ltT]; simp
  trans x y z h1 h2 := by rw [ltT] at *; simp at *; omega
  ntrans x y z h1 h2 := by rw [ltT] at *; simp at *; omega
set_option maxRecDepth 100000 in
set_option maxHeartbeats 2000000 in
theorem order1_grow (s t : Sx.Tn) (w : World) : Calls Tryz.prog 23 #[turnV s, turnV t] w fun e w' => e = .returned (.int .i64 (cmpT s t)) ∧ ∃ q os', w' = grow (w.drewN q) os' := by
  go_enter Tryz.func23, Tryz.ntmps23
  go_wp2_with (go_at_call 24; refine (compare_any _ _ _).mono ?_; rintro e w1 ⟨rfl, rfl⟩)
  go_ret
  exact ⟨rfl, 0, _, by rw [alloc_eq_grow, alloc_eq_grow, grow_grow]; rfl⟩
theorem cmpLaysT (blk off size : Nat) (w : World) : CmpLays Tryz.prog 23 #[] turnC 4 cmpT blk off size w := fun _ _ _ _ x y => order1_grow x y _
theorem grownBy_sortedT {w : World} {g n : Nat} {os : Array Obj} (d : Array Sx.Tn) : w.grownBy (sortWorldK turnC 4 w g 0 n d os) (some g) := by
  refine ⟨rfl, rfl, rfl, by simp [sortWorldK, putRowK], fun k hk hne => ?_⟩
  unfold sortWorldK putRowK
  rw [heap_grow_old _ _ (by simpa using hk)]
  have : g ≠ k := fun e => hne (by rw [e])
  simp [putRow, mapBlock, Sort.ahead, Array.getElem?_modify, this]
theorem holdsT {w : World} {g : Nat} {cur : Array Value} {e : TypeId} {ts : List Sx.Tn} (hb : w.heap[g]? = some (.cells cur e (0, 0))) (ht : cur.toList.take (ts.length * 4) = ts.flatMap turnC) : HoldsK turnC 4 w g 0 ts.toArray := by
  intro j hj
  rw [size_flatK] at hj
  have hj' : j < ts.length * 4 := by simpa using hj
  refine ⟨?_, by simp [World.frozen?, hb]⟩
  rw [get_flatK _ _ _ _ hj]
  have hi : j / 4 < ts.length := by omega
  have hx : ts[j / 4]? = some ts[j / 4] := List.getElem?_eq_getElem hi
  have hc : (turnC ts[j / 4])[j % 4]? = some ((turnC ts[j / 4])[j % 4]'(by show j % 4 < 4; omega)) := List.getElem?_eq_getElem _
  have q := flat_get turnC (z := 4) (fun _ => rfl) ts (j / 4) _ hx (j % 4) _ hc
  rw [show j / 4 * 4 + j % 4 = j by omega] at q
  have h1 : (cur.toList.take (ts.length * 4))[j]? = (ts.flatMap turnC)[j]? := by rw [ht]
  rw [List.getElem?_take_of_lt hj', q] at h1
  simp only [World.cell?, hb, Nat.zero_add]
  simp only [Option.isSome_none, Bool.false_eq_true, if_false]
  rw [← Array.getElem?_toList, h1]
  simp [hi]
  rw [hc]; rfl
theorem rd_holdsT {w : World} {g n cap : Nat} {d : Array Sx.Tn} (hH : HoldsK turnC 4 w g 0 d) (hg : g < w.heap.size) (hn : d.size = n) : RdTurns w (.slice (some ⟨g, 0, none⟩) n cap) d.toList := by
  refine ⟨some ⟨g, 0, none⟩, cap, by simp [hn], fun _ => ⟨g, 0, rfl, hg, fun i x hx k u hu => ?_⟩⟩
  have hi : i < d.size := by have := (List.getElem?_eq_some_iff.1 hx).1; simpa using this
  have hk : k < 4 := (List.getElem?_eq_some_iff.1 hu).1
  have q := (HoldsK.cell hH hi hk).1
  have ex : d[i]! = x := by
    rw [getElem!_pos d i hi]
    have := (List.getElem?_eq_some_iff.1 hx).2
    simpa using this
  have eu : (turnC x)[k]! = u := by
    rw [getElem!_pos _ k (by show k < 4; exact hk)]
    exact (List.getElem?_eq_some_iff.1 hu).2
  rw [ex, eu] at q
  exact q
def Ordered (ts o : List Sx.Tn) : Prop := o.Perm ts ∧ Sx.SortedT o
theorem ordered_nil : Ordered [] [] := ⟨.refl _, by simp [Sx.SortedT]⟩
theorem ordered_of {ts : List Sx.Tn} {d : Array Sx.Tn} (hp : PermIn 0 ts.toArray.size ts.toArray d) (hs : SortedIn (ltOf cmpT) 0 ts.toArray.size d) : Ordered ts d.toList := by
  obtain ⟨h1, _, h3⟩ := hp
  refine ⟨?_, ?_⟩
  · have e1 : d.extract 0 ts.toArray.size = d := by rw [← h1]; simp
    have e2 : ts.toArray.extract 0 ts.toArray.size = ts.toArray := by simp
    rw [e1, e2] at h3
    simpa using h3
  · refine List.pairwise_iff_getElem.2 fun i j hi hj hij => ?_
    have hj' : j < d.size := by simpa using hj
    have q := hs i j (Nat.zero_le _) hij (by rw [← h1]; exact hj')
    rw [ltT, getElem!_pos d j hj', getElem!_pos d i (by omega)] at q
    simp at q
    simpa using q
set_option maxRecDepth 100000 in
set_option maxHeartbeats 2000000 in
theorem sortTurns_any (ts : List Sx.Tn) (v : Value) (B : Nat) (w : World) (h : w.ownsRow B 51 4 v ts.length (ts.flatMap turnC)) (hl : ts.length ≤ 10000) :
    Calls Tryz.prog 45 #[v, .func (.func 23) #[] #[]] w fun e w' => e = .returned (.tuple #[]) ∧ (∃ o, Ordered ts o ∧ RdTurns w' v o) ∧ ∃ r, w.grownBy w' r ∧ ∀ k, r = some k → B ≤ k := by
  rcases h.2 with ⟨rfl, h0⟩ | ⟨g, cap, cur, rfl, hB, hg, h1, h2, h3, h4⟩
  · have e : ts = [] := List.length_eq_zero_iff.1 h0
    subst e
    have hcon := AnyF.slices_SortFunc_none Tryz.laysSortTurn none 0 (.func (.func 23) #[] #[]) w
    change Calls Tryz.prog 45 _ _ _ at hcon
    refine hcon.mono ?_
    rintro e w' ⟨rfl, rfl⟩
    exact ⟨rfl, ⟨[], ordered_nil, rd_nil⟩, none, ⟨rfl, rfl, rfl, Nat.le_refl _, fun _ _ _ => rfl⟩, fun k e => by cases e⟩
  · have hgl : g < w.heap.size := (Array.getElem?_eq_some_iff.1 hg).1
    have hH := holdsT hg h4
    have eg : ∀ args w, (callFunc 23 args).run Tryz.prog w = .ok (.enter 23 args) w := enters_of Tryz.func23 (by kernel_rfl) rfl
    have hcon := AnyQ.slices_SortFunc Tryz.laysSortTurn 4 Tryz.isAgg51 Tryz.sizeOf51 turnC (fun _ => rfl) turn_one cmpT swoT 23 #[] g 0 cap ts.toArray w eg (cmpLaysT g 0 _ w) hH hgl (by simp; omega)
    change Calls Tryz.prog 45 _ _ _ at hcon
    refine hcon.mono ?_
    rintro e w' ⟨rfl, d', n, os, hp, hs, rfl⟩
    have hH' := holdsK_sortWorldK_c turnC 4 w g 0 ts.toArray d' n os hH hgl hp.1
    refine ⟨rfl, ⟨d'.toList, ordered_of hp hs, rd_holdsT hH' (Nat.lt_of_lt_of_le hgl (size_sortWorldK_c turnC 4 w g 0 n d' os)) (by rw [hp.1]; simp)⟩, some g, grownBy_sortedT d', fun k e => by cases e; exact hB⟩
set_option maxRecDepth 100000 in
set_option maxHeartbeats 1000000 in
theorem inOrder_any (Bl Bn : Nat) (rs : List Sx.Rl) (name : Tx.Bs) (ra : Option Addr) (rcap : Nat) (w : World) (h : RdRules w (.slice ra rs.length rcap) rs) (hok : ∀ r ∈ rs, Sx.RuleOk r) (hrs : rs.length ≤ 40)
    (cl : w.cell? ⟨Bl, 0, none⟩ = some (.slice ra rs.length rcap)) (cn : w.cell? ⟨Bn, 0, none⟩ = some (strV name)) (hBl : Bl < w.heap.size) (hBn : Bn < w.heap.size) :
    Calls Tryz.prog 22 #[.func (.func 25) #[] #[.pointer (some ⟨Bl, 0, none⟩), .pointer (some ⟨Bn, 0, none⟩)], .func (.func 23) #[] #[]] w
      fun e w' => ∃ v o, e = .returned v ∧ Ordered (Sx.turnsOf rs name) o ∧ RdTurns w' v o ∧ Below w.heap.size w w' := by
  have HF := hid (turns_few (name := name) hok hrs)
  have C := hid (collect_any Bl Bn rs name ra rcap w h hok hrs cl cn hBl hBn HF.out)
  clear h hok cl cn
  go_enter Tryz.func22, Tryz.ntmps22
  go_wp2_with fail
  refine C.out.mono ?_
  rintro e w1 ⟨v, rfl, hown, hb⟩
  have C2 := hid (sortTurns_any _ v w.heap.size w1 hown HF.out)
  have B1 := hid hb
  obtain ⟨sa, sc, rfl⟩ := owns_shape0 hown
  clear hown hb
  go_wp2_with fail
  refine C2.out.mono ?_
  rintro e w2 ⟨rfl, ⟨o, ho, hrd⟩, r, hg, hr⟩
  have B2 := B1.out.grown hg B1.out.size hr
  have HO := hid ho
  have HRD := hid hrd
  have HB2 := hid B2
  clear ho hrd hg hr B2
  go_wp2
  go_ret
  exact ⟨_, o, rfl, HO.out, HRD.out, HB2.out⟩
set_option maxRecDepth 100000 in
set_option maxHeartbeats 1000000 in
theorem pInOrder_any (Bl Bn : Nat) (rs : List Sx.Rl) (name : Tx.Bs) (ra : Option Addr) (rcap : Nat) (w : World) (h : RdRules w (.slice ra rs.length rcap) rs) (hok : ∀ r ∈ rs, Sx.RuleOk r) (hrs : rs.length ≤ 40)
    (cl : w.cell? ⟨Bl, 0, none⟩ = some (.slice ra rs.length rcap)) (cn : w.cell? ⟨Bn, 0, none⟩ = some (strV name)) (hBl : Bl < w.heap.size) (hBn : Bn < w.heap.size) :
    Calls Tryz.prog 8 #[.func (.func 25) #[] #[.pointer (some ⟨Bl, 0, none⟩), .pointer (some ⟨Bn, 0, none⟩)]] w
      fun e w' => ∃ v o, e = .returned v ∧ Ordered (Sx.turnsOf rs name) o ∧ RdTurns w' v o ∧ Below w.heap.size w w' := by
  have C := hid (inOrder_any Bl Bn rs name ra rcap w h hok hrs cl cn hBl hBn)
  clear h hok cl cn
  go_enter Tryz.func8, Tryz.ntmps8
  go_wp2_with fail
  refine C.out.mono ?_
  rintro e w1 ⟨v, o, rfl, ho, hrd, hb⟩
  obtain ⟨sa, sc, rfl⟩ := rd_shape hrd
  have HO := hid ho
  have HRD := hid hrd
  have HB := hid hb
  clear ho hrd hb
  go_wp2
  go_ret
  exact ⟨_, o, rfl, HO.out, HRD.out, HB.out⟩
end Go.Proofs.YtdekggmaeoeccaaGreat
namespace Go.Proofs.YtdekggmaeoeccaaGreat.Sx
set_option linter.unusedVariables false
set_option linter.unusedSimpArgs false

theorem src_ok {rs : List Rl} (h : srcE ⟨rs, [], []⟩ = 0) : rs.length ≤ 40 ∧ ∀ r ∈ rs, RuleOk r := by
  by_cases h40 : rs.length ≤ 40
  · refine ⟨h40, fun r hr => rule_ok (firstE_zero ruleE ?_ r hr)⟩
    have hm : manyB (⟨rs, [], []⟩ : Sr) = false := by simp [manyB]; omega
    rw [src_few hm] at h
    unfold orE at h
    split at h
    · assumption
    · rename_i q; simpa using q
  · rw [src_many (by simp [manyB]; omega)] at h
    omega
structure TimesOk (rs : List Rl) (name : Tx.Bs) (shift : Int) : Prop where
  src : srcE ⟨rs, [], []⟩ = 0
  s1 : -64800 ≤ shift
  s2 : shift ≤ 64800
  some : turnsOf rs name ≠ []
  apart_ : apart (isort (turnsOf rs name)) = true
  few : (turnsOf rs name).length ≤ 1000
  is : times rs name shift = timesFrom shift 0 (isort (turnsOf rs name))
theorem times_ok {rs : List Rl} {name : Tx.Bs} {shift : Int} (h : timesE rs name shift = 0) : TimesOk rs name shift := by
  have hi : times rs name shift = timesFrom shift 0 (isort (turnsOf rs name)) := by unfold times; rw [if_pos h]
  unfold timesE at h
  split at h
  · rename_i q; exact absurd h q
  rename_i q1
  split at h
  · omega
  rename_i q2
  split at h
  · omega
  rename_i q3
  split at h
  · omega
  rename_i q4
  split at h
  · omega
  rename_i q5
  simp [inB] at q2
  exact ⟨by simpa using q1, by omega, by omega, by simpa using q3, by simpa using q4, by omega, hi⟩
theorem times_no {rs : List Rl} {name : Tx.Bs} {shift : Int} (h : timesE rs name shift ≠ 0) : times rs name shift = [] := by unfold times; rw [if_neg h]
theorem times_len {rs : List Rl} {name : Tx.Bs} {shift : Int} (h : timesE rs name shift = 0) : (times rs name shift).length = (turnsOf rs name).length := by
  rw [(times_ok h).is, timesFrom_len, isort_len]
theorem times_years {rs : List Rl} {name : Tx.Bs} {shift : Int} (h : timesE rs name shift = 0) : ((times rs name shift).length : Int) = yearsOf rs name := by
  rw [times_len h]; exact turns_len fun r hr => ((src_ok (times_ok h).src).2 r hr).le
theorem years_take {rs : List Rl} {name : Tx.Bs} {i : Nat} {r : Rl} (h : rs[i]? = some r) : yearsOf (rs.take (i + 1)) name = yearsOf (rs.take i) name + (if (r.name == name) = true then r.to - r.frm + 1 else 0) := by
  unfold yearsOf
  rw [List.take_add_one, h]
  cases q : (r.name == name) <;> simp [List.filter_append, List.filter_cons, q]
theorem years_bd {rs : List Rl} {name : Tx.Bs} (h : ∀ r ∈ rs, RuleOk r) : 0 ≤ yearsOf rs name ∧ yearsOf rs name ≤ 201 * rs.length := by
  unfold yearsOf
  induction rs with
  | nil => simp
  | cons r rs ih =>
    have ih := ih fun x hx => h x (by simp [hx])
    have ok := h r (by simp)
    have h1 := ok.frm
    have h2 := ok.le
    have h3 := ok.to
    cases q : (r.name == name)
    · simp only [List.filter_cons, q, Bool.false_eq_true, if_false, List.length_cons]; omega
    · simp only [List.filter_cons, q, if_true, List.map_cons, List.sum_cons, List.length_cons]; omega
theorem turns_bd {rs : List Rl} {name : Tx.Bs} (h : ∀ r ∈ rs, RuleOk r) : ∀ t ∈ turnsOf rs name, -1000000000000 ≤ t.stands ∧ t.stands ≤ 1000000000000 := by
  intro t ht
  simp only [turnsOf, List.mem_flatMap, List.mem_filter, turnsR, List.mem_map, List.mem_range] at ht
  obtain ⟨r, ⟨hr, _⟩, k, hk, rfl⟩ := ht
  have ok := h r hr
  have h1 := ok.frm
  have h2 := ok.le
  have h3 := ok.to
  have h4 := ok.at_
  simp only [many] at hk
  have b := (on_year ok (y := r.frm + (k : Int)) (by omega) (by omega)).2
  simp only [turnIn]
  omega
theorem rise_at {rs : List Rl} {name : Tx.Bs} {shift : Int} {i : Nat} {x y : Tm} (h : timesE rs name shift = 0) (hx : (times rs name shift)[i]? = some x) (hy : (times rs name shift)[i + 1]? = some y) : x.at_ < y.at_ := by
  have k := times_ok h
  have ok := (src_ok k.src).2
  rw [k.is] at hx hy
  exact times_rise k.s1 k.s2 (isort_save (turns_save fun r hr => (ok r hr).save)) k.apart_ hx hy
theorem east_at {rs : List Rl} {name : Tx.Bs} {shift more : Int} {i : Nat} {x y : Tm} (h : timesE rs name shift = 0) (h' : timesE rs name more = 0) (hm : shift ≤ more) (hx : (times rs name shift)[i]? = some x) (hy : (times rs name more)[i]? = some y) : y.at_ ≤ x.at_ ∧ x.at_ - y.at_ ≤ more - shift := by
  rw [(times_ok h).is] at hx
  rw [(times_ok h').is] at hy
  exact times_east hm hx hy
theorem times_bd {rs : List Rl} {name : Tx.Bs} {shift : Int} {i : Nat} {x : Tm} (h : timesE rs name shift = 0) (hx : (times rs name shift)[i]? = some x) : -2000000000000 ≤ x.at_ ∧ x.at_ ≤ 2000000000000 := by
  have k := times_ok h
  have ok := (src_ok k.src).2
  rw [k.is] at hx
  have hl : i < (isort (turnsOf rs name)).length := by rw [← timesFrom_len shift _ 0]; exact (List.getElem?_eq_some_iff.1 hx).1
  have qa : (isort (turnsOf rs name))[i]? = some (isort (turnsOf rs name))[i] := List.getElem?_eq_getElem hl
  rw [timesFrom_get shift _ 0 i _ qa] at hx
  simp at hx
  subst hx
  have p := prev_bd (isort_save (turns_save (name := name) fun r hr => (ok r hr).save)) i
  have b := time_bd (t := (isort (turnsOf rs name))[i]) k.s1 k.s2 p.1 p.2
  have c := turns_bd ok _ ((isort_perm _).mem_iff.1 (List.mem_of_getElem? qa))
  omega
end Go.Proofs.YtdekggmaeoeccaaGreat.Sx
namespace Go.Proofs.YtdekggmaeoeccaaGreat
open Go.RowKit Go.Shelf
set_option linter.unusedVariables false
set_option linter.unusedSimpArgs false

namespace Sx
def timeS (shift : Int) (x : Tn × Tn) : Tm := timeOf shift x.1.save x.2
theorem times_steps (shift : Int) : ∀ (l : List Tn) (p : Tn), timesFrom shift p.save l = (stepsFrom p l).map (timeS shift)
  | [], _ => rfl
  | t :: r, p => by simp only [timesFrom, stepsFrom, List.map_cons, times_steps shift r t]; rfl
end Sx
theorem turnsE_is {rs : List Sx.Rl} {name : Tx.Bs} {shift : Int} {o : List Sx.Tn} (hs : Sx.srcE ⟨rs, [], []⟩ = 0) (h1 : -64800 ≤ shift) (h2 : shift ≤ 64800) (ho : Ordered (Sx.turnsOf rs name) o) :
    turnsE o = Sx.timesE rs name shift ∧ (turnsE o = 0 → Sx.times rs name shift = (Sx.stepsOf o).map (Sx.timeS shift)) := by
  have ok := (Sx.src_ok hs).2
  obtain ⟨hp, hso⟩ := ho
  have hlen := hp.length_eq
  obtain ⟨a1, a2⟩ := Sx.ordered hp hso
  have hbd : ∀ t ∈ o, -1000000000000 ≤ t.stands := fun t ht => (Sx.turns_bd ok t (hp.mem_iff.1 ht)).1
  have hcl := Sx.close_apart hbd
  have hB : Sx.inB shift (-64800) 64800 = true := by simp [Sx.inB]; omega
  have key : turnsE o = Sx.timesE rs name shift := by
    have e2 : Sx.timesE rs name shift = if (Sx.turnsOf rs name).isEmpty = true then 5 else if Sx.apart (Sx.isort (Sx.turnsOf rs name)) = false then 4 else if 1000 < (Sx.turnsOf rs name).length then 2 else 0 := by
      unfold Sx.timesE
      rw [if_neg (show ¬ Sx.srcE ⟨rs, [], []⟩ ≠ 0 by simp [hs]), if_neg (show ¬ Sx.inB shift (-64800) 64800 = false by simp [hB])]
    have he : o.isEmpty = (Sx.turnsOf rs name).isEmpty := by
      cases q : (Sx.turnsOf rs name) <;> cases q' : o <;> simp [q, q'] at hlen ⊢
    rw [e2]
    unfold turnsE
    rw [hcl, a1, hlen, he]
    cases Sx.apart (Sx.isort (Sx.turnsOf rs name)) <;> simp
  refine ⟨key, fun h0 => ?_⟩
  have h0' := key.symm.trans h0
  have k := Sx.times_ok h0'
  rw [k.is]
  have e : o = Sx.isort (Sx.turnsOf rs name) := a2 (by rw [a1]; exact k.apart_)
  rw [← e]
  exact Sx.times_steps shift o Sx.ago
theorem turnsE_cases (o : List Sx.Tn) : turnsE o = 0 ∧ o.length ≤ 1000 ∧ o ≠ [] ∨ turnsE o = 2 ∨ turnsE o = 4 ∨ turnsE o = 5 := by
  unfold turnsE
  split
  · exact .inr (.inr (.inr rfl))
  · rename_i q
    split
    · exact .inr (.inr (.inl rfl))
    · split
      · exact .inr (.inl rfl)
      · refine .inl ⟨rfl, by omega, ?_⟩
        rintro rfl; simp at q
end Go.Proofs.YtdekggmaeoeccaaGreat
namespace Go.Proofs.YtdekggmaeoeccaaGreat
open Go.RowKit Go.Shelf
set_option linter.unusedVariables false
set_option linter.unusedSimpArgs false
attribute [local go_sem] Oper.semAt_some

def OwnTimes (w : World) (B : Nat) (v : Value) (l : List Sx.Tm) : Prop := w.ownsRow B 33 3 v l.length (l.flatMap timeC)
def TimesEnd (rs : List Sx.Rl) (name : Tx.Bs) (shift : Int) (w : World) (e : Ending) (w' : World) : Prop :=
  ∃ v, e = .returned (.tuple #[v, .int .i64 (Sx.timesE rs name shift)]) ∧ OwnTimes w' w.heap.size v (Sx.times rs name shift) ∧ Below w.heap.size w w'
theorem times_none {rs : List Sx.Rl} {name : Tx.Bs} {shift E : Int} {w w' : World} (hE : Sx.timesE rs name shift = E) (h : E ≠ 0) (hb : Below w.heap.size w w') : TimesEnd rs name shift w (.returned (.tuple #[.slice none 0 0, .int .i64 E])) w' := by
  refine ⟨_, by rw [hE], ?_, hb⟩
  unfold OwnTimes
  rw [Sx.times_no (by rw [hE]; exact h)]
  exact World.ownsRow_nil _ _ _ _
theorem Tryz.infoTime : (Tryz.prog.info? 33).map (fun i => (i.zero, i.size, i.bytes)) = some (some (.agg #[.int .i64 0, .int .i64 0, .string ⟨#[]⟩]), 3, 32) := by kernel_rfl
theorem time_one (x : Sx.Tm) : ∀ u ∈ timeC x, u.oneCell' = true := by
  intro u hu; simp only [timeC, List.mem_cons, List.not_mem_nil, or_false] at hu; rcases hu with rfl | rfl | rfl <;> rfl
theorem time_cells (w : World) (x : Sx.Tm) {e : TypeId} : ∀ (j : Nat) (u : Value), (timeC x)[j]? = some u → (w.alloc (.cells #[.int .i64 x.at_, .int .i64 x.save, strV x.letter] e)).cell? ((⟨w.heap.size, 0, none⟩ : Addr).add j) = some u := new_cells w (timeC x)

set_option maxRecDepth 100000 in
set_option maxHeartbeats 2000000 in
theorem times_wrong (rs : List Sx.Rl) (rv : Value) (name : Tx.Bs) (shift : Int) (w : World) (h : RdRules w rv rs) (hs : ∀ r ∈ rs, r.name.length ≤ maxLen ∧ r.letter.length ≤ maxLen) (hE : Sx.srcE ⟨rs, [], []⟩ ≠ 0) :
    Calls Tryz.prog 5 #[rv, strV name, .int .i64 shift] w (TimesEnd rs name shift w) := by
  obtain ⟨ra, rcap, rfl⟩ := rd_shape h
  have BV := hid ((Below.refl w.heap.size w).alloc (Nat.le_refl _) (.cells #[.int .i64 shift] 3))
  have C := hid (sCheckRules_any rs _ _ (rd_below h BV.out) hs)
  have HT : Hid (Sx.timesE rs name shift = Sx.srcE ⟨rs, [], []⟩) := by show _ = _; unfold Sx.timesE; rw [if_pos hE]
  obtain ⟨E, hEE⟩ : ∃ E, Sx.srcE ⟨rs, [], []⟩ = E := ⟨_, rfl⟩
  rw [hEE] at hE C HT
  have hne : (E != 0) = true := by simp [hE]
  have HE := hid hE
  clear h hs hE hEE
  go_enter Tryz.func5, Tryz.ntmps5
  go_wp2_with fail
  refine C.out.mono ?_
  rintro e w1 ⟨rfl, hb⟩
  have B1 : Hid (Below w.heap.size w w1) := BV.out.trans (hb.mono BV.out.size)
  clear hb
  go_wp2
  go_ret2
  exact times_none HT.out HE.out B1.out
set_option maxRecDepth 100000 in
set_option maxHeartbeats 2000000 in
theorem times_range (rs : List Sx.Rl) (rv : Value) (name : Tx.Bs) (shift : Int) (w : World) (h : RdRules w rv rs) (hs : ∀ r ∈ rs, r.name.length ≤ maxLen ∧ r.letter.length ≤ maxLen) (hE : Sx.srcE ⟨rs, [], []⟩ = 0) (hsh : ¬ (-64800 ≤ shift ∧ shift ≤ 64800)) :
    Calls Tryz.prog 5 #[rv, strV name, .int .i64 shift] w (TimesEnd rs name shift w) := by
  obtain ⟨ra, rcap, rfl⟩ := rd_shape h
  have BV := hid ((Below.refl w.heap.size w).alloc (Nat.le_refl _) (.cells #[.int .i64 shift] 3))
  have SV := hid (ca_new w [.int .i64 shift] 3)
  have C := hid (sCheckRules_any rs _ _ (rd_below h BV.out) hs)
  have HT : Hid (Sx.timesE rs name shift = 3) := by show _ = _; unfold Sx.timesE; rw [if_neg (by simp [hE]), if_pos (by simp [Sx.inB]; omega)]
  rw [hE] at C
  have HS := hid hsh
  clear h hs hE hsh
  by_cases h1 : shift < -64800
  all_goals
    go_enter Tryz.func5, Tryz.ntmps5
    go_wp2_with fail
    refine C.out.mono ?_
    rintro e w1 ⟨rfl, hb⟩
    have B1 : Hid (Below w.heap.size w w1) := BV.out.trans (hb.mono BV.out.size)
    obtain ⟨s0, s1⟩ := ca_at (ca_below SV.out hb) 0 rfl
    have ss := (ca_below SV.out hb).1
    have h2 : ¬ shift < -64800 → 64800 < shift := fun q => by have := HS.out; omega
    clear hb
    try (have h2 := h2 h1)
    go_wp2
    go_ret2
    exact times_none HT.out (by decide) B1.out
end Go.Proofs.YtdekggmaeoeccaaGreat
namespace Go.Proofs.YtdekggmaeoeccaaGreat
open Go.RowKit Go.Shelf
set_option linter.unusedVariables false
set_option linter.unusedSimpArgs false
attribute [local go_sem] Oper.semAt_some

structure OrdIn (w w1 : World) (ts : List Sx.Tn) (v : Value) : Prop where
  rd : RdTurns w1 v ts
  below : Below w.heap.size w w1
set_option maxRecDepth 100000 in
set_option maxHeartbeats 2000000 in
theorem times_turns (rs : List Sx.Rl) (rv : Value) (name : Tx.Bs) (shift : Int) (w : World) (h : RdRules w rv rs) (hs : ∀ r ∈ rs, r.name.length ≤ maxLen ∧ r.letter.length ≤ maxLen) (hE : Sx.srcE ⟨rs, [], []⟩ = 0) (s1 : -64800 ≤ shift) (s2 : shift ≤ 64800) (hT : Sx.timesE rs name shift ≠ 0) :
    Calls Tryz.prog 5 #[rv, strV name, .int .i64 shift] w (TimesEnd rs name shift w) := by
  obtain ⟨ra, rcap, rfl⟩ := rd_shape h
  have BV := hid ((Below.refl w.heap.size w).alloc (Nat.le_refl _) (.cells #[.int .i64 shift] 3))
  have SV := hid (ca_new w [.int .i64 shift] 3)
  have C := hid (sCheckRules_any rs _ _ (rd_below h BV.out) hs)
  have HOK := hid (Sx.src_ok hE)
  rw [hE] at C
  have H := hid h
  have HT := hid hT
  have HE := hid hE
  have n1 : ¬ shift < -64800 := by omega
  have n2 : ¬ 64800 < shift := by omega
  have HS : Hid (-64800 ≤ shift ∧ shift ≤ 64800) := ⟨s1, s2⟩
  clear h hs hE hT s1 s2
  go_enter Tryz.func5, Tryz.ntmps5
  go_wp2_with fail
  refine C.out.mono ?_
  rintro e w1 ⟨rfl, hb⟩
  have B1 : Hid (Below w.heap.size w w1) := BV.out.trans (hb.mono BV.out.size)
  have X1 := hid (ca_below SV.out hb)
  obtain ⟨t0, t1⟩ := ca_at X1.out 0 rfl
  have ss := X1.out.1
  clear hb BV SV C
  go_wp2_with fail
  refine (turns_any _ _ _ ra rs.length rcap rfl).mono ?_
  rintro e w2 ⟨rfl, hw2⟩
  have q1 : w2.cell? ⟨w1.heap.size, 0, none⟩ = some (.slice ra rs.length rcap) := by
    have := ca_at (ca_alloc (ca_new w1 [.slice ra rs.length rcap] 22) (.cells #[strV name] 9)) 0 rfl
    rw [hw2]; exact this.1
  have q2 : w2.cell? ⟨w1.heap.size + 1, 0, none⟩ = some (strV name) := by
    have := ca_at (ca_new (w1.alloc (.cells #[.slice ra rs.length rcap] 22)) [strV name] 9) 0 rfl
    rw [World.size_alloc] at this
    rw [hw2]; exact this.1
  have z2 : w2.heap.size = w1.heap.size + 2 := by rw [hw2]; simp
  have B2 : Hid (Below w.heap.size w w2) := by
    show Below _ _ _
    rw [hw2]; exact (B1.out.alloc B1.out.size _).alloc (by have := B1.out.size; simp; omega) _
  have C2 := hid (pInOrder_any w1.heap.size (w1.heap.size + 1) rs name ra rcap w2 (rd_below H.out B2.out) HOK.out.2 HOK.out.1 q1 q2 (by omega) (by omega))
  have S2 : Hid (w.heap.size < w2.heap.size) := by show _ < _; have := ss; omega
  clear hw2 q1 q2 z2 t0 t1 ss X1
  go_wp2_with fail
  refine C2.out.mono ?_
  rintro e w3 ⟨v, o, rfl, hord, hrd, hb⟩
  have B3 : Hid (Below w.heap.size w w3) := B2.out.trans (hb.mono B2.out.size)
  obtain ⟨K, hK⟩ := Nat.exists_eq_add_of_le (Nat.zero_le 0)
  have KT := hid (turnsE_is HE.out HS.out.1 HS.out.2 hord)
  have C3 := hid (checkTurns_any o v w3 hrd (by have := hord.1.length_eq; have := turns_few (name := name) HOK.out.2 HOK.out.1; omega) (fun t ht => Sx.turns_bd HOK.out.2 t (hord.1.mem_iff.1 ht)))
  have KE : Hid (Sx.timesE rs name shift = turnsE o) := KT.out.1.symm
  obtain ⟨E, hEE⟩ : ∃ E, turnsE o = E := ⟨_, rfl⟩
  rw [hEE] at C3 KE
  have hne0 : E ≠ 0 := by rw [← KE.out]; exact HT.out
  have hne : (E != 0) = true := by simp [hne0]
  have HN := hid hne0
  obtain ⟨oa, oc, rfl⟩ := rd_shape hrd
  clear hEE KT hord hrd hb C2 hK hne0
  go_wp2_with fail
  refine C3.out.mono ?_
  rintro e w4 ⟨rfl, hb⟩
  have B4 : Hid (Below w.heap.size w w4) := B3.out.trans (hb.mono B3.out.size)
  clear hb
  go_wp2
  go_ret2
  exact times_none KE.out HN.out B4.out
end Go.Proofs.YtdekggmaeoeccaaGreat
namespace Go.Proofs.YtdekggmaeoeccaaGreat
open Go.RowKit
set_option linter.unusedVariables false
set_option linter.unusedSimpArgs false

theorem operIn_of {l n : Nat} {P : Program} {o : Oper} {a : Act} {w : World} {K : Act → World → Prop} {Q : Exit → Act → World → Prop} (hd : ∀ c, o.op ≠ .defer c) (h : o.wp P a w K Q) : o.wpIn (Fence.wide.inRound l) n P a w K Q := by
  unfold Oper.wp at h
  unfold Oper.wpIn
  refine ⟨fun _ _ => trivial, ?_⟩
  rw [Oper.semAt_plain _ _ _ hd]
  generalize (execOp a.eval o).run P w = r at h ⊢
  cases r with
  | ok n' w' =>
    cases n' with
    | value v => exact h
    | skip => exact h
    | defer d => exact h
    | enter f args => exact ⟨fun q => (by cases q), CallsIn.inRound l (callsIn_wide.2 h)⟩
    | row row args =>
      refine ⟨fun q => (by cases q), fun c cs _ => ?_⟩
      obtain ⟨v, w2, r, s⟩ := h c cs
      exact ⟨v, w2, r, stepsIn_wide.2 s⟩
    | _ => exact h.elim
  | halt x w' => cases x <;> first | exact h | exact h.elim
theorem anyIn_of {l n : Nat} {P : Program} {md : Region.Mode} {ops : Array Oper} {Q : Exit → Act → World → Prop} (hd : ∀ (i : Nat) (o : Oper), ops[i]? = some o → ∀ c, o.op ≠ Op.defer c) (hQ : ¬ LetsOut Q) :
    ∀ (fuel : Nat) (listed : Array Bool) (a : Act) (w : World), wpAny P md ops Q fuel listed a w → wpAnyIn (Fence.wide.inRound l) n P md ops Q fuel listed a w
  | 0, _, _, _, h => h
  | fuel + 1, listed, a, w, h => by
    refine ⟨h.1, fun i hi => ?_⟩
    have h2 := h.2 i hi
    unfold wpOp at h2
    unfold wpOpIn
    cases ho : ops[i]? with
    | none =>
      simp only [ho] at h2 ⊢
      exact anyIn_of hd hQ fuel _ _ _ h2
    | some o =>
      simp only [ho] at h2 ⊢
      cases q : Region.wanted o (yielded ops a.tmps) with
      | true =>
        rw [q, if_pos rfl] at h2
        rw [if_pos rfl]
        rcases h2 with h3 | h3
        · exact Oper.wpIn_mono (fun a' w' h' => anyIn_of hd hQ fuel _ a' w' h') (operIn_of (hd i o ho) h3)
        · exact absurd h3.2 hQ
      | false =>
        rw [q, if_neg (by decide)] at h2
        rw [if_neg (by decide)]
        exact ⟨fun _ _ => trivial, anyIn_of hd hQ fuel _ _ _ h2⟩
/- the door: a drawing region in a round, by the held walk -/
theorem regionIn_held {l n : Nat} {P : Program} {id : Nat} {ops : Array Oper} {Q : Exit → Act → World → Prop} {a : Act} {w : World} {S : World → Prop} (hm : P.follows .mixedOrders = true)
    (hd : ops.all (fun (o : Oper) => match o.op with | Op.defer _ => false | _ => true) = true) (hQ : ¬ LetsOut Q) (hS : S w.drew)
    (h : S w.drew → wpAnyH P .any ops Q S ops.size (Array.replicate ops.size false) a w.drew) : (Code.region id ops true).wpIn (Fence.wide.inRound l) n P Q a w := by
  refine wpIn_region_any hm (anyIn_of ?_ hQ _ _ _ _ (wpAny_of_held _ _ _ _ (h hS)))
  intro i o ho c hc
  obtain ⟨hi, rfl⟩ := Array.getElem?_eq_some_iff.1 ho
  have := (Array.all_eq_true.1 hd) i hi
  rw [hc] at this
  cases this
/- append where there is room: the slice keeps its block -/
theorem step_append_fits {P : Program} {ops : Array Oper} {o : Oper} {a : Act} {w : World} {K : Act → World → Prop} {Q : Exit → Act → World → Prop} {E : Prop}
    (hg : o.guard = none) (s x : Operand) (t : TypeId) (hop : o.op = Op.call { callee := Callee.builtin Builtin.append, args := #[s, x], argTypes := #[t, t] })
    (base : Nat) (e : TypeId) (i : TypeInfo) (size : Nat) (h1 : P.underlying t = some (.slice e)) (h2 : P.info? e = some i) (h4 : i.size = size)
    (g k cap : Nat) (xs : List Value) (hs : a.eval s = .slice (some ⟨g, 0, none⟩) k cap) (hown : w.ownsRow base e size (.slice (some ⟨g, 0, none⟩) k cap) k xs)
    (ad : Addr) (m c : Nat) (news : List Value) (hx : a.eval x = .slice (some ad) m c) (hn : news.length = m * size) (hc : ∀ j u, news[j]? = some u → w.cell? (ad.add j) = some u) (h1c : ∀ u ∈ news, u.oneCell' = true) (b1 : k + m ≤ cap)
    (hK : ∀ w', w'.ownsRow base e size (.slice (some ⟨g, 0, none⟩) (k + m) cap) (k + m) (xs ++ news) → w.grownBy w' (some g) → K (a.put o.dst (.slice (some ⟨g, 0, none⟩) (k + m) cap)) w') :
    if Region.wanted o (yielded ops a.tmps) = true then Oper.wp P o a w K Q else E := by
  have hw : Region.wanted o (yielded ops a.tmps) = true := by simp [Region.wanted, hg]
  rw [if_pos hw]
  obtain ⟨w', hrun, r1, r2⟩ := run_append_fits (P := P) w base t o.type e i size h1 h2 h4 g k cap xs hown ad m c news hn hc h1c b1
  unfold Oper.wp
  simp [execOp, hop, resolve, invoke, builtin, hs, hx, hrun, Result.andThen]
  exact hK w' r1 r2
end Go.Proofs.YtdekggmaeoeccaaGreat
