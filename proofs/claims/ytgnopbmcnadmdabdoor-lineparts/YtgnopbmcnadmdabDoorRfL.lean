/- Lists of lines in memory: lists that a call makes (OwnLines), and lists that can be read (RdLines). -/
import Derived.Test.YtgnopbmcnadmdabDoorRfW
import Derived.Test.YtgnopbmcnadmdabDoorTxL
namespace Go.Proofs.YtgnopbmcnadmdabDoor
open Go.RowKit
set_option linter.unusedVariables false
set_option linter.unusedSimpArgs false

theorem Tryd.infoLine : (Tryd.prog.info? 29).map (fun i => (i.zero, i.size, i.bytes)) = some (some (.agg #[.int .i64 0, .bool false, .slice none 0 0]), 3, 40) := by kernel_rfl

theorem below_grown {W w' : World} (h : Below W.heap.size W w') : W.grownBy w' none := ⟨h.os, h.tape, h.output, h.size, fun k hk _ => h.block k hk⟩
theorem owns_below {W w' : World} {B : Nat} {e : TypeId} {z : Nat} {v : Value} {n : Nat} {xs : List Value} (h : W.ownsRow B e z v n xs) (hb : Below W.heap.size W w') : w'.ownsRow B e z v n xs :=
  h.kept (below_grown hb) (by cases v.ownBlock <;> simp)
theorem owns_base {w : World} {B B' : Nat} {e : TypeId} {z : Nat} {v : Value} {n : Nat} {xs : List Value} (h : w.ownsRow B e z v n xs) (hB : B' ≤ B) : w.ownsRow B' e z v n xs := by
  refine ⟨h.1, ?_⟩
  rcases h.2 with hn | ⟨g, cap, cur, rfl, hb, rest⟩
  · exact .inl hn
  · exact .inr ⟨g, cap, cur, rfl, by omega, rest⟩
theorem owns_ne {w : World} {B B' : Nat} {e e' : TypeId} {z z' : Nat} {v v' : Value} {n n' : Nat} {xs xs' : List Value} (h : w.ownsRow B e z v n xs) (h' : w.ownsRow B' e' z' v' n' xs') (hne : e ≠ e') : v.ownBlock = none ∨ v.ownBlock ≠ v'.ownBlock := by
  rcases h.2 with ⟨rfl, _⟩ | ⟨g, cap, cur, rfl, _, hg, _⟩
  · exact .inl rfl
  · right
    rcases h'.2 with ⟨rfl, _⟩ | ⟨g', cap', cur', rfl, _, hg', _⟩
    · simp [Value.ownBlock]
    · simp [Value.ownBlock]
      rintro rfl
      rw [hg] at hg'
      simp at hg'
      exact hne hg'.2
theorem owns_cell {w : World} {B : Nat} {e : TypeId} {z : Nat} {g n cap : Nat} {a : Addr} {xs : List Value} (h : w.ownsRow B e z (.slice (some a) n cap) n xs) : a.off = 0 ∧ a.spot = none ∧ B ≤ a.block ∧ a.block < w.heap.size ∧ ∀ j u, xs[j]? = some u → w.cell? ⟨a.block, j, none⟩ = some u := by
  rcases h.2 with ⟨h0, _⟩ | ⟨g, cap, cur, h1, hb, hg, hc, hm, hs, ht⟩
  · cases h0
  · simp at h1
    obtain ⟨rfl, rfl⟩ := h1
    refine ⟨rfl, rfl, hb, (Array.getElem?_eq_some_iff.1 hg).1, ?_⟩
    intro j u hj
    rw [← ht] at hj
    have hlt : j < n * z := by
      have := (List.getElem?_eq_some_iff.1 hj).1
      simp at this; omega
    rw [List.getElem?_take_of_lt hlt] at hj
    simp [World.cell?, hg]
    simpa using hj

theorem three_cells (w : World) (a b c : Value) {e : TypeId} : ∀ (j : Nat) (x : Value), [a, b, c][j]? = some x → (w.alloc (.cells #[a, b, c] e)).cell? ((⟨w.heap.size, 0, none⟩ : Addr).add j) = some x := by
  intro j x hj
  match j, hj with
  | 0, hj => simp at hj; subst hj; simp [Addr.add]
  | 1, hj => simp at hj; subst hj; simp [Addr.add]
  | 2, hj => simp at hj; subst hj; simp [Addr.add]
theorem three_one (n : Int) (b : Bool) (a : Option Addr) (k c : Nat) : ∀ u ∈ [Value.int .i64 n, .bool b, .slice a k c], u.oneCell' = true := by
  intro u hu; simp at hu; rcases hu with rfl | rfl | rfl <;> rfl
def cellsOf : List Value → List Tx.Ln → List Value
  | v :: vs, l :: ls => .int .i64 l.number :: .bool l.inner :: v :: cellsOf vs ls
  | _, _ => []
theorem cellsOf_snoc : ∀ (vs : List Value) (ls : List Tx.Ln) (v : Value) (l : Tx.Ln), vs.length = ls.length → cellsOf (vs ++ [v]) (ls ++ [l]) = cellsOf vs ls ++ [.int .i64 l.number, .bool l.inner, v]
  | [], [], v, l, _ => rfl
  | a :: vs, b :: ls, v, l, h => by simp [cellsOf, cellsOf_snoc vs ls v l (by simpa using h)]
  | [], b :: ls, _, _, h => by simp at h
  | a :: vs, [], _, _, h => by simp at h
theorem cellsOf_get : ∀ (vs : List Value) (ls : List Tx.Ln) (i : Nat) (v : Value) (l : Tx.Ln), vs[i]? = some v → ls[i]? = some l → (cellsOf vs ls)[3 * i]? = some (.int .i64 l.number) ∧ (cellsOf vs ls)[3 * i + 1]? = some (.bool l.inner) ∧ (cellsOf vs ls)[3 * i + 2]? = some v
  | a :: vs, b :: ls, 0, v, l, h1, h2 => by simp at h1 h2; subst h1 h2; simp [cellsOf]
  | a :: vs, b :: ls, i + 1, v, l, h1, h2 => by
    have := cellsOf_get vs ls i v l (by simpa using h1) (by simpa using h2)
    simp only [cellsOf]
    refine ⟨?_, ?_, ?_⟩
    · rw [show 3 * (i + 1) = 3 * i + 1 + 1 + 1 by omega]; simpa using this.1
    · rw [show 3 * (i + 1) + 1 = (3 * i + 1) + 1 + 1 + 1 by omega]; simpa using this.2.1
    · rw [show 3 * (i + 1) + 2 = (3 * i + 2) + 1 + 1 + 1 by omega]; simpa using this.2.2
  | [], _, i, v, l, h1, _ => by simp at h1
  | a :: vs, [], i, v, l, _, h2 => by simp at h2

def OwnLines (w : World) (B : Nat) (v : Value) (ls : List Tx.Ln) : Prop :=
  ∃ vs : List Value, vs.length = ls.length ∧ w.ownsRow B 29 3 v ls.length (cellsOf vs ls) ∧
    ∀ (i : Nat) (fv : Value) (l : Tx.Ln), vs[i]? = some fv → ls[i]? = some l → w.ownsRow B 9 1 fv l.fields.length (l.fields.map strV)
theorem ownLines_nil (w : World) (B : Nat) : OwnLines w B (.slice none 0 0) [] := ⟨[], rfl, World.ownsRow_nil _ _ _ _, fun i fv l h => by simp at h⟩
theorem ownLines_below {W w' : World} {B : Nat} {v : Value} {ls : List Tx.Ln} (h : OwnLines W B v ls) (hb : Below W.heap.size W w') : OwnLines w' B v ls := by
  obtain ⟨vs, h1, h2, h3⟩ := h
  exact ⟨vs, h1, owns_below h2 hb, fun i fv l a b => owns_below (h3 i fv l a b) hb⟩
theorem ownLines_app {w1 w3 : World} {B : Nat} {v v' fv : Value} {vs : List Value} {ls : List Tx.Ln} {l : Tx.Ln} {o : Obj} (hl : vs.length = ls.length) (hown : w1.ownsRow B 29 3 v ls.length (cellsOf vs ls))
    (hf : ∀ (i : Nat) (fv : Value) (l : Tx.Ln), vs[i]? = some fv → ls[i]? = some l → w1.ownsRow B 9 1 fv l.fields.length (l.fields.map strV)) (hfv : w1.ownsRow B 9 1 fv l.fields.length (l.fields.map strV))
    (hown' : w3.ownsRow B 29 3 v' (ls.length + 1) (cellsOf vs ls ++ [.int .i64 l.number, .bool l.inner, fv])) (hg : (w1.alloc o).grownBy w3 v.ownBlock) : OwnLines w3 B v' (ls ++ [l]) := by
  have keep : ∀ fv (l : Tx.Ln), w1.ownsRow B 9 1 fv l.fields.length (l.fields.map strV) → w3.ownsRow B 9 1 fv l.fields.length (l.fields.map strV) := fun fv l h =>
    (h.alloc o).kept hg (owns_ne h hown (by decide))
  refine ⟨vs ++ [fv], by simp [hl], ?_, ?_⟩
  · rw [cellsOf_snoc vs ls fv l hl]; simpa using hown'
  · intro i x y hx hy
    by_cases h : i < ls.length
    · rw [List.getElem?_append_left (by omega)] at hx
      rw [List.getElem?_append_left h] at hy
      exact keep x y (hf i x y hx hy)
    · have hi : i = ls.length := by
        have := (List.getElem?_eq_some_iff.1 hy).1
        simp at this; omega
      subst hi
      rw [← hl] at hx
      simp at hx hy
      subst hx hy
      exact keep fv l hfv
theorem ownLines_shape {w : World} {B : Nat} {v : Value} {ls : List Tx.Ln} (h : OwnLines w B v ls) : ∃ a cap, v = .slice a ls.length cap := by
  obtain ⟨vs, _, h2, _⟩ := h
  exact owns_shape0 h2

/- what can be read: a list of texts, a list of lines -/
def RdStrs (w : World) (v : Value) (fs : List Tx.Bs) : Prop :=
  ∃ a cap, v = .slice a fs.length cap ∧ (fs ≠ [] → ∃ b o, a = some ⟨b, o, none⟩ ∧ b < w.heap.size ∧ ∀ i f, fs[i]? = some f → w.cell? ⟨b, o + i, none⟩ = some (strV f))
def RdLines (w : World) (v : Value) (ls : List Tx.Ln) : Prop :=
  ∃ a cap, v = .slice a ls.length cap ∧ (ls ≠ [] → ∃ b o, a = some ⟨b, o, none⟩ ∧ b < w.heap.size ∧ ∀ i l, ls[i]? = some l → w.cell? ⟨b, o + i * 3, none⟩ = some (.int .i64 l.number) ∧ w.cell? ⟨b, o + i * 3 + 1, none⟩ = some (.bool l.inner) ∧ ∃ fv, w.cell? ⟨b, o + i * 3 + 2, none⟩ = some fv ∧ RdStrs w fv l.fields)
theorem rdStrs_below {W w' : World} {v : Value} {fs : List Tx.Bs} (h : RdStrs W v fs) (hb : Below W.heap.size W w') : RdStrs w' v fs := by
  obtain ⟨a, cap, h1, h2⟩ := h
  refine ⟨a, cap, h1, fun hn => ?_⟩
  obtain ⟨b, o, h3, h4, h5⟩ := h2 hn
  exact ⟨b, o, h3, Nat.lt_of_lt_of_le h4 hb.size, fun i f hf => (hb.cell (p := ⟨b, o + i, none⟩) h4).trans (h5 i f hf)⟩
theorem rdLines_below {W w' : World} {v : Value} {ls : List Tx.Ln} (h : RdLines W v ls) (hb : Below W.heap.size W w') : RdLines w' v ls := by
  obtain ⟨a, cap, h1, h2⟩ := h
  refine ⟨a, cap, h1, fun hn => ?_⟩
  obtain ⟨b, o, h3, h4, h5⟩ := h2 hn
  refine ⟨b, o, h3, Nat.lt_of_lt_of_le h4 hb.size, fun i l hl => ?_⟩
  obtain ⟨c0, c1, fv, c2, r⟩ := h5 i l hl
  exact ⟨(hb.cell (p := ⟨b, o + i * 3, none⟩) h4).trans c0, (hb.cell (p := ⟨b, o + i * 3 + 1, none⟩) h4).trans c1, fv, (hb.cell (p := ⟨b, o + i * 3 + 2, none⟩) h4).trans c2, rdStrs_below r hb⟩
theorem owns_rdStrs {w : World} {B : Nat} {v : Value} {fs : List Tx.Bs} (h : w.ownsRow B 9 1 v fs.length (fs.map strV)) : RdStrs w v fs := by
  obtain ⟨a, cap, rfl⟩ := owns_shape0 h
  refine ⟨a, cap, rfl, fun hn => ?_⟩
  cases a with
  | none =>
    rcases h.2 with ⟨_, h0⟩ | ⟨g, c, cur, h1, _⟩
    · exact absurd (List.length_eq_zero_iff.1 h0) hn
    · simp at h1
  | some a =>
    obtain ⟨h1, h2, h3, h4, h5⟩ := owns_cell (g := 0) h
    obtain ⟨ab, ao, ap⟩ := a
    simp at h1 h2 h4 h5
    subst h1 h2
    exact ⟨ab, 0, rfl, h4, fun i f hf => by simpa using h5 i f hf⟩
theorem own_rdLines {w : World} {B : Nat} {v : Value} {ls : List Tx.Ln} (h : OwnLines w B v ls) : RdLines w v ls := by
  obtain ⟨vs, hl, h2, h3⟩ := h
  obtain ⟨a, cap, rfl⟩ := owns_shape0 h2
  refine ⟨a, cap, rfl, fun hn => ?_⟩
  cases a with
  | none =>
    rcases h2.2 with ⟨_, h0⟩ | ⟨g, c, cur, h1, _⟩
    · exact absurd (List.length_eq_zero_iff.1 h0) hn
    · simp at h1
  | some a =>
    obtain ⟨q1, q2, q3, q4, q5⟩ := owns_cell (g := 0) h2
    obtain ⟨ab, ao, ap⟩ := a
    simp at q1 q2 q4 q5
    subst q1 q2
    refine ⟨ab, 0, rfl, q4, fun i l hi => ?_⟩
    have hlt : i < vs.length := by rw [hl]; exact (List.getElem?_eq_some_iff.1 hi).1
    have hv : vs[i]? = some vs[i] := List.getElem?_eq_getElem hlt
    obtain ⟨g0, g1, g2⟩ := cellsOf_get vs ls i vs[i] l hv hi
    rw [Nat.mul_comm 3 i] at g0 g1 g2
    exact ⟨by simpa using q5 _ _ g0, by simpa using q5 _ _ g1, vs[i], by simpa using q5 _ _ g2, owns_rdStrs (h3 i _ l hv hi)⟩
end Go.Proofs.YtgnopbmcnadmdabDoor
