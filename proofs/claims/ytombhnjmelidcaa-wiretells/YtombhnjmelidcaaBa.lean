/- Small laws for all walks: worlds, texts, rows of a call's own, lists that can be read. -/
import Derived.Test.YtombhnjmelidcaaRows
import Derived.Test.YtombhnjmelidcaaTx
import Derived.WalkKit
import Derived.WalkSpells
import Derived.WalkLawsBesides
import Derived.WalkSmall
import Derived.Deep.QuietTactic
import Derived.BigQuiet
import Derived.Deep.LoopGhost
import Derived.Lib.Strings
namespace Go.Proofs.Ytombhnjmelidcaa
open Go.RowKit
set_option linter.unusedVariables false
set_option linter.unusedSimpArgs false

theorem bcell {W w1 : World} (hb : Below W.heap.size W w1) : (∀ b o, b < W.heap.size → w1.cell? ⟨b, o, none⟩ = W.cell? ⟨b, o, none⟩) ∧ (∀ b o, b < W.heap.size → w1.frozen? ⟨b, o, none⟩ = W.frozen? ⟨b, o, none⟩) :=
  ⟨fun b o h => hb.cell (p := ⟨b, o, none⟩) h, fun b o h => hb.frozen (p := ⟨b, o, none⟩) h⟩
theorem hid {p : Prop} (h : p) : Hid p := h
theorem ret_int {k : IntKind} {a b : Int} (h : a = b) : Ending.returned (.int k a) = .returned (.int k b) := by rw [h]
theorem ret_bool {a b : Bool} (h : a = b) : Ending.returned (.bool a) = .returned (.bool b) := by rw [h]

theorem u8_eq (c : UInt8) (k : UInt8) : ((c.toNat : Int) == (k.toNat : Int)) = (c == k) := by
  rw [Bool.eq_iff_iff]; simp
  constructor
  · intro h; exact UInt8.toNat_inj.1 (by omega)
  · intro h; rw [h]
theorem gap_eq (c : UInt8) : Tx.gap c = (((c.toNat : Int) == 32) || ((c.toNat : Int) == 9)) := by
  have a := u8_eq c 32
  have b := u8_eq c 9
  simp only [Tx.gap]
  rw [← a, ← b]; rfl
theorem txt_eq (c : UInt8) : Tx.txt c = (decide ((32 : Int) ≤ (c.toNat : Int) ∧ (c.toNat : Int) ≤ 126) || ((c.toNat : Int) == 9)) := by
  have b := u8_eq c 9
  simp only [Tx.txt]
  have e : decide (32 ≤ c.toNat ∧ c.toNat ≤ 126) = decide ((32 : Int) ≤ (c.toNat : Int) ∧ (c.toNat : Int) ≤ 126) := decide_eq_decide.2 (by omega)
  rw [← b, e]; rfl

abbrev strV (l : List UInt8) : Value := .string ⟨l.toArray⟩
theorem drop_cons (s : ByteArray) (k : Nat) (h : k < s.size) : s.data.toList.drop k = s[k] :: s.data.toList.drop (k + 1) := by
  rw [List.drop_eq_getElem_cons (by simpa using h)]; rfl
theorem drop_end (s : ByteArray) (k : Nat) (h : s.size ≤ k) : s.data.toList.drop k = [] := List.drop_eq_nil_of_le (by simpa using h)
theorem drop_lt (s : ByteArray) (k : Nat) : (s.data.toList.drop k).length < s.size + 1 := by simp; omega
theorem bytes_ext {a b : ByteArray} (h : a.data.toList = b.data.toList) : a = b := by
  obtain ⟨⟨x⟩⟩ := a; obtain ⟨⟨y⟩⟩ := b; simp at h; rw [h]
theorem data_app (a b : ByteArray) : (a ++ b).data.toList = a.data.toList ++ b.data.toList := by simp
theorem str_snoc (acc : List UInt8) (s : ByteArray) (i : Nat) (h : i < s.size) : (⟨acc.toArray⟩ : ByteArray) ++ s.extract i (i + 1) = ⟨(acc ++ [s[i]]).toArray⟩ := by
  apply bytes_ext
  rw [data_app, Lib.extract_data, drop_cons s i h, show i + 1 - i = 1 by omega]
  simp

theorem owns_shape {w : World} {B : Nat} {e : TypeId} {z : Nat} {v : Value} {n : Nat} {xs : List Value} (h : w.ownsRow B e z v (n + 1) xs) : ∃ g cap, v = .slice (some ⟨g, 0, none⟩) (n + 1) cap := by
  rcases h.2 with ⟨_, h0⟩ | ⟨g, cap, cur, rfl, _⟩
  · omega
  · exact ⟨g, cap, rfl⟩
theorem owns_shape0 {w : World} {B : Nat} {e : TypeId} {z : Nat} {v : Value} {n : Nat} {xs : List Value} (h : w.ownsRow B e z v n xs) : ∃ a cap, v = .slice a n cap := by
  rcases h.2 with ⟨rfl, rfl⟩ | ⟨g, cap, cur, rfl, _⟩
  · exact ⟨_, _, rfl⟩
  · exact ⟨_, cap, rfl⟩
theorem one_cell (w : World) (u : Value) {e : TypeId} : ∀ (j : Nat) (x : Value), [u][j]? = some x → (w.alloc (.cells #[u] e)).cell? ((⟨w.heap.size, 0, none⟩ : Addr).add j) = some x := by
  intro j x hj
  match j, hj with
  | 0, hj => simp at hj; subst hj; simp [Addr.add]
theorem below_grown {W w' : World} (h : Below W.heap.size W w') : W.grownBy w' none := ⟨h.os, h.tape, h.output, h.size, fun k hk _ => h.block k hk⟩
theorem owns_below {W w' : World} {B : Nat} {e : TypeId} {z : Nat} {v : Value} {n : Nat} {xs : List Value} (h : W.ownsRow B e z v n xs) (hb : Below W.heap.size W w') : w'.ownsRow B e z v n xs :=
  h.kept (below_grown hb) (by cases v.ownBlock <;> simp)
theorem owns_base {w : World} {B B' : Nat} {e : TypeId} {z : Nat} {v : Value} {n : Nat} {xs : List Value} (h : w.ownsRow B e z v n xs) (hB : B' ≤ B) : w.ownsRow B' e z v n xs := by
  refine ⟨h.1, ?_⟩
  rcases h.2 with hn | ⟨g, cap, cur, rfl, hb, rest⟩
  · exact .inl hn
  · exact .inr ⟨g, cap, cur, rfl, by omega, rest⟩
theorem owns_ne {w : World} {B B' : Nat} {e e' : TypeId} {z z' : Nat} {v v' : Value} {n n' : Nat} {xs xs' : List Value} (h : w.ownsRow B e z v n xs) (h' : w.ownsRow B' e' z' v' n' xs') (hne : e ≠ e') : v.ownBlock = none ∨ v.ownBlock ≠ v'.ownBlock := by
  rcases h.2 with ⟨rfl, _⟩ | ⟨g, cap, cur, rfl, _, hg, _⟩
  · exact .inl rfl
  · right
    rcases h'.2 with ⟨rfl, _⟩ | ⟨g', cap', cur', rfl, _, hg', _⟩
    · simp [Value.ownBlock]
    · simp [Value.ownBlock]
      rintro rfl
      rw [hg] at hg'
      simp at hg'
      exact hne hg'.2
theorem owns_cell {w : World} {B : Nat} {e : TypeId} {z : Nat} {g n cap : Nat} {a : Addr} {xs : List Value} (h : w.ownsRow B e z (.slice (some a) n cap) n xs) : a.off = 0 ∧ a.spot = none ∧ B ≤ a.block ∧ a.block < w.heap.size ∧ ∀ j u, xs[j]? = some u → w.cell? ⟨a.block, j, none⟩ = some u := by
  rcases h.2 with ⟨h0, _⟩ | ⟨g, cap, cur, h1, hb, hg, hc, hm, hs, ht⟩
  · cases h0
  · simp at h1
    obtain ⟨rfl, rfl⟩ := h1
    refine ⟨rfl, rfl, hb, (Array.getElem?_eq_some_iff.1 hg).1, ?_⟩
    intro j u hj
    rw [← ht] at hj
    have hlt : j < n * z := by
      have := (List.getElem?_eq_some_iff.1 hj).1
      simp at this; omega
    rw [List.getElem?_take_of_lt hlt] at hj
    simp [World.cell?, hg]
    simpa using hj

def Rd {α : Type} (z : Nat) (cells : α → List Value) (w : World) (v : Value) (xs : List α) : Prop :=
  ∃ a cap, v = .slice a xs.length cap ∧ (xs ≠ [] → ∃ b o, a = some ⟨b, o, none⟩ ∧ b < w.heap.size ∧ ∀ i x, xs[i]? = some x → ∀ k u, (cells x)[k]? = some u → w.cell? ⟨b, o + i * z + k, none⟩ = some u)
section
variable {α : Type} {z : Nat} {cells : α → List Value} {W w' w : World} {v : Value} {xs : List α}
theorem rd_below (h : Rd z cells W v xs) (hb : Below W.heap.size W w') : Rd z cells w' v xs := by
  obtain ⟨a, cap, h1, h2⟩ := h
  refine ⟨a, cap, h1, fun hn => ?_⟩
  obtain ⟨b, o, h3, h4, h5⟩ := h2 hn
  exact ⟨b, o, h3, Nat.lt_of_lt_of_le h4 hb.size, fun i x hx k u hu => (hb.cell (p := ⟨b, o + i * z + k, none⟩) h4).trans (h5 i x hx k u hu)⟩
theorem rd_nil : Rd z cells w (.slice none 0 0) [] := ⟨none, 0, rfl, fun h => absurd rfl h⟩
theorem rd_shape (h : Rd z cells w v xs) : ∃ a cap, v = .slice a xs.length cap := by
  obtain ⟨a, cap, h1, _⟩ := h
  exact ⟨a, cap, h1⟩
theorem flat_get (cells : α → List Value) (hz : ∀ x, (cells x).length = z) : ∀ (xs : List α) (i : Nat) (x : α), xs[i]? = some x → ∀ (k : Nat) (u : Value), (cells x)[k]? = some u → (xs.flatMap cells)[i * z + k]? = some u
  | [], i, x, h, k, u, _ => by simp at h
  | y :: ys, 0, x, h, k, u, hu => by
    simp at h; subst h
    have : k < (cells y).length := (List.getElem?_eq_some_iff.1 hu).1
    simp [List.getElem?_append_left this, hu]
  | y :: ys, i + 1, x, h, k, u, hu => by
    have := flat_get cells hz ys i x (by simpa using h) k u hu
    rw [List.flatMap_cons, show (i + 1) * z + k = (cells y).length + (i * z + k) by rw [hz, Nat.add_mul]; omega, List.getElem?_append_right (by omega)]
    simpa using this
theorem own_rd {B : Nat} {e : TypeId} (hz : ∀ x, (cells x).length = z) (h : w.ownsRow B e z v xs.length (xs.flatMap cells)) : Rd z cells w v xs := by
  obtain ⟨a, cap, rfl⟩ := owns_shape0 h
  refine ⟨a, cap, rfl, fun hn => ?_⟩
  cases a with
  | none =>
    rcases h.2 with ⟨_, h0⟩ | ⟨g, c, cur, h1, _⟩
    · exact absurd (List.length_eq_zero_iff.1 h0) hn
    · simp at h1
  | some a =>
    obtain ⟨h1, h2, h3, h4, h5⟩ := owns_cell (g := 0) h
    obtain ⟨ab, ao, ap⟩ := a
    simp at h1 h2 h4 h5
    subst h1 h2
    refine ⟨ab, 0, rfl, h4, fun i x hx k u hu => ?_⟩
    have := h5 _ _ (flat_get cells hz xs i x hx k u hu)
    simpa using this
/- what is kept where one block may have turned -/
theorem rd_but {g : Option Nat} {a : Option Addr} {n cap : Nat} (h : Rd z cells W (.slice a n cap) xs) (hg : W.grownBy w' g) (hne : ∀ p, a = some p → some p.block ≠ g) : Rd z cells w' (.slice a n cap) xs := by
  obtain ⟨a', cap', h1, h2⟩ := h
  simp at h1
  obtain ⟨rfl, hn, rfl⟩ := h1
  refine ⟨a, cap, by rw [hn], fun hx => ?_⟩
  obtain ⟨b, o, h3, h4, h5⟩ := h2 hx
  refine ⟨b, o, h3, Nat.lt_of_lt_of_le h4 hg.size, fun i x hx k u hu => ?_⟩
  rw [World.cell?_of_block (w := W) (hg.block b h4 (hne _ h3))]
  exact h5 i x hx k u hu
end

theorem take_snoc (s : ByteArray) (k : Nat) (h : k < s.size) : s.data.toList.take (k + 1) = s.data.toList.take k ++ [s[k]] := by
  rw [List.take_succ_eq_append_getElem (by simpa using h)]; rfl
theorem all_snoc (s : ByteArray) (p : UInt8 → Bool) (k : Nat) (h : k < s.size) (ha : (s.data.toList.take k).all p = true) (hc : p s[k] = true) : (s.data.toList.take (k + 1)).all p = true := by
  rw [take_snoc s k h, List.all_append, ha]; simp [hc]
theorem all_no (s : ByteArray) (p : UInt8 → Bool) (k : Nat) (h : k < s.size) (hc : p s[k] = false) : s.data.toList.all p = false := by
  rw [List.all_eq_false]
  exact ⟨s[k], by simp [ByteArray.getElem_eq_getElem_data], by simp [hc]⟩
theorem all_end (s : ByteArray) (p : UInt8 → Bool) (k : Nat) (h : s.size ≤ k) (ha : (s.data.toList.take k).all p = true) : s.data.toList.all p = true := by
  rwa [List.take_of_length_le (by simpa using h)] at ha
theorem ne_u8 {c k : UInt8} {b : Bool} (h : (c == k) = b) : ((c.toNat : Int) != (k.toNat : Int)) = !b := by
  rw [bne, u8_eq, h]
theorem size_len (s : ByteArray) : s.data.toList.length = s.size := by simp
theorem isEmpty_size (s : ByteArray) : s.toList.isEmpty = decide (s.size = 0) := by
  rw [Lib.toList_data, ← size_len]; cases s.data.toList <;> simp

theorem tmod7 (n : Int) : (n.tmod 7 + 7 + 4) % 7 = (n + 4) % 7 ∧ -6 ≤ n.tmod 7 ∧ n.tmod 7 ≤ 6 := by
  rcases Int.le_total 0 n with h | h
  · rw [Int.tmod_eq_emod_of_nonneg h]; omega
  · have e : n.tmod 7 = -((-n) % 7) := by
      have : n = -(-n) := by omega
      rw [this, Int.neg_tmod, Int.tmod_eq_emod_of_nonneg (by omega)]; simp
    rw [e]; omega
/- the cells of a block, from its first on -/
def CellsAt (w : World) (X : Nat) (vs : List Value) : Prop := X < w.heap.size ∧ ∀ k v, vs[k]? = some v → w.cell? ⟨X, k, none⟩ = some v ∧ w.frozen? ⟨X, k, none⟩ = false
section
variable {w w1 : World} {X : Nat} {vs : List Value}
theorem ca_new (w : World) (vs : List Value) (t : TypeId) : CellsAt (w.alloc (.cells vs.toArray t)) w.heap.size vs := by
  refine ⟨by simp, fun k v h => ?_⟩
  have hk : k < vs.length := (List.getElem?_eq_some_iff.1 h).1
  constructor
  · have e : (w.alloc (.cells vs.toArray t)).heap[w.heap.size]? = some (.cells vs.toArray t) := heap_alloc_new _ _
    simp only [World.cell?, e]
    simpa using h
  · simp [go_sem]
theorem ca_block (h : CellsAt w X vs) (hs : X < w1.heap.size) (hk : w1.heap[X]? = w.heap[X]?) : CellsAt w1 X vs := by
  refine ⟨hs, fun k v q => ?_⟩
  obtain ⟨a, b⟩ := h.2 k v q
  exact ⟨by rw [World.cell?_of_block (w := w) hk]; exact a, by rw [World.frozen?_of_block (w := w) hk]; exact b⟩
theorem ca_grown {r : Nat} (h : CellsAt w X vs) (hg : w.grownBy w1 (some r)) (hn : ¬ X = r) : CellsAt w1 X vs := ca_block h (Nat.lt_of_lt_of_le h.1 hg.size) (hg.block X h.1 (by simpa using hn))
theorem ca_below (h : CellsAt w X vs) (hb : Below w.heap.size w w1) : CellsAt w1 X vs := ca_block h (Nat.lt_of_lt_of_le h.1 hb.size) (hb.block X h.1)
theorem ca_alloc (h : CellsAt w X vs) (o : Obj) : CellsAt (w.alloc o) X vs := ca_block h (by have := h.1; simp; omega) (Below.heap_alloc _ _ _ h.1)
theorem ca_far (h : CellsAt w X vs) {q o : Nat} {u : Value} (hX : ¬ X = q) : CellsAt (w.setCell ⟨q, o, none⟩ u) X vs := ca_block h (by simpa using h.1) (Below.heap_setCell _ _ _ _ hX)
theorem ca_put (h : CellsAt w X vs) (k : Nat) (u : Value) (hk : k < vs.length) : CellsAt (w.setCell ⟨X, k, none⟩ u) X (vs.set k u) := by
  refine ⟨by simpa using h.1, fun j v q => ?_⟩
  by_cases e : j = k
  · subst e
    rw [List.getElem?_set_self hk] at q
    obtain ⟨a, b⟩ := h.2 j _ (List.getElem?_eq_getElem hk)
    simp at q; subst q
    have := h.1
    exact ⟨by simp [go_sem, a, this], by simp [go_sem, b, this]⟩
  · rw [List.getElem?_set_ne (Ne.symm e)] at q
    obtain ⟨a, b⟩ := h.2 j v q
    have := h.1
    have e' : ¬ k = j := fun q => e q.symm
    exact ⟨by simp [go_sem, a, this, e, e'], by simp [go_sem, b, this, e, e']⟩
theorem ca_at (h : CellsAt w X vs) (k : Nat) {v : Value} (q : vs[k]? = some v) : w.cell? ⟨X, k, none⟩ = some v ∧ w.frozen? ⟨X, k, none⟩ = false := h.2 k v q
end
theorem ca_grownO {w w1 : World} {X : Nat} {vs : List Value} {row : Option Nat} (h : CellsAt w X vs) (hg : w.grownBy w1 row) (hn : ∀ k, row = some k → k ≠ X) : CellsAt w1 X vs := ca_block h (Nat.lt_of_lt_of_le h.1 hg.size) (hg.block X h.1 (by intro q; exact hn X q.symm rfl))
/- a write into a block of one's own -/
theorem below_set {B : Nat} {a w : World} (h : Below B a w) {q o : Nat} (hq : B ≤ q) (u : Value) : Below B a (w.setCell ⟨q, o, none⟩ u) :=
  ⟨by rw [← h.os]; rfl, by rw [← h.tape]; rfl, by rw [← h.output]; rfl, by simpa using h.size, fun k hk => by rw [Below.heap_setCell _ _ _ _ (show k ≠ q by omega)]; exact h.block k hk⟩
end Go.Proofs.Ytombhnjmelidcaa
