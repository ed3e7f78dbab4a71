/- Part of the proof: Tx Ba BaB TxL Cal CalOn Sx SxC RfN RfO RfP SrM TkM TkN Sg CivA CivWk. -/
import Derived.Test.YtkhlkohlccndgaaGreatQz
import Derived.Test.YtkhlkohlccndgaaGreatRows
import Derived.WalkKit
import Derived.WalkSpells
import Derived.WalkLawsBesides
import Derived.WalkSmall
import Derived.Deep.QuietTactic
import Derived.BigQuiet
import Derived.Deep.LoopGhost
import Derived.Lib.Strings
import Derived.Shelf.Abstract
import Derived.Lib.Bytealg
import Derived.Lib.IndexAny
set_option linter.unusedVariables false
set_option linter.unusedSimpArgs false
set_option maxRecDepth 100000
set_option maxHeartbeats 16000000
namespace Go.Proofs.YtkhlkohlccndgaaGreat
namespace Tx

abbrev Bs := List UInt8
def gap (c : UInt8) : Bool := c == 32 || c == 9
def txt (c : UInt8) : Bool := decide (32 ≤ c.toNat ∧ c.toNat ≤ 126) || c == 9

/- what stands between two quotes, and what is behind the second one -/
def tq : Bs → Option (Bs × Bs)
 | [] => none
 | c :: r => if c = 34 then some ([], r) else if txt c = false then none else (tq r).map fun p => (c :: p.1, p.2)
/- a field without quotes around it, and what is behind it -/
def tu : Bs → Option (Bs × Bs)
 | [] => some ([], [])
 | c :: r => if gap c = true ∨ c = 35 then some ([], c :: r) else if txt c = false ∨ c = 34 then none else (tu r).map fun p => (c :: p.1, p.2)
/- does a field end here? -/
def ends : Bs → Bool
 | [] => true
 | c :: _ => gap c || c == 35
def skip : Bs → Bs
 | [] => []
 | c :: r => if gap c = true then skip r else c :: r
def field : Bs → Option (Bs × Bs)
 | [] => none
 | c :: r => if c = 34 then (match tq r with | none => none | some p => if ends p.2 = true then some p else none) else tu (c :: r)
/- the fields of a line from here on, n fields being ahead: those fields and 0, or none and what is wrong -/
def fields : Nat → Nat → Bs → List Bs × Int
 | 0, _, _ => ([], 0)
 | m + 1, n, l =>
   match skip l with
   | [] => ([], 0)
   | c :: r => if c = 35 then ([], 0) else
     match field (c :: r) with
     | none => ([], 1)
     | some p => if 24 < p.1.length ∨ 12 < n + 1 then ([], 2) else
       if (fields m (n + 1) p.2).2 = 0 then (p.1 :: (fields m (n + 1) p.2).1, 0) else ([], (fields m (n + 1) p.2).2)

theorem JF : ∀ (l : Bs) (p : Bs × Bs), tq l = some p → p.2.length < l.length ∧ p.1.length < l.length
 | [], p, h => by simp [tq] at h
 | c :: r, p, h => by
   unfold tq at h
   split at h
   ·simp at h; subst h; simp
   ·split at h
    ·simp at h
    ·cases hr : tq r with
     | none => simp [hr] at h
     | some q =>
       simp [hr] at h; subst h
       have := JF r q hr
       simp; omega
theorem JH : ∀ (l : Bs) (p : Bs × Bs), tu l = some p → p.1.length + p.2.length = l.length
 | [], p, h => by simp [tu] at h; subst h; simp
 | c :: r, p, h => by
   unfold tu at h
   split at h
   ·simp at h; subst h; simp
   ·split at h
    ·simp at h
    ·cases hr : tu r with
     | none => simp [hr] at h
     | some q =>
       simp [hr] at h; subst h
       have := JH r q hr
       simp; omega
theorem wo : ∀ (l : Bs), (skip l).length ≤ l.length
 | [] => by simp [skip]
 | c :: r => by
   unfold skip; split
   ·have := wo r; simp; omega
   ·simp
theorem rJ : ∀ (l : Bs) (c : UInt8) (r : Bs), skip l = c :: r → gap c = false
 | [], c, r, h => by simp [skip] at h
 | d :: t, c, r, h => by
   unfold skip at h; split at h
   ·exact rJ t c r h
   ·rename_i g; simp at h; obtain ⟨rfl, _⟩ := h; simpa using g
theorem qg (r : Bs) : field (34 :: r) = match tq r with | none => none | some p => if ends p.2 = true then some p else none := by simp [field]
theorem nU (c : UInt8) (r : Bs) (h : c ≠ 34) : field (c :: r) = tu (c :: r) := by simp [field, h]
theorem KU (c : UInt8) (r : Bs) (h1 : gap c = false) (h2 : c ≠ 35) (h3 : txt c = true) (h4 : c ≠ 34) : tu (c :: r) = (tu r).map fun p => (c :: p.1, p.2) := by
 conv => lhs; unfold tu
 rw [if_neg (by simp [h1, h2]), if_neg (by simp [h3, h4])]
theorem Ei (c : UInt8) (r : Bs) (h1 : gap c = false) (h2 : c ≠ 35) (h3 : txt c = false ∨ c = 34) : tu (c :: r) = none := by
 conv => lhs; unfold tu
 rw [if_neg (by simp [h1, h2]), if_pos h3]
theorem JG (c : UInt8) (r : Bs) (h : gap c = true ∨ c = 35) : tu (c :: r) = some ([], c :: r) := by
 conv => lhs; unfold tu
 rw [if_pos h]
theorem tq_go (c : UInt8) (r : Bs) (h1 : c ≠ 34) (h2 : txt c = true) : tq (c :: r) = (tq r).map fun p => (c :: p.1, p.2) := by
 conv => lhs; unfold tq
 rw [if_neg h1, if_neg (by simp [h2])]
theorem LH (c : UInt8) (r : Bs) (h1 : c ≠ 34) (h2 : txt c = false) : tq (c :: r) = none := by
 conv => lhs; unfold tq
 rw [if_neg h1, if_pos h2]
theorem LJ (r : Bs) : tq (34 :: r) = some ([], r) := by simp [tq]
theorem xQ (c : UInt8) (r : Bs) (p : Bs × Bs) (hg : gap c = false) (h35 : c ≠ 35) (h : field (c :: r) = some p) : p.2.length < (c :: r).length := by
 by_cases h34 : c = 34
 ·subst h34
  rw [qg] at h
  cases hq : tq r with
  | none => rw [hq] at h; cases h
  | some q =>
    rw [hq] at h
    by_cases he : ends q.2 = true
    ·simp [he] at h; subst h
     have := JF r q hq; simp; omega
    ·simp [he] at h
 ·rw [nU c r h34] at h
  by_cases ht : txt c = false
  ·rw [Ei c r hg h35 (.inl ht)] at h; cases h
  ·rw [KU c r hg h35 (by simpa using ht) h34] at h
   cases hr : tu r with
   | none => rw [hr] at h; cases h
   | some q =>
     rw [hr] at h; simp at h; subst h
     have := JH r q hr
     simp; omega
/- enough is enough -/
theorem sG : ∀ (m k n : Nat) (l : Bs), l.length < m → l.length < k → fields m n l = fields k n l
 | 0, _, _, l, h, _ => by omega
 | _, 0, _, l, _, h => by omega
 | m + 1, k + 1, n, l, h1, h2 => by
   unfold fields
   have hs := wo l
   cases hk : skip l with
   | nil => rfl
   | cons c r =>
     simp only
     split
     ·rfl
     ·rename_i h35
      cases hf : field (c :: r) with
      | none => rfl
      | some p =>
        simp only
        have hl := xQ c r p (rJ l c r hk) h35 hf
        rw [hk] at hs
        rw [sG m k (n + 1) p.2 (by simp at hl hs; omega) (by simp at hl hs; omega)]
theorem kI (M n : Nat) (l : Bs) (h : l.length < M) : fields M n l = (match skip l with
  | [] => ([], 0)
  | c :: r => if c = 35 then ([], 0) else
    match field (c :: r) with
    | none => ([], 1)
    | some p => if 24 < p.1.length ∨ 12 < n + 1 then ([], 2) else
      if (fields M (n + 1) p.2).2 = 0 then (p.1 :: (fields M (n + 1) p.2).1, 0) else ([], (fields M (n + 1) p.2).2)) := by
 cases M with
 | zero => omega
 | succ M =>
   conv => lhs; unfold fields
   have hs := wo l
   cases hk : skip l with
   | nil => rfl
   | cons c r =>
     simp only
     by_cases h35 : c = 35
     ·rw [if_pos h35, if_pos h35]
     ·rw [if_neg h35, if_neg h35]
      cases hf : field (c :: r) with
      | none => rfl
      | some p =>
        have hl := xQ c r p (rJ l c r hk) h35 hf
        rw [hk] at hs
        simp only
        rw [sG M (M + 1) (n + 1) p.2 (by simp at hl hs; omega) (by simp at hl hs; omega)]
/- what is gathered so far, and what is to come, make the whole -/
def Rel (G : List Bs × Int) (out : List Bs) (R : List Bs × Int) : Prop := if R.2 = 0 then G = (out ++ R.1, 0) else G = ([], R.2)
theorem GH (G : List Bs × Int) (h : G.2 ≠ 0 → G.1 = []) : Rel G [] G := by
 unfold Rel
 obtain ⟨a, b⟩ := G
 by_cases hb : b = 0
 ·simp [hb]
 ·simp [hb]; exact h hb
theorem CW : ∀ (m n : Nat) (l : Bs), (fields m n l).2 ≠ 0 → (fields m n l).1 = []
 | 0, n, l => by simp [fields]
 | m + 1, n, l => by
   unfold fields
   cases hk : skip l with
   | nil => simp
   | cons c r =>
     simp only
     by_cases h35 : c = 35
     ·rw [if_pos h35]; simp
     ·rw [if_neg h35]
      cases hf : field (c :: r) with
      | none => simp
      | some p =>
        simp only
        split
        ·simp
        ·split <;> simp
section
variable {M n : Nat} {l : Bs} {G : List Bs × Int} {out : List Bs}
theorem EW (h : Rel G out (fields M n l)) (hl : l.length < M) (he : skip l = [] ∨ ∃ r, skip l = 35 :: r) : G = (out, 0) := by
 rw [kI M n l hl] at h
 rcases he with he | ⟨r, he⟩
 ·rw [he] at h; simpa [Rel] using h
 ·rw [he] at h; simpa [Rel] using h
theorem nE {c : UInt8} {r : Bs} (h : Rel G out (fields M n l)) (hl : l.length < M) (hs : skip l = c :: r) (hc : c ≠ 35) (hf : field (c :: r) = none) : G = ([], 1) := by
 rw [kI M n l hl, hs] at h
 simpa [Rel, hc, hf] using h
theorem ll {c : UInt8} {r : Bs} {p : Bs × Bs} (h : Rel G out (fields M n l)) (hl : l.length < M) (hs : skip l = c :: r) (hc : c ≠ 35) (hf : field (c :: r) = some p) (hm : 24 < p.1.length ∨ 12 < n + 1) : G = ([], 2) := by
 rw [kI M n l hl, hs] at h
 simp only [hf] at h
 rw [if_neg hc, if_pos hm] at h
 simpa [Rel] using h
theorem lm {c : UInt8} {r : Bs} {p : Bs × Bs} (h : Rel G out (fields M n l)) (hl : l.length < M) (hs : skip l = c :: r) (hc : c ≠ 35) (hf : field (c :: r) = some p) (hm : ¬ (24 < p.1.length ∨ 12 < n + 1)) : Rel G (out ++ [p.1]) (fields M (n + 1) p.2) := by
 rw [kI M n l hl, hs] at h
 simp only [hf] at h
 rw [if_neg hc, if_neg hm] at h
 unfold Rel at h ⊢
 by_cases h0 : (fields M (n + 1) p.2).2 = 0
 ·rw [if_pos h0] at h ⊢
  simpa using h
 ·rw [if_neg h0] at h ⊢
  simpa [h0] using h
end
end Tx
section
open Go.RowKit

theorem dZ {W w1 : World} (hb : Below W.heap.size W w1) : (∀ b o, b < W.heap.size → w1.cell? ⟨b, o, none⟩ = W.cell? ⟨b, o, none⟩) ∧ (∀ b o, b < W.heap.size → w1.frozen? ⟨b, o, none⟩ = W.frozen? ⟨b, o, none⟩) :=
 ⟨fun b o h => hb.cell (p := ⟨b, o, none⟩) h, fun b o h => hb.frozen (p := ⟨b, o, none⟩) h⟩
theorem hid {p : Prop} (h : p) : Hid p := h
theorem ay {k : IntKind} {a b : Int} (h : a = b) : Ending.returned (.int k a) = .returned (.int k b) := by rw [h]
theorem aC {a b : Bool} (h : a = b) : Ending.returned (.bool a) = .returned (.bool b) := by rw [h]

theorem gH (c : UInt8) (k : UInt8) : ((c.toNat : Int) == (k.toNat : Int)) = (c == k) := by
 rw [Bool.eq_iff_iff]; simp
 constructor
 ·intro h; exact UInt8.toNat_inj.1 (by omega)
 ·intro h; rw [h]
theorem Le (c : UInt8) : Tx.gap c = (((c.toNat : Int) == 32) || ((c.toNat : Int) == 9)) := by
 have a := gH c 32
 have b := gH c 9
 simp only [Tx.gap]
 rw [← a, ← b]; rfl
theorem LK (c : UInt8) : Tx.txt c = (decide ((32 : Int) ≤ (c.toNat : Int) ∧ (c.toNat : Int) ≤ 126) || ((c.toNat : Int) == 9)) := by
 have b := gH c 9
 simp only [Tx.txt]
 have e : decide (32 ≤ c.toNat ∧ c.toNat ≤ 126) = decide ((32 : Int) ≤ (c.toNat : Int) ∧ (c.toNat : Int) ≤ 126) := decide_eq_decide.2 (by omega)
 rw [← b, e]; rfl

abbrev ag (l : List UInt8) : Value := .string ⟨l.toArray⟩
theorem fq (s : ByteArray) (k : Nat) (h : k < s.size) : s.data.toList.drop k = s[k] :: s.data.toList.drop (k + 1) := by
 rw [List.drop_eq_getElem_cons (by simpa using h)]; rfl
theorem jY (s : ByteArray) (k : Nat) (h : s.size ≤ k) : s.data.toList.drop k = [] := List.drop_eq_nil_of_le (by simpa using h)
theorem dU (s : ByteArray) (k : Nat) : (s.data.toList.drop k).length < s.size + 1 := by simp; omega
theorem Fu {a b : ByteArray} (h : a.data.toList = b.data.toList) : a = b := by
 obtain ⟨⟨x⟩⟩ := a; obtain ⟨⟨y⟩⟩ := b; simp at h; rw [h]
theorem Ib (a b : ByteArray) : (a ++ b).data.toList = a.data.toList ++ b.data.toList := by simp
theorem Ca (acc : List UInt8) (s : ByteArray) (i : Nat) (h : i < s.size) : (⟨acc.toArray⟩ : ByteArray) ++ s.extract i (i + 1) = ⟨(acc ++ [s[i]]).toArray⟩ := by
 apply Fu
 rw [Ib, Lib.extract_data, fq s i h, show i + 1 - i = 1 by omega]
 simp

theorem bu {w : World} {B : Nat} {e : TypeId} {z : Nat} {v : Value} {n : Nat} {xs : List Value} (h : w.ownsRow B e z v (n + 1) xs) : ∃ g cap, v = .slice (some ⟨g, 0, none⟩) (n + 1) cap := by
 rcases h.2 with ⟨_, h0⟩ | ⟨g, cap, cur, rfl, _⟩
 ·omega
 ·exact ⟨g, cap, rfl⟩
theorem aQ {w : World} {B : Nat} {e : TypeId} {z : Nat} {v : Value} {n : Nat} {xs : List Value} (h : w.ownsRow B e z v n xs) : ∃ a cap, v = .slice a n cap := by
 rcases h.2 with ⟨rfl, rfl⟩ | ⟨g, cap, cur, rfl, _⟩
 ·exact ⟨_, _, rfl⟩
 ·exact ⟨_, cap, rfl⟩
theorem one_cell (w : World) (u : Value) {e : TypeId} : ∀ (j : Nat) (x : Value), [u][j]? = some x → (w.alloc (.cells #[u] e)).cell? ((⟨w.heap.size, 0, none⟩ : Addr).add j) = some x := by
 intro j x hj
 match j, hj with
 | 0, hj => simp at hj; subst hj; simp [Addr.add]
theorem below_grown {W w' : World} (h : Below W.heap.size W w') : W.grownBy w' none := ⟨h.os, h.tape, h.output, h.size, fun k hk _ => h.block k hk⟩
theorem aP {W w' : World} {B : Nat} {e : TypeId} {z : Nat} {v : Value} {n : Nat} {xs : List Value} (h : W.ownsRow B e z v n xs) (hb : Below W.heap.size W w') : w'.ownsRow B e z v n xs :=
 h.kept (below_grown hb) (by cases v.ownBlock <;> simp)
theorem gK {w : World} {B B' : Nat} {e : TypeId} {z : Nat} {v : Value} {n : Nat} {xs : List Value} (h : w.ownsRow B e z v n xs) (hB : B' ≤ B) : w.ownsRow B' e z v n xs := by
 refine ⟨h.1, ?_⟩
 rcases h.2 with hn | ⟨g, cap, cur, rfl, hb, rest⟩
 ·exact .inl hn
 ·exact .inr ⟨g, cap, cur, rfl, by omega, rest⟩
theorem fH {w : World} {B B' : Nat} {e e' : TypeId} {z z' : Nat} {v v' : Value} {n n' : Nat} {xs xs' : List Value} (h : w.ownsRow B e z v n xs) (h' : w.ownsRow B' e' z' v' n' xs') (hne : e ≠ e') : v.ownBlock = none ∨ v.ownBlock ≠ v'.ownBlock := by
 rcases h.2 with ⟨rfl, _⟩ | ⟨g, cap, cur, rfl, _, hg, _⟩
 ·exact .inl rfl
 ·right
  rcases h'.2 with ⟨rfl, _⟩ | ⟨g', cap', cur', rfl, _, hg', _⟩
  ·simp [Value.ownBlock]
  ·simp [Value.ownBlock]
   rintro rfl
   rw [hg] at hg'
   simp at hg'
   exact hne hg'.2
theorem jU {w : World} {B : Nat} {e : TypeId} {z : Nat} {g n cap : Nat} {a : Addr} {xs : List Value} (h : w.ownsRow B e z (.slice (some a) n cap) n xs) : a.off = 0 ∧ a.spot = none ∧ B ≤ a.block ∧ a.block < w.heap.size ∧ ∀ j u, xs[j]? = some u → w.cell? ⟨a.block, j, none⟩ = some u := by
 rcases h.2 with ⟨h0, _⟩ | ⟨g, cap, cur, h1, hb, hg, hc, hm, hs, ht⟩
 ·cases h0
 ·simp at h1
  obtain ⟨rfl, rfl⟩ := h1
  refine ⟨rfl, rfl, hb, (q4A.1 hg).1, ?_⟩
  intro j u hj
  rw [← ht] at hj
  have hlt : j < n * z := by
   have := (q4L.1 hj).1
   simp at this; omega
  rw [List.getElem?_take_of_lt hlt] at hj
  simp [World.cell?, hg]
  simpa using hj

def Rd {α : Type} (z : Nat) (cells : α → List Value) (w : World) (v : Value) (xs : List α) : Prop :=
 ∃ a cap, v = .slice a xs.length cap ∧ (xs ≠ [] → ∃ b o, a = some ⟨b, o, none⟩ ∧ b < w.heap.size ∧ ∀ i x, xs[i]? = some x → ∀ k u, (cells x)[k]? = some u → w.cell? ⟨b, o + i * z + k, none⟩ = some u)
section
variable {α : Type} {z : Nat} {cells : α → List Value} {W w' w : World} {v : Value} {xs : List α}
theorem au (h : Rd z cells W v xs) (hb : Below W.heap.size W w') : Rd z cells w' v xs := by
 obtain ⟨a, cap, h1, h2⟩ := h
 refine ⟨a, cap, h1, fun hn => ?_⟩
 obtain ⟨b, o, h3, h4, h5⟩ := h2 hn
 exact ⟨b, o, h3, q4N h4 hb.size, fun i x hx k u hu => (hb.cell (p := ⟨b, o + i * z + k, none⟩) h4).trans (h5 i x hx k u hu)⟩
theorem Ji : Rd z cells w (.slice none 0 0) [] := ⟨none, 0, rfl, fun h => absurd rfl h⟩
theorem bP (h : Rd z cells w v xs) : ∃ a cap, v = .slice a xs.length cap := by
 obtain ⟨a, cap, h1, _⟩ := h
 exact ⟨a, cap, h1⟩
theorem flat_get (cells : α → List Value) (hz : ∀ x, (cells x).length = z) : ∀ (xs : List α) (i : Nat) (x : α), xs[i]? = some x → ∀ (k : Nat) (u : Value), (cells x)[k]? = some u → (xs.flatMap cells)[i * z + k]? = some u
 | [], i, x, h, k, u, _ => by simp at h
 | y :: ys, 0, x, h, k, u, hu => by
   simp at h; subst h
   have : k < (cells y).length := (q4L.1 hu).1
   simp [List.getElem?_append_left this, hu]
 | y :: ys, i + 1, x, h, k, u, hu => by
   have := flat_get cells hz ys i x (by simpa using h) k u hu
   rw [List.flatMap_cons, show (i + 1) * z + k = (cells y).length + (i * z + k) by rw [hz, Nat.add_mul]; omega, List.getElem?_append_right (by omega)]
   simpa using this
theorem ku {B : Nat} {e : TypeId} (hz : ∀ x, (cells x).length = z) (h : w.ownsRow B e z v xs.length (xs.flatMap cells)) : Rd z cells w v xs := by
 obtain ⟨a, cap, rfl⟩ := aQ h
 refine ⟨a, cap, rfl, fun hn => ?_⟩
 cases a with
 | none =>
   rcases h.2 with ⟨_, h0⟩ | ⟨g, c, cur, h1, _⟩
   ·exact absurd (List.length_eq_zero_iff.1 h0) hn
   ·simp at h1
 | some a =>
   obtain ⟨h1, h2, h3, h4, h5⟩ := jU (g := 0) h
   obtain ⟨ab, ao, ap⟩ := a
   simp at h1 h2 h4 h5
   subst h1 h2
   refine ⟨ab, 0, rfl, h4, fun i x hx k u hu => ?_⟩
   have := h5 _ _ (flat_get cells hz xs i x hx k u hu)
   simpa using this
end

theorem dm (s : ByteArray) (k : Nat) (h : k < s.size) : s.data.toList.take (k + 1) = s.data.toList.take k ++ [s[k]] := by
 rw [List.take_succ_eq_append_getElem (by simpa using h)]; rfl
theorem gy (s : ByteArray) (p : UInt8 → Bool) (k : Nat) (h : k < s.size) (ha : (s.data.toList.take k).all p = true) (hc : p s[k] = true) : (s.data.toList.take (k + 1)).all p = true := by
 rw [dm s k h, List.all_append, ha]; simp [hc]
theorem rq (s : ByteArray) (p : UInt8 → Bool) (k : Nat) (h : k < s.size) (hc : p s[k] = false) : s.data.toList.all p = false := by
 rw [List.all_eq_false]
 exact ⟨s[k], by simp [ByteArray.getElem_eq_getElem_data], by simp [hc]⟩
theorem nS (s : ByteArray) (p : UInt8 → Bool) (k : Nat) (h : s.size ≤ k) (ha : (s.data.toList.take k).all p = true) : s.data.toList.all p = true := by
 rwa [List.take_of_length_le (by simpa using h)] at ha
theorem kN {c k : UInt8} {b : Bool} (h : (c == k) = b) : ((c.toNat : Int) != (k.toNat : Int)) = !b := by
 rw [bne, gH, h]
theorem kC (s : ByteArray) : s.data.toList.length = s.size := by simp
theorem lV (s : ByteArray) : s.toList.isEmpty = decide (s.size = 0) := by
 rw [Lib.toList_data, ← kC]; cases s.data.toList <;> simp

theorem KR (n : Int) : (n.tmod 7 + 7 + 4) % 7 = (n + 4) % 7 ∧ -6 ≤ n.tmod 7 ∧ n.tmod 7 ≤ 6 := by
 rcases Int.le_total 0 n with h | h
 ·rw [Int.tmod_eq_emod_of_nonneg h]; omega
 ·have e : n.tmod 7 = -((-n) % 7) := by
   have : n = -(-n) := by omega
   rw [this, Int.neg_tmod, Int.tmod_eq_emod_of_nonneg (by omega)]; simp
  rw [e]; omega
/- the cells of a block, from its first on -/
def ak (w : World) (X : Nat) (vs : List Value) : Prop := X < w.heap.size ∧ ∀ k v, vs[k]? = some v → w.cell? ⟨X, k, none⟩ = some v ∧ w.frozen? ⟨X, k, none⟩ = false
section
variable {w w1 : World} {X : Nat} {vs : List Value}
theorem aD (w : World) (vs : List Value) (t : TypeId) : ak (w.alloc (.cells vs.toArray t)) w.heap.size vs := by
 refine ⟨by simp, fun k v h => ?_⟩
 have hk : k < vs.length := (q4L.1 h).1
 constructor
 ·have e : (w.alloc (.cells vs.toArray t)).heap[w.heap.size]? = some (.cells vs.toArray t) := heap_alloc_new _ _
  simp only [World.cell?, e]
  simpa using h
 ·simp [go_sem]
theorem kW (h : ak w X vs) (hs : X < w1.heap.size) (hk : w1.heap[X]? = w.heap[X]?) : ak w1 X vs := by
 refine ⟨hs, fun k v q => ?_⟩
 obtain ⟨a, b⟩ := h.2 k v q
 exact ⟨by rw [World.cell?_of_block (w := w) hk]; exact a, by rw [World.frozen?_of_block (w := w) hk]; exact b⟩
theorem aL {r : Nat} (h : ak w X vs) (hg : w.grownBy w1 (some r)) (hn : ¬ X = r) : ak w1 X vs := kW h (q4N h.1 hg.size) (hg.block X h.1 (by simpa using hn))
theorem ai (h : ak w X vs) (hb : Below w.heap.size w w1) : ak w1 X vs := kW h (q4N h.1 hb.size) (hb.block X h.1)
theorem aM (h : ak w X vs) (o : Obj) : ak (w.alloc o) X vs := kW h (by have := h.1; simp; omega) (Below.heap_alloc _ _ _ h.1)
theorem bR (h : ak w X vs) {q o : Nat} {u : Value} (hX : ¬ X = q) : ak (w.setCell ⟨q, o, none⟩ u) X vs := kW h (by simpa using h.1) (Below.heap_setCell _ _ _ _ hX)
theorem cK (h : ak w X vs) (k : Nat) (u : Value) (hk : k < vs.length) : ak (w.setCell ⟨X, k, none⟩ u) X (vs.set k u) := by
 refine ⟨by simpa using h.1, fun j v q => ?_⟩
 by_cases e : j = k
 ·subst e
  rw [List.getElem?_set_self hk] at q
  obtain ⟨a, b⟩ := h.2 j _ (q4G hk)
  simp at q; subst q
  have := h.1
  exact ⟨by simp [go_sem, a, this], by simp [go_sem, b, this]⟩
 ·rw [List.getElem?_set_ne (Ne.symm e)] at q
  obtain ⟨a, b⟩ := h.2 j v q
  have := h.1
  have e' : ¬ k = j := fun q => e q.symm
  exact ⟨by simp [go_sem, a, this, e, e'], by simp [go_sem, b, this, e, e']⟩
theorem aa (h : ak w X vs) (k : Nat) {v : Value} (q : vs[k]? = some v) : w.cell? ⟨X, k, none⟩ = some v ∧ w.frozen? ⟨X, k, none⟩ = false := h.2 k v q
end
theorem ca_grownO {w w1 : World} {X : Nat} {vs : List Value} {row : Option Nat} (h : ak w X vs) (hg : w.grownBy w1 row) (hn : ∀ k, row = some k → k ≠ X) : ak w1 X vs := kW h (q4N h.1 hg.size) (hg.block X h.1 (by intro q; exact hn X q.symm rfl))
/- a write into a block of one's own -/
theorem aO {B : Nat} {a w : World} (h : Below B a w) {q o : Nat} (hq : B ≤ q) (u : Value) : Below B a (w.setCell ⟨q, o, none⟩ u) :=
 ⟨by rw [← h.os]; rfl, by rw [← h.tape]; rfl, by rw [← h.output]; rfl, by simpa using h.size, fun k hk => by rw [Below.heap_setCell _ _ _ _ (show k ≠ q by omega)]; exact h.block k hk⟩
abbrev CF (w : World) (X k : Nat) (a : Value) : Prop := w.cell? ⟨X, k, none⟩ = some a ∧ w.frozen? ⟨X, k, none⟩ = false
theorem cp2 {w : World} {X : Nat} {a0 a1 : Value} {r : List Value} (h : ak w X (a0 :: a1 :: r)) : CF w X 0 a0 ∧ CF w X 1 a1 ∧ X < w.heap.size := ⟨aa h 0 rfl, aa h 1 rfl, h.1⟩
theorem cp3 {w : World} {X : Nat} {a0 a1 a2 : Value} {r : List Value} (h : ak w X (a0 :: a1 :: a2 :: r)) : CF w X 0 a0 ∧ CF w X 1 a1 ∧ CF w X 2 a2 ∧ X < w.heap.size := ⟨aa h 0 rfl, aa h 1 rfl, aa h 2 rfl, h.1⟩
theorem cp4 {w : World} {X : Nat} {a0 a1 a2 a3 : Value} {r : List Value} (h : ak w X (a0 :: a1 :: a2 :: a3 :: r)) : CF w X 0 a0 ∧ CF w X 1 a1 ∧ CF w X 2 a2 ∧ CF w X 3 a3 ∧ X < w.heap.size := ⟨aa h 0 rfl, aa h 1 rfl, aa h 2 rfl, aa h 3 rfl, h.1⟩
theorem cp5 {w : World} {X : Nat} {a0 a1 a2 a3 a4 : Value} {r : List Value} (h : ak w X (a0 :: a1 :: a2 :: a3 :: a4 :: r)) : CF w X 0 a0 ∧ CF w X 1 a1 ∧ CF w X 2 a2 ∧ CF w X 3 a3 ∧ CF w X 4 a4 ∧ X < w.heap.size := ⟨aa h 0 rfl, aa h 1 rfl, aa h 2 rfl, aa h 3 rfl, aa h 4 rfl, h.1⟩
theorem cp6 {w : World} {X : Nat} {a0 a1 a2 a3 a4 a5 : Value} {r : List Value} (h : ak w X (a0 :: a1 :: a2 :: a3 :: a4 :: a5 :: r)) : CF w X 0 a0 ∧ CF w X 1 a1 ∧ CF w X 2 a2 ∧ CF w X 3 a3 ∧ CF w X 4 a4 ∧ CF w X 5 a5 ∧ X < w.heap.size := ⟨aa h 0 rfl, aa h 1 rfl, aa h 2 rfl, aa h 3 rfl, aa h 4 rfl, aa h 5 rfl, h.1⟩
theorem cp7 {w : World} {X : Nat} {a0 a1 a2 a3 a4 a5 a6 : Value} {r : List Value} (h : ak w X (a0 :: a1 :: a2 :: a3 :: a4 :: a5 :: a6 :: r)) : CF w X 0 a0 ∧ CF w X 1 a1 ∧ CF w X 2 a2 ∧ CF w X 3 a3 ∧ CF w X 4 a4 ∧ CF w X 5 a5 ∧ CF w X 6 a6 ∧ X < w.heap.size := ⟨aa h 0 rfl, aa h 1 rfl, aa h 2 rfl, aa h 3 rfl, aa h 4 rfl, aa h 5 rfl, aa h 6 rfl, h.1⟩
theorem cp8 {w : World} {X : Nat} {a0 a1 a2 a3 a4 a5 a6 a7 : Value} {r : List Value} (h : ak w X (a0 :: a1 :: a2 :: a3 :: a4 :: a5 :: a6 :: a7 :: r)) : CF w X 0 a0 ∧ CF w X 1 a1 ∧ CF w X 2 a2 ∧ CF w X 3 a3 ∧ CF w X 4 a4 ∧ CF w X 5 a5 ∧ CF w X 6 a6 ∧ CF w X 7 a7 ∧ X < w.heap.size := ⟨aa h 0 rfl, aa h 1 rfl, aa h 2 rfl, aa h 3 rfl, aa h 4 rfl, aa h 5 rfl, aa h 6 rfl, aa h 7 rfl, h.1⟩
theorem cp9 {w : World} {X : Nat} {a0 a1 a2 a3 a4 a5 a6 a7 a8 : Value} {r : List Value} (h : ak w X (a0 :: a1 :: a2 :: a3 :: a4 :: a5 :: a6 :: a7 :: a8 :: r)) : CF w X 0 a0 ∧ CF w X 1 a1 ∧ CF w X 2 a2 ∧ CF w X 3 a3 ∧ CF w X 4 a4 ∧ CF w X 5 a5 ∧ CF w X 6 a6 ∧ CF w X 7 a7 ∧ CF w X 8 a8 ∧ X < w.heap.size := ⟨aa h 0 rfl, aa h 1 rfl, aa h 2 rfl, aa h 3 rfl, aa h 4 rfl, aa h 5 rfl, aa h 6 rfl, aa h 7 rfl, aa h 8 rfl, h.1⟩
theorem cp10 {w : World} {X : Nat} {a0 a1 a2 a3 a4 a5 a6 a7 a8 a9 : Value} {r : List Value} (h : ak w X (a0 :: a1 :: a2 :: a3 :: a4 :: a5 :: a6 :: a7 :: a8 :: a9 :: r)) : CF w X 0 a0 ∧ CF w X 1 a1 ∧ CF w X 2 a2 ∧ CF w X 3 a3 ∧ CF w X 4 a4 ∧ CF w X 5 a5 ∧ CF w X 6 a6 ∧ CF w X 7 a7 ∧ CF w X 8 a8 ∧ CF w X 9 a9 ∧ X < w.heap.size := ⟨aa h 0 rfl, aa h 1 rfl, aa h 2 rfl, aa h 3 rfl, aa h 4 rfl, aa h 5 rfl, aa h 6 rfl, aa h 7 rfl, aa h 8 rfl, aa h 9 rfl, h.1⟩
end
section
open Go.RowKit

theorem kG (n a b : Int) (w : World) :
  Calls Tryz.prog 77 #[.int .i64 n, .int .i64 a, .int .i64 b] w fun e w' => e = .returned (.bool (decide (a ≤ n ∧ n ≤ b))) ∧ w' = w := by
 by_cases h1 : a ≤ n <;> by_cases h2 : n ≤ b
 all_goals
  go_enter Tryz.func77, Tryz.ntmps77
  go_wp2
  go_ret
  exact ⟨aC (by simp [h1, h2]), rfl⟩

end
namespace Tx

structure Ln where
 number : Int
 inner : Bool
 fields : List Bs

structure Res where
 lines : List Ln
 number : Int
 err : Int

def rows : Bs → List Bs
 | [] => [[]]
 | c :: r => if c = 10 then [] :: rows r else (match rows r with | [] => [[c]] | x :: xs => (c :: x) :: xs)
def inner : Bs → Bool
 | [] => false
 | c :: _ => gap c
def ky (r : Bs) : List Bs × Int := fields (r.length + 1) 0 r
def go : Int → List Bs → Res
 | _, [] => ⟨[], 0, 0⟩
 | n, r :: rs => if (ky r).2 ≠ 0 then ⟨[], n, (ky r).2⟩ else if (go (n + 1) rs).err ≠ 0 then ⟨[], (go (n + 1) rs).number, (go (n + 1) rs).err⟩ else
   ⟨if (ky r).1 = [] then (go (n + 1) rs).lines else ⟨n, inner r, (ky r).1⟩ :: (go (n + 1) rs).lines, 0, 0⟩
def split (s : Bs) : Res := if 8000 < s.length then ⟨[], 0, 2⟩ else if (go 1 (rows s)).err ≠ 0 then ⟨[], (go 1 (rows s)).number, (go 1 (rows s)).err⟩ else if 200 < (go 1 (rows s)).lines.length then ⟨[], 0, 2⟩ else ⟨(go 1 (rows s)).lines, 0, 0⟩

/- what is gathered so far, and what is to come, make the whole -/
def jv (T : Res) (out : List Ln) (R : Res) : Prop := if R.err = 0 then T = ⟨out ++ R.lines, 0, 0⟩ else T = ⟨[], R.number, R.err⟩
def Tidy (R : Res) : Prop := if R.err = 0 then R.number = 0 else R.lines = []
theorem go_tidy (n : Int) (l : List Bs) : Tidy (go n l) := by
 cases l with
 | nil => simp [go, Tidy]
 | cons r rs =>
   unfold go
   split
   ·rename_i h; simp [Tidy, h]
   ·split
    ·rename_i h; simp [Tidy, h]
    ·simp [Tidy]
theorem DT (R : Res) (h : Tidy R) : jv R [] R := by
 unfold jv; unfold Tidy at h
 obtain ⟨a, b, c⟩ := R
 by_cases hc : c = 0
 ·simp [hc] at h ⊢; exact h
 ·simp [hc] at h ⊢; exact h
section
variable {T : Res} {out : List Ln} {n : Int} {r : Bs} {rs : List Bs}
theorem Jl (h : jv T out (go n (r :: rs))) (he : (ky r).2 ≠ 0) : T = ⟨[], n, (ky r).2⟩ := by
 unfold go at h
 rw [if_pos he] at h
 simpa [jv, he] using h
theorem Gz (h : jv T out (go n (r :: rs))) (he : (ky r).2 = 0) (h0 : (ky r).1 = []) : jv T out (go (n + 1) rs) := by
 unfold go at h
 rw [if_neg (by simp [he])] at h
 by_cases hr : (go (n + 1) rs).err = 0
 ·rw [if_neg (by simp [hr])] at h
  simpa [jv, h0, hr] using h
 ·rw [if_pos hr] at h
  simpa [jv, hr] using h
theorem GD (h : jv T out (go n (r :: rs))) (he : (ky r).2 = 0) (h0 : (ky r).1 ≠ []) : jv T (out ++ [⟨n, inner r, (ky r).1⟩]) (go (n + 1) rs) := by
 unfold go at h
 rw [if_neg (by simp [he])] at h
 by_cases hr : (go (n + 1) rs).err = 0
 ·rw [if_neg (by simp [hr])] at h
  simpa [jv, h0, hr] using h
 ·rw [if_pos hr] at h
  simpa [jv, hr] using h
theorem Jk (h : jv T out (go n [])) : T = ⟨out, 0, 0⟩ := by simpa [jv, go] using h
end
/- a row that ends at a line feed, and one that ends with the text -/
theorem yn : ∀ (a b : Bs), (∀ c ∈ a, c ≠ 10) → rows (a ++ 10 :: b) = a :: rows b
 | [], b, _ => by simp [rows]
 | c :: a, b, h => by
   have hc : c ≠ 10 := h c (by simp)
   have := yn a b (fun d hd => h d (by simp [hd]))
   simp only [List.cons_append]
   conv => lhs; unfold rows
   rw [if_neg hc, this]
theorem yo : ∀ (a : Bs), (∀ c ∈ a, c ≠ 10) → rows a = [a]
 | [], _ => by simp [rows]
 | c :: a, h => by
   have hc : c ≠ 10 := h c (by simp)
   have := yo a (fun d hd => h d (by simp [hd]))
   unfold rows
   rw [if_neg hc, this]
theorem Jp : ky [] = ([], 0) := by simp [ky, fields, skip]
theorem DZ {s : Bs} (h : 8000 < s.length) : split s = ⟨[], 0, 2⟩ := by unfold split; rw [if_pos h]
theorem GU {s : Bs} (h : ¬ 8000 < s.length) {n e : Int} (hT : go 1 (rows s) = ⟨[], n, e⟩) (he : e ≠ 0) : split s = ⟨[], n, e⟩ := by unfold split; rw [if_neg h, hT]; simp [he]
theorem D6 {s : Bs} (h : ¬ 8000 < s.length) {o : List Ln} (hT : go 1 (rows s) = ⟨o, 0, 0⟩) (ho : 200 < o.length) : split s = ⟨[], 0, 2⟩ := by unfold split; rw [if_neg h, hT]; simp [ho]
theorem Jy {s : Bs} (h : ¬ 8000 < s.length) {o : List Ln} (hT : go 1 (rows s) = ⟨o, 0, 0⟩) (ho : ¬ 200 < o.length) : split s = ⟨o, 0, 0⟩ := by unfold split; rw [if_neg h, hT]; simp [ho]
end Tx
namespace Cv

def lpB (y : Int) : Bool := decide (y % 4 = 0 ∧ (y % 100 ≠ 0 ∨ y % 400 = 0))
def dim (y m : Int) : Int := if m = 4 ∨ m = 6 ∨ m = 9 ∨ m = 11 then 30 else if m = 2 then (if lpB y = true then 29 else 28) else 31
def dby (y : Int) : Int := (y - 1) * 365 + (y - 1) / 4 - (y - 1) / 100 + (y - 1) / 400
def cum (y m : Int) : Int := (367 * m - 362) / 12 + (if m ≤ 2 then 0 else if lpB y = true then -1 else -2)
def num (y m d : Int) : Int := dby y + cum y m + d - 1 - 719162
def gX (y m d : Int) : Bool := decide (1 ≤ y ∧ y ≤ 9999 ∧ 1 ≤ m ∧ m ≤ 12 ∧ 1 ≤ d ∧ d ≤ dim y m)
def iK (y m : Int) : Bool := decide (1 ≤ y ∧ y ≤ 9999 ∧ 1 ≤ m ∧ m ≤ 12)
def wd (n : Int) : Int := (n + 4) % 7
def lp (y : Int) : Int := if lpB y = true then 1 else 0

theorem EK (y : Int) : lpB y = true ↔ (y % 4 = 0 ∧ (y % 100 ≠ 0 ∨ y % 400 = 0)) := by simp [lpB]
theorem jg {y m d : Int} : gX y m d = true ↔ (1 ≤ y ∧ y ≤ 9999 ∧ 1 ≤ m ∧ m ≤ 12 ∧ 1 ≤ d ∧ d ≤ dim y m) := by simp [gX]
theorem eO {y m : Int} : iK y m = true ↔ (1 ≤ y ∧ y ≤ 9999 ∧ 1 ≤ m ∧ m ≤ 12) := by simp [iK]
theorem jX (y m : Int) : 28 ≤ dim y m ∧ dim y m ≤ 31 := by unfold dim; split <;> (try split) <;> (try split) <;> omega

theorem twelve {m : Int} (h1 : 1 ≤ m) (h2 : m ≤ 12) : m = 1 ∨ m = 2 ∨ m = 3 ∨ m = 4 ∨ m = 5 ∨ m = 6 ∨ m = 7 ∨ m = 8 ∨ m = 9 ∨ m = 10 ∨ m = 11 ∨ m = 12 := by omega

theorem qc (y m : Int) (h1 : 1 ≤ m) (h2 : m ≤ 12) : cum y (m + 1) = cum y m + dim y m := by
 cases hl : lpB y <;> rcases twelve h1 h2 with rfl | rfl | rfl | rfl | rfl | rfl | rfl | rfl | rfl | rfl | rfl | rfl <;> simp [cum, dim, hl]
theorem qa (y : Int) : cum y 1 = 0 := by simp [cum]
theorem CK (y : Int) : cum y 13 = 365 + lp y := by cases hl : lpB y <;> simp [cum, lp, hl]
theorem yP (y m : Int) (h1 : 1 ≤ m) (h2 : m ≤ 13) : 0 ≤ cum y m ∧ cum y m ≤ 366 := by
 unfold cum; split
 ·omega
 ·split <;> omega
theorem KY (y m k : Int) (h1 : 1 ≤ m) (h : m < k) (h2 : k ≤ 13) : cum y m + dim y m ≤ cum y k := by
 have h3 : m ≤ 12 := by omega
 cases hl : lpB y <;> rcases twelve h1 h3 with rfl | rfl | rfl | rfl | rfl | rfl | rfl | rfl | rfl | rfl | rfl | rfl <;> simp [cum, dim, hl] <;> (try split) <;> omega
theorem uN (y : Int) : dby (y + 1) = dby y + 365 + lp y := by
 unfold dby lp
 have h := EK y
 by_cases hl : lpB y = true
 ·rw [if_pos hl]; have := h.1 hl; omega
 ·rw [if_neg hl]
  have : ¬ (y % 4 = 0 ∧ (y % 100 ≠ 0 ∨ y % 400 = 0)) := fun k => hl (h.2 k)
  omega
theorem rA (a b : Int) (h : a ≤ b) : dby a ≤ dby b := by unfold dby; omega
theorem J8 : dby 1 = 0 := by decide
theorem yR : dby 10000 = 3652059 := by decide
theorem CO (y : Int) (h1 : 1 ≤ y) (h2 : y ≤ 10000) : 0 ≤ dby y ∧ dby y ≤ 3652059 := by
 have a := rA 1 y h1; have b := rA y 10000 h2
 rw [J8] at a; rw [yR] at b; exact ⟨a, b⟩
theorem KZ (a b : Int) (h : a < b) : dby a + 365 + lp a ≤ dby b := by
 have := rA (a + 1) b (by omega); rw [uN] at this; exact this

theorem yday {y m d : Int} (h : gX y m d = true) : 0 ≤ cum y m + d - 1 ∧ cum y m + d - 1 < 365 + lp y := by
 have h := jg.1 h
 have a := yP y m (by omega) (by omega)
 have b := KY y m 13 (by omega) (by omega) (by omega)
 rw [CK] at b
 omega
theorem iM {y m d : Int} (h : gX y m d = true) : -719162 ≤ num y m d ∧ num y m d ≤ 2932896 := by
 have hy := yday h
 have h' := jg.1 h
 have a := CO y (by omega) (by omega)
 have b := KZ y 10000 (by omega)
 rw [yR] at b
 unfold num; omega
theorem KV (n : Int) : 0 ≤ wd n ∧ wd n ≤ 6 := by unfold wd; omega
/- the guess of a year -/
theorem IK (n : Int) (h0 : 0 ≤ n) (h1 : n < 3652059) : 1 ≤ n * 400 / 146097 + 1 ∧ n * 400 / 146097 + 1 ≤ 9999 ∧ dby (n * 400 / 146097 + 1) ≤ n := by
 unfold dby; omega
theorem KC {n y : Int} (h1 : n < 3652059) (h : dby y ≤ n) : y ≤ 9999 := by
 rcases Int.lt_or_le y 10000 with k | k
 ·omega
 ·have := rA 10000 y k; rw [yR] at this; omega

end Cv
namespace Cv

def kQ (k wk n len : Int) : Bool := decide (0 ≤ wk ∧ wk ≤ 6 ∧ (k = 2 ∧ n = 0 ∨ k ≠ 2 ∧ ¬ (k = 1 ∧ wk ≠ 0) ∧ 1 ≤ n ∧ n ≤ len))
def upto (x wk : Int) : Int := x - (wd x - wk + 7) % 7
def frm (x wk : Int) : Int := x + (wk - wd x + 7) % 7
def tgt (y m k wk n : Int) : Int :=
 if k = 2 then upto (num y m 1 + dim y m - 1) wk else if k = 3 then frm (num y m 1 + n - 1) wk else if k = 4 then upto (num y m 1 + n - 1) wk else num y m 1 + n - 1
def onE (y m k wk n : Int) : Int :=
 if iK y m = false then 3 else if k < 1 ∨ 4 < k then 7 else if kQ k wk n (dim y m) = false then 3 else if tgt y m k wk n < -719162 ∨ 2932896 < tgt y m k wk n then 3 else 0

theorem jK {k wk n len : Int} : kQ k wk n len = true ↔ (0 ≤ wk ∧ wk ≤ 6 ∧ (k = 2 ∧ n = 0 ∨ k ≠ 2 ∧ ¬ (k = 1 ∧ wk ≠ 0) ∧ 1 ≤ n ∧ n ≤ len)) := by unfold kQ; exact decide_eq_true_iff
theorem qR {y m : Int} (h : iK y m = true) : gX y m 1 = true := by
 have a := eO.1 h
 have b := jX y m
 exact jg.2 (by omega)
theorem Ff (x wk : Int) (h : 0 ≤ wk) (h' : wk ≤ 6) : x - 6 ≤ upto x wk ∧ upto x wk ≤ x ∧ wd (upto x wk) = wk := by unfold upto wd; omega
theorem Ld (x wk : Int) (h : 0 ≤ wk) (h' : wk ≤ 6) : x ≤ frm x wk ∧ frm x wk ≤ x + 6 ∧ wd (frm x wk) = wk := by unfold frm wd; omega
theorem qE {y m k wk n : Int} (h : onE y m k wk n = 0) : iK y m = true ∧ 1 ≤ k ∧ k ≤ 4 ∧ kQ k wk n (dim y m) = true ∧ -719162 ≤ tgt y m k wk n ∧ tgt y m k wk n ≤ 2932896 := by
 unfold onE at h
 split at h
 ·omega
 rename_i h1
 split at h
 ·omega
 rename_i h2
 split at h
 ·omega
 rename_i h3
 split at h
 ·omega
 rename_i h4
 refine ⟨by simpa using h1, by omega, by omega, by simpa using h3, by omega, by omega⟩
end Cv
namespace Sx
open Tx (Bs)

def gB (c : UInt8) : Bool := decide (97 ≤ c.toNat ∧ c.toNat ≤ 122) || decide (65 ≤ c.toNat ∧ c.toNat ≤ 90)
def fZ (c : UInt8) : Bool := decide (48 ≤ c.toNat ∧ c.toNat ≤ 57)
def jl (c : UInt8) : Bool := gB c || fZ c || c == 95 || c == 45 || c == 47 || c == 43
def dV (c : UInt8) : Bool := gB c || fZ c || c == 43 || c == 45
def EG : Bs → Bool
 | [] => false
 | c :: _ => gB c
def bF (s : Bs) : Bool := EG s && decide (s.length ≤ 24) && s.all jl
def dS (s : Bs) : Bool := s.all gB && decide (s.length ≤ 24)
def bi (s : Bs) : Bool := s.all dV
/- how many marks a format has; none: a sign that may not stand there. (first: nothing is ahead) -/
def dN : Bool → Bs → Option Nat
 | _, [] => some 0
 | f, c :: r =>
   if c = 47 then (if f = true ∨ r = [] then none else (dN false r).map (· + 1))
   else if c = 37 then (if r.head? = some 115 then (dN false r).map (· + 1) else none)
   else if dV c = true then dN false r else none
def few : Option Nat → Bool
 | none => false
 | some m => decide (m ≤ 1)
def dw (s : Bs) : Bool := !s.isEmpty && decide (s.length ≤ 24) && few (dN true s)

structure Rl where
 name : Bs
 frm : Int
 to : Int
 month : Int
 kind : Int
 wk : Int
 n : Int
 at_ : Int
 clock : Int
 save : Int
 letter : Bs
structure Er where
 shift : Int
 rules : Bs
 save : Int
 format : Bs
 opn : Bool
 uy : Int
 um : Int
 ud : Int
 uat : Int
 uclock : Int
structure Zn where
 name : Bs
 eras : List Er
structure Lk where
 to : Bs
 name : Bs
structure Sr where
 rules : List Rl
 zones : List Zn
 links : List Lk

def inB (n a b : Int) : Bool := decide (a ≤ n ∧ n ≤ b)
def dI (r : Rl) : Int :=
 if (bF r.name && dS r.letter) = false then 1
 else if (inB r.frm 1900 r.to && decide (r.to ≤ 2100)) = false then 3
 else if inB r.month 1 12 = false then 3
 else if Cv.onE 2001 r.month r.kind r.wk r.n ≠ 0 then Cv.onE 2001 r.month r.kind r.wk r.n
 else if inB r.at_ 0 172800 = false then 3
 else if inB r.clock 1 3 = false then 7
 else if inB r.save 0 10800 = false then 3 else 0
def wI (x : Er) : Bool := decide (x.uy = 0 ∧ x.um = 0 ∧ x.ud = 0 ∧ x.uat = 0 ∧ x.uclock = 0)
def pg (x : Er) : Int :=
 if x.opn = true then (if wI x = true then 0 else 1)
 else if Cv.gX x.uy x.um x.ud = false then 3
 else if inB x.uat 0 172800 = false then 3
 else if x.uclock = 2 ∨ x.uclock = 3 then 0 else 7
def eD (x : Er) (last : Bool) : Int :=
 if ((x.rules.isEmpty || bF x.rules) && dw x.format) = false then 1
 else if inB x.shift (-64800) 64800 = false then 3
 else if inB x.save 0 10800 = false then 3
 else if (x.rules.isEmpty || decide (x.save = 0)) = false then 1
 else if x.opn ≠ last then 4
 else pg x
def iI : List Er → Int
 | [] => 0
 | [x] => eD x true
 | x :: y :: r => if eD x false ≠ 0 then eD x false else iI (y :: r)
def dB (z : Zn) : Int := if (bF z.name && !z.eras.isEmpty) = false then 1 else iI z.eras
def d9 (l : Lk) : Int := if (bF l.to && bF l.name) = false then 1 else 0
def az {α : Type} (f : α → Int) : List α → Int
 | [] => 0
 | x :: r => if f x ≠ 0 then f x else az f r
def eH (s : Sr) : Bool := decide (40 < s.rules.length) || decide (20 < s.zones.length) || decide (20 < s.links.length) || s.zones.any fun z => decide (8 < z.eras.length)
def orE (a b : Int) : Int := if a ≠ 0 then a else b
def fB (s : Sr) : Int := if eH s = true then 2 else orE (az dI s.rules) (orE (az dB s.zones) (az d9 s.links))

/- what fields say -/
def val : Int → Bs → Int
 | n, [] => n
 | n, c :: r => val (10 * n + (c.toNat : Int) - 48) r
def num (least most : Nat) (s : Bs) : Option Int := if least ≤ s.length ∧ s.length ≤ most ∧ s.all fZ = true then some (val 0 s) else none
/- which of texts of three signs each it is -/
def th (s : Bs) : Nat → Bs → Int
 | k, a :: b :: c :: r => if [a, b, c] = s then k else th s (k + 1) r
 | _, _ => -1
def rE : Bs := [74, 97, 110, 70, 101, 98, 77, 97, 114, 65, 112, 114, 77, 97, 121, 74, 117, 110, 74, 117, 108, 65, 117, 103, 83, 101, 112, 79, 99, 116, 78, 111, 118, 68, 101, 99]
def nO : Bs := [83, 117, 110, 77, 111, 110, 84, 117, 101, 87, 101, 100, 84, 104, 117, 70, 114, 105, 83, 97, 116]
def dA (s : Bs) : Option Int := if th s 0 rE < 0 then none else some (th s 0 rE + 1)
def wkO (s : Bs) : Option Int := if th s 0 nO < 0 then none else some (th s 0 nO)
structure Fm where
 kind : Int
 wk : Int
 n : Int
def oO : Bs := [108, 97, 115, 116]
def sI (s : Bs) : Prop := 5 < s.length ∧ s[4]? = some 61 ∧ (s[3]? = some 62 ∨ s[3]? = some 60)
instance (s : Bs) : Decidable (sI s) := by unfold sI; infer_instance
def mI (s : Bs) : Option Fm :=
 if s.take 4 = oO then (wkO (s.drop 4)).map fun w => ⟨2, w, 0⟩
 else if sI s then
  (wkO (s.take 3)).bind fun w => (num 1 2 (s.drop 5)).map fun n => ⟨if s[3]? = some 60 then 4 else 3, w, n⟩
 else (num 1 2 s).map fun n => ⟨1, 0, n⟩
def dP : Bs → List Bs
 | [] => [[]]
 | c :: r => if c = 58 then [] :: dP r else (match dP r with | [] => [[c]] | x :: xs => (c :: x) :: xs)
def kS (s : Bs) : Option Int := (num 2 2 s).bind fun n => if 59 < n then none else some n
def dJ (s : Bs) : Option Int :=
 if s = [48] then some 0 else
 match dP s with
 | [h, m] => (num 1 2 h).bind fun a => (kS m).map fun b => 3600 * a + 60 * b
 | [h, m, t] => (num 1 2 h).bind fun a => (kS m).bind fun b => (kS t).map fun c => 3600 * a + 60 * b + c
 | _ => none
def nk (none_ : Int) (c : UInt8) : Int := if c = 117 then 3 else if c = 115 then 2 else if c = 119 then 1 else none_
def iC (none_ : Int) (s : Bs) : Option (Int × Int) :=
 match s.getLast? with
 | none => none
 | some c => if fZ c = true then (dJ s).map fun n => (n, none_)
   else if c = 117 ∨ c = 115 ∨ c = 119 then (dJ s.dropLast).map fun n => (n, nk none_ c) else none
def only : Bs := [111, 110, 108, 121]
def Ba : Bs := [109, 97, 120]
def toO (from_ : Int) (s : Bs) : Option Int := if s = only then some from_ else if s = Ba then some 2100 else num 4 4 s
def jL (s : Bs) : Option Bs := if s = [45] then some [] else if s ≠ [] ∧ dS s = true then some s else none
def kM (s : Bs) : Option Bs := if bF s = true then some s else none
def mf (s : Bs) : Option Int := if s.head? = some 45 then (dJ s.tail).map fun n => -n else dJ s
def l7 (s : Bs) : Option (Bs × Int) :=
 if s = [45] then some ([], 0)
 else if (match s with | [] => false | c :: _ => fZ c) = true then (if s = [48] then none else (dJ s).map fun n => ([], n))
 else if bF s = true then some (s, 0) else none
def lQ (s : Bs) : Option Bs := if dw s = true then some s else none
def qJ : List Bs → Option (Rl × List Bs)
 | a :: b :: c :: d :: e :: f :: g :: h :: rest =>
   (kM a).bind fun name => (num 4 4 b).bind fun frm => (toO frm c).bind fun to => (dA d).bind fun month => (mI e).bind fun fm =>
   (iC 1 f).bind fun ac => (dJ g).bind fun save => (jL h).map fun letter => (⟨name, frm, to, month, fm.kind, fm.wk, fm.n, ac.1, ac.2, save, letter⟩, rest)
 | _ => none
def pu : List Bs → Option (Er × List Bs)
 | a :: b :: c :: rest =>
   (mf a).bind fun shift => (l7 b).bind fun rs => (lQ c).bind fun format =>
   match rest with
   | [] => some (⟨shift, rs.1, rs.2, format, true, 0, 0, 0, 0, 0⟩, [])
   | y :: m :: d :: t :: more =>
     (num 4 4 y).bind fun uy => (dA m).bind fun um => (num 1 2 d).bind fun ud => (iC 2 t).bind fun ac =>
     if ac.2 = 1 then none else some (⟨shift, rs.1, rs.2, format, false, uy, um, ud, ac.1, ac.2⟩, more)
   | _ => none
 | _ => none
def yc : List Bs → Option (Lk × List Bs)
 | a :: b :: rest => (kM a).bind fun to => (kM b).map fun name => (⟨to, name⟩, rest)
 | _ => none
/- what lines say, one behind the other -/
structure St where
 src : Sr
 must : Bool
def qZ (x : Er) : List Zn → List Zn
 | [] => []
 | [z] => [⟨z.name, z.eras ++ [x]⟩]
 | z :: y :: r => z :: qZ x (y :: r)
def qK : Bs := [82, 117, 108, 101]
def qY : Bs := [90, 111, 110, 101]
def qz : Bs := [76, 105, 110, 107]
def whole {α : Type} : Option (α × List Bs) → Option α
 | some (a, []) => some a
 | _ => none
def wM : List Bs → Option ((Bs × Er) × List Bs)
 | n :: fs => (kM n).bind fun name => (pu fs).map fun p => ((name, p.1), p.2)
 | [] => none
def o5 (st : Sr) : List Bs → Option St
 | [] => none
 | w :: fs =>
   if w = qK then (whole (qJ fs)).map fun r => ⟨⟨st.rules ++ [r], st.zones, st.links⟩, false⟩
   else if w = qY then (whole (wM fs)).map fun p => ⟨⟨st.rules, st.zones ++ [⟨p.1, [p.2]⟩], st.links⟩, !p.2.opn⟩
   else if w = qz then (whole (yc fs)).map fun l => ⟨⟨st.rules, st.zones, st.links ++ [l]⟩, false⟩
   else none
def iJ (st : St) (l : Tx.Ln) : Option St :=
 if l.inner ≠ st.must then none
 else if st.must = true then (whole (pu l.fields)).map fun x => ⟨⟨st.src.rules, qZ x st.src.zones, st.src.links⟩, !x.opn⟩
 else o5 st.src l.fields
def gT : St → List Tx.Ln → Except Int St
 | st, [] => .ok st
 | st, l :: ls => match iJ st l with
   | none => .error l.number
   | some st' => gT st' ls
structure Pr where
 src : Sr
 number : Int
 err : Int
def gm : Sr := ⟨[], [], []⟩
def parse (s : Bs) : Pr :=
 if (Tx.split s).err ≠ 0 then ⟨gm, (Tx.split s).number, (Tx.split s).err⟩ else
 match gT ⟨gm, false⟩ (Tx.split s).lines with
 | .error n => ⟨gm, n, 1⟩
 | .ok st => if st.must = true then ⟨gm, 0, 1⟩ else if fB st.src ≠ 0 then ⟨gm, 0, fB st.src⟩ else ⟨st.src, 0, 0⟩
end Sx
section
open Go.RowKit

theorem I8 (c : UInt8) : Sx.gB c = (decide ((97 : Int) ≤ (c.toNat : Int) ∧ (c.toNat : Int) ≤ 122) || decide ((65 : Int) ≤ (c.toNat : Int) ∧ (c.toNat : Int) ≤ 90)) := by
 simp only [Sx.gB]
 have e1 : decide (97 ≤ c.toNat ∧ c.toNat ≤ 122) = decide ((97 : Int) ≤ (c.toNat : Int) ∧ (c.toNat : Int) ≤ 122) := decide_eq_decide.2 (by omega)
 have e2 : decide (65 ≤ c.toNat ∧ c.toNat ≤ 90) = decide ((65 : Int) ≤ (c.toNat : Int) ∧ (c.toNat : Int) ≤ 90) := decide_eq_decide.2 (by omega)
 rw [e1, e2]
theorem CP (c : UInt8) : Sx.fZ c = decide ((48 : Int) ≤ (c.toNat : Int) ∧ (c.toNat : Int) ≤ 57) := by
 simp only [Sx.fZ]
 exact decide_eq_decide.2 (by omega)
theorem av (n a b : Int) (w : World) {r : Bool} (h : decide (a ≤ n ∧ n ≤ b) = r) :
  Calls Tryz.prog 77 #[.int .i64 n, .int .i64 a, .int .i64 b] w fun e w' => e = .returned (.bool r) ∧ w' = w := by
 subst h; exact kG n a b w

theorem Bz (c : UInt8) (w : World) :
  Calls Tryz.prog 165 #[.int .u8 (c.toNat : Int)] w fun e w' => e = .returned (.bool (Sx.gB c)) ∧ w' = w := by
 have hh : Hid (Sx.gB c = (decide ((97 : Int) ≤ (c.toNat : Int) ∧ (c.toNat : Int) ≤ 122) || decide ((65 : Int) ≤ (c.toNat : Int) ∧ (c.toNat : Int) ≤ 90))) := I8 c
 have hb : (c.toNat : Int) < 256 := by have := c.toNat_lt; omega
 have hb0 : 0 ≤ (c.toNat : Int) := by omega
 generalize (c.toNat : Int) = n at *
 by_cases h1 : 97 ≤ n ∧ n ≤ 122 <;> by_cases h2 : 65 ≤ n ∧ n ≤ 90
 all_goals
  go_enter Tryz.func165, Tryz.ntmps165
  go_wp2_with (go_at_call 77; refine (kG _ _ _ _).mono ?_; rintro e w1 ⟨rfl, rfl⟩; simp only [h1, h2])
  go_ret
  exact ⟨aC (by rw [hh.out]; simp [h1, h2]), rfl⟩
theorem dh (c : UInt8) (w : World) {b : Bool} (h : Sx.gB c = b) :
  Calls Tryz.prog 165 #[.int .u8 (c.toNat : Int)] w fun e w' => e = .returned (.bool b) ∧ w' = w := by subst h; exact Bz c w
theorem DN (c : UInt8) (w : World) :
  Calls Tryz.prog 166 #[.int .u8 (c.toNat : Int)] w fun e w' => e = .returned (.bool (Sx.fZ c)) ∧ w' = w := by
 have hh : Hid (Sx.fZ c = decide ((48 : Int) ≤ (c.toNat : Int) ∧ (c.toNat : Int) ≤ 57)) := CP c
 have hb : (c.toNat : Int) < 256 := by have := c.toNat_lt; omega
 have hb0 : 0 ≤ (c.toNat : Int) := by omega
 generalize (c.toNat : Int) = n at *
 by_cases h1 : 48 ≤ n ∧ n ≤ 57
 all_goals
  go_enter Tryz.func166, Tryz.ntmps166
  go_wp2_with (go_at_call 77; refine (kG _ _ _ _).mono ?_; rintro e w1 ⟨rfl, rfl⟩; simp only [h1])
  go_ret
  exact ⟨aC (by rw [hh.out]; simp [h1]), rfl⟩
theorem bZ (c : UInt8) (w : World) {b : Bool} (h : Sx.fZ c = b) :
  Calls Tryz.prog 166 #[.int .u8 (c.toNat : Int)] w fun e w' => e = .returned (.bool b) ∧ w' = w := by subst h; exact DN c w
end
section
open Go.RowKit

theorem Bd (s : ByteArray) (h : 0 < s.size) : Sx.EG s.data.toList = Sx.gB s[0] := by
 have := fq s 0 h
 simp at this; rw [this]; rfl
theorem Di (s : ByteArray) (w : World) :
  Calls Tryz.prog 120 #[.string s] w fun e w' => e = .returned (.bool (Sx.bF s.data.toList)) ∧ w' = w := by
 obtain ⟨G, hG⟩ : ∃ G, Sx.bF s.data.toList = G := ⟨_, rfl⟩
 rw [hG]
 have HG : Hid (G = (Sx.EG s.data.toList && decide (s.size ≤ 24) && s.data.toList.all Sx.jl)) := by show _ = _; rw [← hG, ← kC]; rfl
 clear hG
 by_cases h0 : s.size = 0
 ·have he : s.data.toList = [] := by rw [← List.length_eq_zero_iff]; simpa using h0
  have hG : G = false := by rw [HG.out, he]; rfl
  have he' : s.toList.isEmpty = true := by rw [lV]; simp [h0]
  subst hG
  clear he
  go_enter Tryz.func120, Tryz.ntmps120
  go_wp2_with fail
  go_ret
  exact ⟨rfl, rfl⟩
 have he : s.toList.isEmpty = false := by rw [lV]; simp [h0]
 have hp : 0 < s.size := by omega
 clear h0
 by_cases h24 : 24 < s.size
 ·have hG : G = false := by rw [HG.out]; simp; omega
  subst hG
  go_enter Tryz.func120, Tryz.ntmps120
  go_wp2_with fail
  go_ret
  exact ⟨rfl, rfl⟩
 have h24' : s.size ≤ 24 := by omega
 clear h24
 have HF := hid (Bd s hp)
 cases hl : Sx.gB s[0]
 ·have hG : G = false := by rw [HG.out, HF.out, hl]; rfl
  have HL := hid hl
  subst hG
  clear hl
  go_enter Tryz.func120, Tryz.ntmps120
  go_wp2_with (go_at_call 165; refine (dh _ _ HL.out).mono ?_; rintro e w1 ⟨rfl, rfl⟩)
  go_ret
  exact ⟨rfl, rfl⟩
 have HL := hid hl
 have HG2 : Hid (G = s.data.toList.all Sx.jl) := by show _ = _; rw [HG.out, HF.out, hl]; simp [h24']
 clear hl HG HF
 go_enter Tryz.func120, Tryz.ntmps120
 go_wp2_with (go_at_call 165; refine (dh _ _ HL.out).mono ?_; rintro e w1 ⟨rfl, rfl⟩)
 go_loop [3] (fun a => ∃ k : Nat, k ≤ s.size ∧ a = .int .i64 k ∧ Hid ((s.data.toList.take k).all Sx.jl = true)) (fun a => s.size - (intOf a).toNat)
 case atStart => exact ⟨0, by omega, rfl, by show _ = _; simp⟩
 case round =>
  obtain ⟨k, hk, rfl, HA⟩ := hrel
  clear HL
  by_cases hlt : k < s.size
  ·obtain ⟨c, hc⟩ : ∃ c, s[k] = c := ⟨_, rfl⟩
   have HN : Hid (Sx.jl c = (Sx.gB c || Sx.fZ c || c == 95 || c == 45 || c == 47 || c == 43)) := rfl
   have HC := hid hc
   cases h1 : Sx.gB c
   case true =>
    have H1 := hid h1
    clear h1
    go_wp2_with (go_at_call 165; refine (dh _ _ H1.out).mono ?_; rintro e w1 ⟨rfl, rfl⟩)
    go_round
    case rel => exact ⟨k + 1, by omega, by go_num, gy s _ k hlt HA.out (by rw [HC.out, HN.out, H1.out]; rfl)⟩
    case measure => simp [intOf]; omega
   case false =>
    have H1 := hid h1
    clear h1
    cases h2 : Sx.fZ c
    case true =>
     have H2 := hid h2
     clear h2
     go_wp2_with (first | (go_at_call 165; refine (dh _ _ H1.out).mono ?_; rintro e w1 ⟨rfl, rfl⟩) | (go_at_call 166; refine (bZ _ _ H2.out).mono ?_; rintro e w1 ⟨rfl, rfl⟩))
     go_round
     case rel => exact ⟨k + 1, by omega, by go_num, gy s _ k hlt HA.out (by rw [HC.out, HN.out, H1.out, H2.out]; rfl)⟩
     case measure => simp [intOf]; omega
    case false =>
     have H2 := hid h2
     clear h2
     cases h3 : (c == 95)
     case true =>
      have e3 : ((c.toNat : Int) != 95) = false := kN h3
      have H3 := hid h3
      clear h3
      go_wp2_with (first | (go_at_call 165; refine (dh _ _ H1.out).mono ?_; rintro e w1 ⟨rfl, rfl⟩) | (go_at_call 166; refine (bZ _ _ H2.out).mono ?_; rintro e w1 ⟨rfl, rfl⟩))
      go_round
      case rel => exact ⟨k + 1, by omega, by go_num, gy s _ k hlt HA.out (by rw [HC.out, HN.out, H1.out, H2.out, H3.out]; simp)⟩
      case measure => simp [intOf]; omega
     case false =>
      have e3 : ((c.toNat : Int) != 95) = true := kN h3
      have H3 := hid h3
      clear h3
      cases h4 : (c == 45)
      case true =>
       have e4 : ((c.toNat : Int) != 45) = false := kN h4
       have H4 := hid h4
       clear h4
       go_wp2_with (first | (go_at_call 165; refine (dh _ _ H1.out).mono ?_; rintro e w1 ⟨rfl, rfl⟩) | (go_at_call 166; refine (bZ _ _ H2.out).mono ?_; rintro e w1 ⟨rfl, rfl⟩))
       go_round
       case rel => exact ⟨k + 1, by omega, by go_num, gy s _ k hlt HA.out (by rw [HC.out, HN.out, H1.out, H2.out, H3.out, H4.out]; simp)⟩
       case measure => simp [intOf]; omega
      case false =>
       have e4 : ((c.toNat : Int) != 45) = true := kN h4
       have H4 := hid h4
       clear h4
       cases h5 : (c == 47)
       case true =>
        have e5 : ((c.toNat : Int) != 47) = false := kN h5
        have H5 := hid h5
        clear h5
        go_wp2_with (first | (go_at_call 165; refine (dh _ _ H1.out).mono ?_; rintro e w1 ⟨rfl, rfl⟩) | (go_at_call 166; refine (bZ _ _ H2.out).mono ?_; rintro e w1 ⟨rfl, rfl⟩))
        go_round
        case rel => exact ⟨k + 1, by omega, by go_num, gy s _ k hlt HA.out (by rw [HC.out, HN.out, H1.out, H2.out, H3.out, H4.out, H5.out]; simp)⟩
        case measure => simp [intOf]; omega
       case false =>
        have e5 : ((c.toNat : Int) != 47) = true := kN h5
        have H5 := hid h5
        clear h5
        cases h6 : (c == 43)
        case true =>
         have e6 : ((c.toNat : Int) != 43) = false := kN h6
         have H6 := hid h6
         clear h6
         go_wp2_with (first | (go_at_call 165; refine (dh _ _ H1.out).mono ?_; rintro e w1 ⟨rfl, rfl⟩) | (go_at_call 166; refine (bZ _ _ H2.out).mono ?_; rintro e w1 ⟨rfl, rfl⟩))
         go_round
         case rel => exact ⟨k + 1, by omega, by go_num, gy s _ k hlt HA.out (by rw [HC.out, HN.out, H1.out, H2.out, H3.out, H4.out, H5.out, H6.out]; simp)⟩
         case measure => simp [intOf]; omega
        case false =>
         have e6 : ((c.toNat : Int) != 43) = true := kN h6
         have H6 := hid h6
         clear h6
         go_wp2_with (first | (go_at_call 165; refine (dh _ _ H1.out).mono ?_; rintro e w1 ⟨rfl, rfl⟩) | (go_at_call 166; refine (bZ _ _ H2.out).mono ?_; rintro e w1 ⟨rfl, rfl⟩))
         go_ret
         exact ⟨aC (by rw [HG2.out]; exact (rq s _ k hlt (by rw [HC.out, HN.out, H1.out, H2.out, H3.out, H4.out, H5.out, H6.out]; rfl)).symm), rfl⟩
  ·go_wp2
   go_ret
   exact ⟨aC (by rw [HG2.out]; exact (nS s _ k (by omega) HA.out).symm), rfl⟩
end
section
open Go.RowKit

theorem zI (s : ByteArray) (w : World) (hs : s.size ≤ maxLen) :
  Calls Tryz.prog 164 #[.string s] w fun e w' => e = .returned (.bool (Sx.dS s.data.toList)) ∧ w' = w := by
 unfold maxLen at hs
 have HG : Hid (Sx.dS s.data.toList = (s.data.toList.all Sx.gB && decide (s.size ≤ 24))) := by show _ = _; rw [Sx.dS, kC]
 go_enter Tryz.func164, Tryz.ntmps164
 go_wp2_with fail
 go_loop [3] (fun a => ∃ k : Nat, k ≤ s.size ∧ a = .int .i64 k ∧ Hid ((s.data.toList.take k).all Sx.gB = true)) (fun a => s.size - (intOf a).toNat)
 case atStart => exact ⟨0, by omega, rfl, by show _ = _; simp⟩
 case round =>
  obtain ⟨k, hk, rfl, HA⟩ := hrel
  by_cases hlt : k < s.size
  ·cases h1 : Sx.gB s[k]
   all_goals
    have H1 := hid h1
    clear h1
    go_wp2_with (go_at_call 165; refine (dh _ _ H1.out).mono ?_; rintro e w1 ⟨rfl, rfl⟩)
   ·go_ret
    exact ⟨aC (by rw [HG.out, rq s _ k hlt H1.out]; rfl), rfl⟩
   ·go_round
    case rel => exact ⟨k + 1, by omega, by go_num, gy s _ k hlt HA.out H1.out⟩
    case measure => simp [intOf]; omega
  ·by_cases h24 : s.size ≤ 24
   all_goals
    go_wp2
    go_ret
    exact ⟨aC (by rw [HG.out, nS s _ k (by omega) HA.out]; simp [h24]; try omega), rfl⟩
theorem tC (s : ByteArray) (w : World) (hs : s.size ≤ maxLen) {b : Bool} (h : Sx.dS s.data.toList = b) :
  Calls Tryz.prog 164 #[.string s] w fun e w' => e = .returned (.bool b) ∧ w' = w := by subst h; exact zI s w hs
theorem FY (s : ByteArray) (w : World) {b : Bool} (h : Sx.bF s.data.toList = b) :
  Calls Tryz.prog 120 #[.string s] w fun e w' => e = .returned (.bool b) ∧ w' = w := by subst h; exact Di s w

/- IsPlain is asked of one sign alone -/
theorem zi (s : ByteArray) (c : UInt8) (w : World) (hs : s.size = 1) (hc : s.data.toList = [c]) :
  Calls Tryz.prog 138 #[.string s] w fun e w' => e = .returned (.bool (Sx.dV c)) ∧ w' = w := by
 have h0 : s[0] = c := by
  have := fq s 0 (by omega)
  simp [hc] at this; exact this.symm
 have HP : Hid (Sx.dV c = (Sx.gB c || Sx.fZ c || c == 43 || c == 45)) := rfl
 clear hc
 go_enter Tryz.func138, Tryz.ntmps138
 go_wp2_with fail
 go_loop [3] (fun a => ∃ k : Nat, k ≤ 1 ∧ a = .int .i64 k ∧ Hid (k = 1 → Sx.dV c = true)) (fun a => 1 - (intOf a).toNat)
 case atStart => exact ⟨0, by omega, rfl, by intro q; cases q⟩
 case round =>
  obtain ⟨k, hk, rfl, HA⟩ := hrel
  by_cases hlt : k = 0
  ·subst hlt
   cases h1 : Sx.gB c
   case true =>
    have H1 := hid h1
    clear h1
    go_wp2_with (go_at_call 165; refine (dh _ _ H1.out).mono ?_; rintro e w1 ⟨rfl, rfl⟩)
    go_round
    case rel => exact ⟨1, by omega, by go_num, fun _ => by rw [HP.out, H1.out]; rfl⟩
    case measure => simp [intOf]
   case false =>
    have H1 := hid h1
    clear h1
    cases h2 : Sx.fZ c
    case true =>
     have H2 := hid h2
     clear h2
     go_wp2_with (first | (go_at_call 165; refine (dh _ _ H1.out).mono ?_; rintro e w1 ⟨rfl, rfl⟩) | (go_at_call 166; refine (bZ _ _ H2.out).mono ?_; rintro e w1 ⟨rfl, rfl⟩))
     go_round
     case rel => exact ⟨1, by omega, by go_num, fun _ => by rw [HP.out, H1.out, H2.out]; rfl⟩
     case measure => simp [intOf]
    case false =>
     have H2 := hid h2
     clear h2
     cases h3 : (c == 43)
     case true =>
      have e3 : ((c.toNat : Int) != 43) = false := kN h3
      have H3 := hid h3
      clear h3
      go_wp2_with (first | (go_at_call 165; refine (dh _ _ H1.out).mono ?_; rintro e w1 ⟨rfl, rfl⟩) | (go_at_call 166; refine (bZ _ _ H2.out).mono ?_; rintro e w1 ⟨rfl, rfl⟩))
      go_round
      case rel => exact ⟨1, by omega, by go_num, fun _ => by rw [HP.out, H1.out, H2.out, H3.out]; rfl⟩
      case measure => simp [intOf]
     case false =>
      have e3 : ((c.toNat : Int) != 43) = true := kN h3
      have H3 := hid h3
      clear h3
      cases h4 : (c == 45)
      case true =>
       have e4 : ((c.toNat : Int) != 45) = false := kN h4
       have H4 := hid h4
       clear h4
       go_wp2_with (first | (go_at_call 165; refine (dh _ _ H1.out).mono ?_; rintro e w1 ⟨rfl, rfl⟩) | (go_at_call 166; refine (bZ _ _ H2.out).mono ?_; rintro e w1 ⟨rfl, rfl⟩))
       go_round
       case rel => exact ⟨1, by omega, by go_num, fun _ => by rw [HP.out, H1.out, H2.out, H3.out, H4.out]; rfl⟩
       case measure => simp [intOf]
      case false =>
       have e4 : ((c.toNat : Int) != 45) = true := kN h4
       have H4 := hid h4
       clear h4
       go_wp2_with (first | (go_at_call 165; refine (dh _ _ H1.out).mono ?_; rintro e w1 ⟨rfl, rfl⟩) | (go_at_call 166; refine (bZ _ _ H2.out).mono ?_; rintro e w1 ⟨rfl, rfl⟩))
       go_ret
       exact ⟨aC (by rw [HP.out, H1.out, H2.out, H3.out, H4.out]; rfl), rfl⟩
  ·have hk1 : k = 1 := by omega
   subst hk1
   go_wp2
   go_ret
   exact ⟨aC (HA.out trivial).symm, rfl⟩
theorem sP (s : ByteArray) (c : UInt8) (w : World) (hs : s.size = 1) (hc : s.data.toList = [c]) {b : Bool} (h : Sx.dV c = b) :
  Calls Tryz.prog 138 #[.string s] w fun e w' => e = .returned (.bool b) ∧ w' = w := by subst h; exact zi s c w hs hc

/- threes -/
theorem nK (s : Tx.Bs) (k : Nat) (l : Tx.Bs) (h : l.length < 3) : Sx.th s k l = -1 := by
 match l, h with
 | [], _ => rfl
 | [a], _ => rfl
 | [a, b], _ => rfl
theorem zY (s : Tx.Bs) (k : Nat) (l : Tx.Bs) (h : 3 ≤ l.length) : Sx.th s k l = if l.take 3 = s then (k : Int) else Sx.th s (k + 1) (l.drop 3) := by
 match l, h with
 | a :: b :: c :: r, _ => simp [Sx.th]
theorem JD (s : Tx.Bs) (hs : s.length ≠ 3) : ∀ (n k : Nat) (l : Tx.Bs), l.length ≤ n → Sx.th s k l = -1
 | 0, k, l, h => nK s k l (by omega)
 | n + 1, k, l, h => by
   by_cases h3 : l.length < 3
   ·exact nK s k l h3
   ·rw [zY s k l (by omega), if_neg (by intro q; apply hs; rw [← q]; simp; omega)]
    exact JD s hs n (k + 1) (l.drop 3) (by simp; omega)
theorem JC (s : Tx.Bs) : ∀ (n k : Nat) (l : Tx.Bs), l.length ≤ n → -1 ≤ Sx.th s k l ∧ Sx.th s k l ≤ k + n
 | 0, k, l, h => by rw [nK s k l (by omega)]; omega
 | n + 1, k, l, h => by
   by_cases h3 : l.length < 3
   ·rw [nK s k l h3]; omega
   ·rw [zY s k l (by omega)]
    have := JC s n (k + 1) (l.drop 3) (by simp; omega)
    split <;> omega
theorem AL (all : ByteArray) (i : Nat) : (all.extract i (i + 3)).data.toList = (all.data.toList.drop i).take 3 := by
 rw [Lib.extract_data, show i + 3 - i = 3 by omega]

theorem wC (all s : ByteArray) (w : World) (ha : all.size ≤ 100) (hs : s.size ≤ maxLen) :
  Calls Tryz.prog 208 #[.string all, .string s] w fun e w' => e = .returned (.int .i64 (Sx.th s.data.toList 0 all.data.toList)) ∧ w' = w := by
 unfold maxLen at hs
 obtain ⟨G, hG⟩ : ∃ G, Sx.th s.data.toList 0 all.data.toList = G := ⟨_, rfl⟩
 rw [hG]
 have HG := hid hG
 clear hG
 go_enter Tryz.func208, Tryz.ntmps208
 go_wp2_with fail
 go_loop [5] (fun a => ∃ k : Nat, 3 * k ≤ all.size ∧ a = .int .i64 ((3 * k : Nat) : Int) ∧ Hid (Sx.th s.data.toList k (all.data.toList.drop (3 * k)) = G)) (fun a => all.size - (intOf a).toNat)
 case atStart => exact ⟨0, by omega, rfl, by show _ = _; simpa using HG.out⟩
 case round =>
  obtain ⟨k, hk, rfl, HA⟩ := hrel
  clear HG
  by_cases h3 : 3 * k + 3 ≤ all.size
  ·by_cases hl : s.size = 3
   ·have ST := hid (zY s.data.toList k (all.data.toList.drop (3 * k)) (by simp; omega))
    by_cases he : (all.data.toList.drop (3 * k)).take 3 = s.data.toList
    ·have hq : ((all.extract (3 * k) (3 * k + 3)).toList == s.toList) = true := by
      rw [Lib.toList_data, Lib.toList_data, AL, he]; simp
     have HR : Hid ((k : Int) = G) := by show _ = _; rw [← HA.out, ST.out, if_pos he]
     clear he HA ST
     go_wp2
     go_ret
     exact ⟨ay (by rw [← HR.out]), rfl⟩
    ·have hq : ((all.extract (3 * k) (3 * k + 3)).toList == s.toList) = false := by
      rw [Lib.toList_data, Lib.toList_data, AL]; simpa using he
     have HR : Hid (Sx.th s.data.toList (k + 1) (all.data.toList.drop (3 * (k + 1))) = G) := by
      show _ = _; rw [← HA.out, ST.out, if_neg he, List.drop_drop]; rfl
     clear he HA ST
     go_wp2
     go_round
     case rel => exact ⟨k + 1, by omega, by go_num, HR⟩
     case measure => simp [intOf]; try omega
   ·have HR : Hid (G = -1) := by show _ = _; rw [← HA.out]; exact JD _ (by simpa using hl) _ _ _ (Nat.le_refl _)
    have hl' : ((s.size : Int) == 3) = false := by simp; omega
    clear HA hl
    go_wp2
    go_ret
    exact ⟨ay HR.out.symm, rfl⟩
  ·have HR : Hid (G = -1) := by show _ = _; rw [← HA.out]; exact nK _ _ _ (by simp; omega)
   clear HA
   go_wp2
   go_ret
   exact ⟨ay HR.out.symm, rfl⟩
end
section
open Go.RowKit

def pU (m : Nat) (o : Option Nat) : Option Nat := o.map (· + m)
theorem Fq (o : Option Nat) : pU 0 o = o := by cases o <;> simp [pU]
theorem qj (f : Bool) (r : Tx.Bs) (h : f = true ∨ r = []) : Sx.dN f (47 :: r) = none := by simp only [Sx.dN, if_true]; rw [if_pos h]
theorem FK (f : Bool) (r : Tx.Bs) (m : Nat) (h : ¬ (f = true ∨ r = [])) : pU m (Sx.dN f (47 :: r)) = pU (m + 1) (Sx.dN false r) := by
 simp only [Sx.dN, if_true]; rw [if_neg h]; cases Sx.dN false r <;> simp [pU]; omega
theorem sH (f : Bool) (r : Tx.Bs) (h : r.head? ≠ some 115) : Sx.dN f (37 :: r) = none := by simp only [Sx.dN]; rw [if_neg (by decide), if_pos trivial, if_neg h]
theorem Iu (f : Bool) (r : Tx.Bs) (m : Nat) (h : r.head? = some 115) : pU m (Sx.dN f (37 :: r)) = pU (m + 1) (Sx.dN false r) := by
 simp only [Sx.dN]; rw [if_neg (by decide), if_pos trivial, if_pos h]; cases Sx.dN false r <;> simp [pU]; omega
theorem FJ (f : Bool) (c : UInt8) (r : Tx.Bs) (h1 : c ≠ 47) (h2 : c ≠ 37) (h : Sx.dV c = true) : Sx.dN f (c :: r) = Sx.dN false r := by
 simp only [Sx.dN]; rw [if_neg h1, if_neg h2, if_pos h]
theorem FI (f : Bool) (c : UInt8) (r : Tx.Bs) (h1 : c ≠ 47) (h2 : c ≠ 37) (h : Sx.dV c = false) : Sx.dN f (c :: r) = none := by
 simp only [Sx.dN]; rw [if_neg h1, if_neg h2, if_neg (by simp [h])]
theorem AJ (s : ByteArray) (i : Nat) (h : i < s.size) : (s.extract i (i + 1)).data.toList = [s[i]] := by
 rw [Lib.extract_data, show i + 1 - i = 1 by omega, fq s i h]; rfl
theorem wU (s : ByteArray) (i : Nat) (h : i < s.size) : (s.extract i (i + 1)).size = 1 := by
 rw [← kC, AJ s i h]; rfl
theorem FP (s : Tx.Bs) (h : Sx.dN true s = none) : Sx.dw s = false := by simp [Sx.dw, h, Sx.few]

theorem zf (s : ByteArray) (w : World) (hs : s.size ≤ maxLen) :
  Calls Tryz.prog 167 #[.string s] w fun e w' => e = .returned (.bool (Sx.dw s.data.toList)) ∧ w' = w := by
 unfold maxLen at hs
 obtain ⟨G, hG⟩ : ∃ G, Sx.dw s.data.toList = G := ⟨_, rfl⟩
 rw [hG]
 have NO : Hid (Sx.dN true s.data.toList = none → false = G) := by intro h; rw [← hG, FP _ h]
 have HG : Hid ((!s.data.toList.isEmpty && decide (s.size ≤ 24) && Sx.few (Sx.dN true s.data.toList)) = G) := by show _ = _; rw [← hG, ← kC]; rfl
 clear hG
 go_enter Tryz.func167, Tryz.ntmps167
 go_wp2_with fail
 go_loop [3, 4] (fun m a => ∃ k j : Nat, k ≤ s.size ∧ j ≤ k ∧ m = .int .i64 j ∧ a = .int .i64 k ∧ Hid (pU j (Sx.dN (decide (k = 0)) (s.data.toList.drop k)) = Sx.dN true s.data.toList)) (fun _ a => s.size - (intOf a).toNat)
 case atStart => exact ⟨0, 0, by omega, by omega, rfl, rfl, by show _ = _; rw [Fq]; rfl⟩
 case round =>
  obtain ⟨k, j, hk, hj, rfl, rfl, HA⟩ := hrel
  by_cases hlt : k < s.size
  ·obtain ⟨c, hc⟩ : ∃ c, s[k] = c := ⟨_, rfl⟩
   have HA1 : Hid (pU j (Sx.dN (decide (k = 0)) (c :: s.data.toList.drop (k + 1))) = Sx.dN true s.data.toList) := by
    show _ = _; rw [← HA.out, fq s k hlt, hc]
   have HX := hid (AJ s k hlt)
   rw [hc] at HX
   have hx1 := wU s k hlt
   clear HA
   by_cases c47 : c = 47
   ·have e47 : ((c.toNat : Int) == 47) = true := by rw [c47]; rfl
    have HC := hid c47
    clear c47
    by_cases hz : k = 0
    ·have N2 := hid (NO.out (by rw [← HA1.out, HC.out, qj _ _ (.inl (by simp [hz]))]; rfl))
     subst hz
     clear HA1
     go_wp2
     go_ret
     exact ⟨aC N2.out, rfl⟩
    ·by_cases hl : k + 1 = s.size
     ·have N2 := hid (NO.out (by rw [← HA1.out, HC.out, qj _ _ (.inr (jY s _ (by omega)))]; rfl))
      have e1 : ((k : Int) == 0) = false := by simp; omega
      have e2 : ((k : Int) == (s.size : Int) - 1) = true := by simp; omega
      clear HA1 hz hl
      go_wp2
      go_ret
      exact ⟨aC N2.out, rfl⟩
     ·have HR : Hid (pU (j + 1) (Sx.dN (decide (k + 1 = 0)) (s.data.toList.drop (k + 1))) = Sx.dN true s.data.toList) := by
       show _ = _
       rw [← HA1.out, HC.out, FK _ _ _ (by
        rintro (q | q)
        ·simp at q; exact hz q
        ·have := congrArg List.length q; simp at this; omega)]
       rw [show decide (k + 1 = 0) = false by simp]
      have e1 : ((k : Int) == 0) = false := by simp; omega
      have e2 : ((k : Int) == (s.size : Int) - 1) = false := by simp; omega
      clear HA1 hz
      go_wp2
      go_round
      case rel => exact ⟨k + 1, j + 1, by omega, by omega, by go_num, by go_num, HR⟩
      case measure => simp [intOf]; omega
   have C47 := hid c47
   have e47 : ((c.toNat : Int) == 47) = false := by have := gH c 47; simp at this; simp [this, c47]
   clear c47
   by_cases c37 : c = 37
   ·have e37 : ((c.toNat : Int) == 37) = true := by rw [c37]; rfl
    have HC := hid c37
    clear c37
    by_cases hl : k + 1 = s.size
    ·have N2 := hid (NO.out (by rw [← HA1.out, HC.out, sH _ _ (by rw [jY s _ (by omega)]; simp)]; rfl))
     have e2 : ((k : Int) == (s.size : Int) - 1) = true := by simp; omega
     clear HA1 hl
     go_wp2
     go_ret
     exact ⟨aC N2.out, rfl⟩
    ·have hn : k + 1 < s.size := by omega
     have e2 : ((k : Int) == (s.size : Int) - 1) = false := by simp; omega
     obtain ⟨d, hd⟩ : ∃ d, s[k + 1] = d := ⟨_, rfl⟩
     have HD : Hid ((s.data.toList.drop (k + 1)).head? = some d) := by show _ = _; rw [fq s (k + 1) hn, hd]; rfl
     by_cases d115 : d = 115
     ·have e3 : ((d.toNat : Int) != 115) = false := by rw [d115]; rfl
      have HR : Hid (pU (j + 1) (Sx.dN (decide (k + 1 = 0)) (s.data.toList.drop (k + 1))) = Sx.dN true s.data.toList) := by
       show _ = _
       rw [← HA1.out, HC.out, Iu _ _ _ (by rw [HD.out, d115])]
       rw [show decide (k + 1 = 0) = false by simp]
      clear HA1 d115
      go_wp2
      go_round
      case rel => exact ⟨k + 1, j + 1, by omega, by omega, by go_num, by go_num, HR⟩
      case measure => simp [intOf]; omega
     ·have e3 : ((d.toNat : Int) != 115) = true := by have := gH d 115; simp at this; simp [bne, this, d115]
      have N2 := hid (NO.out (by rw [← HA1.out, HC.out, sH _ _ (by rw [HD.out]; simpa using d115)]; rfl))
      clear HA1 d115
      go_wp2
      go_ret
      exact ⟨aC N2.out, rfl⟩
   have C37 := hid c37
   have e37 : ((c.toNat : Int) == 37) = false := by have := gH c 37; simp at this; simp [this, c37]
   clear c37
   cases hp : Sx.dV c
   ·have N2 := hid (NO.out (by rw [← HA1.out, FI _ _ _ C47.out C37.out hp]; rfl))
    have HP := hid hp
    clear HA1 hp
    go_wp2_with (go_at_call 138; refine (sP _ c _ hx1 HX.out HP.out).mono ?_; rintro e w1 ⟨rfl, rfl⟩)
    go_ret
    exact ⟨aC N2.out, rfl⟩
   ·have HR : Hid (pU j (Sx.dN (decide (k + 1 = 0)) (s.data.toList.drop (k + 1))) = Sx.dN true s.data.toList) := by
     show _ = _
     rw [← HA1.out, FJ _ _ _ C47.out C37.out hp]
     rw [show decide (k + 1 = 0) = false by simp]
    have HP := hid hp
    clear HA1 hp
    go_wp2_with (go_at_call 138; refine (sP _ c _ hx1 HX.out HP.out).mono ?_; rintro e w1 ⟨rfl, rfl⟩)
    go_round
    case rel => exact ⟨k + 1, j, by omega, by omega, rfl, by go_num, HR⟩
    case measure => simp [intOf]; omega
  ·have HE : Hid ((!s.data.toList.isEmpty && decide (s.size ≤ 24) && decide (j ≤ 1)) = G) := by
    show _ = _; rw [← HG.out, ← HA.out, jY s k (by omega)]; simp [Sx.dN, pU, Sx.few]
   have hE : s.toList.isEmpty = s.data.toList.isEmpty := by rw [Lib.toList_data]
   cases he : s.data.toList.isEmpty
   ·rw [he] at hE
    have HE2 := hid he
    clear he HA
    by_cases h24 : s.size ≤ 24 <;> by_cases h1 : j ≤ 1
    all_goals
     go_wp2
     go_ret
     exact ⟨aC (by rw [← HE.out, HE2.out]; simp [h24, h1]; try omega), rfl⟩
   ·rw [he] at hE
    have HE2 := hid he
    clear he HA
    go_wp2
    go_ret
    exact ⟨aC (by rw [← HE.out, HE2.out]; rfl), rfl⟩
theorem sO (s : ByteArray) (w : World) (hs : s.size ≤ maxLen) {b : Bool} (h : Sx.dw s.data.toList = b) :
  Calls Tryz.prog 167 #[.string s] w fun e w' => e = .returned (.bool b) ∧ w' = w := by subst h; exact zf s w hs
end
section
open Go.RowKit

def ah (r : Sx.Rl) : List Value := [ag r.name, .int .i64 r.frm, .int .i64 r.to, .int .i64 r.month, .int .i64 r.kind, .int .i64 r.wk, .int .i64 r.n, .int .i64 r.at_, .int .i64 r.clock, .int .i64 r.save, ag r.letter]
def ax (x : Sx.Er) : List Value := [.int .i64 x.shift, ag x.rules, .int .i64 x.save, ag x.format, .bool x.opn, .int .i64 x.uy, .int .i64 x.um, .int .i64 x.ud, .int .i64 x.uat, .int .i64 x.uclock]
def aH (l : Sx.Lk) : List Value := [ag l.to, ag l.name]
def cB (p : Tx.Bs × Value) : List Value := [ag p.1, p.2]
abbrev nG (r : Sx.Rl) : Value := .agg #[ag r.name, .int .i64 r.frm, .int .i64 r.to, .int .i64 r.month, .int .i64 r.kind, .int .i64 r.wk, .int .i64 r.n, .int .i64 r.at_, .int .i64 r.clock, .int .i64 r.save, ag r.letter]
abbrev gZ (x : Sx.Er) : Value := .agg #[.int .i64 x.shift, ag x.rules, .int .i64 x.save, ag x.format, .bool x.opn, .int .i64 x.uy, .int .i64 x.um, .int .i64 x.ud, .int .i64 x.uat, .int .i64 x.uclock]
abbrev jA (l : Sx.Lk) : Value := .agg #[ag l.to, ag l.name]

def bY := Rd 11 ah
def gQ := Rd 10 ax
def fe := Rd 2 aH
def fE (w : World) (v : Value) (zs : List Sx.Zn) : Prop :=
 ∃ vs : List Value, vs.length = zs.length ∧ Rd 2 cB w v ((zs.zip vs).map fun p => (p.1.name, p.2)) ∧ ∀ (i : Nat) (ev : Value) (x : Sx.Zn), vs[i]? = some ev → zs[i]? = some x → gQ w ev x.eras
structure Hw (w : World) (r z l : Value) (s : Sx.Sr) : Prop where
 rules : bY w r s.rules
 zones : fE w z s.zones
 links : fe w l s.links
theorem dY {W w' : World} {v : Value} {zs : List Sx.Zn} (h : fE W v zs) (hb : Below W.heap.size W w') : fE w' v zs := by
 obtain ⟨vs, h1, h2, h3⟩ := h
 exact ⟨vs, h1, au h2 hb, fun i ev x a b => au (h3 i ev x a b) hb⟩
theorem oV (r : Sx.Rl) : (ah r).length = 11 := rfl
theorem gJ (r : Sx.Er) : (ax r).length = 10 := rfl
theorem oP (r : Sx.Lk) : (aH r).length = 2 := rfl
theorem o6 (r : Tx.Bs × Value) : (cB r).length = 2 := rfl
theorem ic {w : World} {v : Value} {zs : List Sx.Zn} (h : fE w v zs) : ∃ a cap, v = .slice a zs.length cap := by
 obtain ⟨vs, h1, h2, _⟩ := h
 obtain ⟨a, cap, h⟩ := bP h2
 exact ⟨a, cap, by rw [h]; simp [h1]⟩

/- element by element, as the walk reads them -/
section
variable {w : World} {b o i : Nat}
theorem uj {r : Sx.Rl} (h : ∀ k u, (ah r)[k]? = some u → w.cell? ⟨b, o + i * 11 + k, none⟩ = some u) :
  w.cell? ⟨b, o + i * 11, none⟩ = some (ag r.name) ∧ w.cell? ⟨b, o + i * 11 + 1, none⟩ = some (.int .i64 r.frm) ∧ w.cell? ⟨b, o + i * 11 + 2, none⟩ = some (.int .i64 r.to) ∧ w.cell? ⟨b, o + i * 11 + 3, none⟩ = some (.int .i64 r.month) ∧ w.cell? ⟨b, o + i * 11 + 4, none⟩ = some (.int .i64 r.kind) ∧ w.cell? ⟨b, o + i * 11 + 5, none⟩ = some (.int .i64 r.wk) ∧ w.cell? ⟨b, o + i * 11 + 6, none⟩ = some (.int .i64 r.n) ∧ w.cell? ⟨b, o + i * 11 + 7, none⟩ = some (.int .i64 r.at_) ∧ w.cell? ⟨b, o + i * 11 + 8, none⟩ = some (.int .i64 r.clock) ∧ w.cell? ⟨b, o + i * 11 + 9, none⟩ = some (.int .i64 r.save) ∧ w.cell? ⟨b, o + i * 11 + 10, none⟩ = some (ag r.letter) :=
 ⟨h 0 _ rfl, h 1 _ rfl, h 2 _ rfl, h 3 _ rfl, h 4 _ rfl, h 5 _ rfl, h 6 _ rfl, h 7 _ rfl, h 8 _ rfl, h 9 _ rfl, h 10 _ rfl⟩
theorem zJ {x : Sx.Er} (h : ∀ k u, (ax x)[k]? = some u → w.cell? ⟨b, o + i * 10 + k, none⟩ = some u) :
  w.cell? ⟨b, o + i * 10, none⟩ = some (.int .i64 x.shift) ∧ w.cell? ⟨b, o + i * 10 + 1, none⟩ = some (ag x.rules) ∧ w.cell? ⟨b, o + i * 10 + 2, none⟩ = some (.int .i64 x.save) ∧ w.cell? ⟨b, o + i * 10 + 3, none⟩ = some (ag x.format) ∧ w.cell? ⟨b, o + i * 10 + 4, none⟩ = some (.bool x.opn) ∧ w.cell? ⟨b, o + i * 10 + 5, none⟩ = some (.int .i64 x.uy) ∧ w.cell? ⟨b, o + i * 10 + 6, none⟩ = some (.int .i64 x.um) ∧ w.cell? ⟨b, o + i * 10 + 7, none⟩ = some (.int .i64 x.ud) ∧ w.cell? ⟨b, o + i * 10 + 8, none⟩ = some (.int .i64 x.uat) ∧ w.cell? ⟨b, o + i * 10 + 9, none⟩ = some (.int .i64 x.uclock) :=
 ⟨h 0 _ rfl, h 1 _ rfl, h 2 _ rfl, h 3 _ rfl, h 4 _ rfl, h 5 _ rfl, h 6 _ rfl, h 7 _ rfl, h 8 _ rfl, h 9 _ rfl⟩
theorem ui {l : Sx.Lk} (h : ∀ k u, (aH l)[k]? = some u → w.cell? ⟨b, o + i * 2 + k, none⟩ = some u) :
  w.cell? ⟨b, o + i * 2, none⟩ = some (ag l.to) ∧ w.cell? ⟨b, o + i * 2 + 1, none⟩ = some (ag l.name) := ⟨h 0 _ rfl, h 1 _ rfl⟩
end
/- a zone of a list of zones -/
theorem Kr {w : World} {v : Value} {zs : List Sx.Zn} (h : fE w v zs) (hn : zs ≠ []) : ∃ b o cap, v = .slice (some ⟨b, o, none⟩) zs.length cap ∧ b < w.heap.size ∧ ∀ i x, zs[i]? = some x → w.cell? ⟨b, o + i * 2, none⟩ = some (ag x.name) ∧ ∃ ev, w.cell? ⟨b, o + i * 2 + 1, none⟩ = some ev ∧ gQ w ev x.eras := by
 obtain ⟨vs, h1, ⟨a, cap, e, h2⟩, h3⟩ := h
 have hlen : ((zs.zip vs).map fun p => (p.1.name, p.2)).length = zs.length := by simp [h1]
 obtain ⟨b, o, rfl, hb, hc⟩ := h2 (by intro q; rw [← List.length_eq_zero_iff, hlen] at q; exact hn (List.length_eq_zero_iff.1 q))
 refine ⟨b, o, cap, by rw [e, hlen], hb, fun i x hx => ?_⟩
 have hi : i < vs.length := by rw [h1]; exact (q4L.1 hx).1
 have hv : vs[i]? = some vs[i] := q4G hi
 have hg : ((zs.zip vs).map fun p => (p.1.name, p.2))[i]? = some (x.name, vs[i]) := by
  simp [List.getElem?_map, List.getElem?_zip_eq_some, hx, hv]
 exact ⟨hc i _ hg 0 _ rfl, vs[i], hc i _ hg 1 _ rfl, h3 i _ x hv hx⟩
end
section
open Go.RowKit

namespace Sx
/- what is left of the fields; none: it has failed -/
abbrev O := Option (List Tx.Bs)
def nxS : O → Tx.Bs
 | some (f :: _) => f
 | _ => []
def nxO : O → O
 | some (_ :: r) => some r
 | _ => none
def keep (b : Bool) (o : O) : O := if b = true then o else none
theorem dC (b : Bool) : keep b none = none := by cases b <;> rfl
end Sx

structure TkS (w : World) (b lim : Nat) (bad : Bool) (fs : List Tx.Bs) : Prop where
 lt : b < lim
 le : lim ≤ w.heap.size
 c0 : ∃ a cap, w.cell? ⟨b, 0, none⟩ = some (.slice a fs.length cap) ∧ fs.length ≤ cap ∧ (fs ≠ [] → ∃ g o, a = some ⟨g, o, none⟩ ∧ g < lim ∧ g ≠ b ∧ ∀ i f, fs[i]? = some f → w.cell? ⟨g, o + i, none⟩ = some (ag f))
 c1 : w.cell? ⟨b, 1, none⟩ = some (.bool bad)
 z0 : w.frozen? ⟨b, 0, none⟩ = false
 z1 : w.frozen? ⟨b, 1, none⟩ = false
 few : fs.length ≤ 12
 short : ∀ f ∈ fs, f.length ≤ 24
def TkR (w : World) (b lim : Nat) : Sx.O → Prop
 | none => ∃ fs, TkS w b lim true fs
 | some fs => TkS w b lim false fs
structure TkO (w : World) (b lim : Nat) (o : Sx.O) : Prop where
 out : TkR w b lim o
theorem wE {w : World} {b lim : Nat} {o : Sx.O} (h : TkO w b lim o) : b < w.heap.size := by
 cases o with
 | none => obtain ⟨fs, h⟩ := h.out; exact q4N h.lt h.le
 | some fs => exact q4N (TkS.lt h.out) (TkS.le h.out)
theorem iq {w : World} {b lim : Nat} {o : Sx.O} (h : TkO w b lim o) : (Sx.nxS o).length ≤ 24 := by
 match o, h with
 | none, _ => simp [Sx.nxS]
 | some [], _ => simp [Sx.nxS]
 | some (f :: r), h => exact TkS.short h.out f (by simp)

/- worlds that differ in one block alone -/
section
variable {w w1 w2 : World} {b lim : Nat}
theorem ng (h : w.grownBy w1 (some b)) (o : Obj) : w.grownBy (w1.alloc o) (some b) :=
 ⟨h.os, h.tape, h.output, by have := h.size; simp; omega, fun k hk hn => by rw [Below.heap_alloc _ _ _ (by have := h.size; omega)]; exact h.block k hk hn⟩
theorem bV (h : w.grownBy w1 (some b)) {p : Addr} (hp : p.block = b ∨ w.heap.size ≤ p.block) (u : Value) : w.grownBy (w1.setCell p u) (some b) :=
 ⟨h.os, h.tape, h.output, by have := h.size; simp; omega, fun k hk hn => by
  rw [Below.heap_setCell _ _ _ _ (by
   intro q
   rcases hp with hp | hp
   ·exact hn (by rw [q, hp])
   ·omega)]
  exact h.block k hk hn⟩
theorem AP (h : w.grownBy w1 (some b)) (n : Nat) : w.grownBy (w1.drewN n) (some b) := by
 have e : (w1.drewN n).heap = w1.heap := by simp
 exact ⟨by rw [← h.os]; simp [World.drewN], by rw [← h.tape]; simp [World.drewN], by rw [← h.output]; simp [World.drewN], by rw [e]; exact h.size, fun k hk hn => by rw [e]; exact h.block k hk hn⟩
theorem ik (w : World) (b : Nat) : w.grownBy w (some b) := World.grownBy.refl _ _
theorem aN (h : w.grownBy w1 (some b)) (k : w1.grownBy w2 (some b)) : w.grownBy w2 (some b) := h.trans k
theorem IA (h : w.grownBy w1 (some b)) (k : Below w1.heap.size w1 w2) : w.grownBy w2 (some b) :=
 ⟨k.os.trans h.os, k.tape.trans h.tape, k.output.trans h.output, Nat.le_trans h.size k.size, fun i hi hn => by rw [k.block i (by have := h.size; omega)]; exact h.block i hi hn⟩
theorem Fa {bad : Bool} {fs : List Tx.Bs} {r : Nat} (h : TkS w b lim bad fs) (hg : ∀ k, k < w.heap.size → w1.heap[k]? = w.heap[k]?) (hs : w.heap.size ≤ w1.heap.size) : TkS w1 b lim bad fs := by
 obtain ⟨lt', le, ⟨a, cap, c0, hc, hr⟩, c1, z0, z1, few, short⟩ := h
 have lt := q4N lt' le
 refine ⟨lt', by omega, ⟨a, cap, ?_, hc, ?_⟩, ?_, ?_, ?_, few, short⟩
 ·rw [World.cell?_of_block (w := w) (hg b lt)]; exact c0
 ·intro hn
  obtain ⟨g, o, e, hl, hne, hcell⟩ := hr hn
  exact ⟨g, o, e, hl, hne, fun i f hf => by rw [World.cell?_of_block (w := w) (hg g (by omega))]; exact hcell i f hf⟩
 ·rw [World.cell?_of_block (w := w) (hg b lt)]; exact c1
 ·rw [World.frozen?_of_block (w := w) (hg b lt)]; exact z0
 ·rw [World.frozen?_of_block (w := w) (hg b lt)]; exact z1
theorem ut {o : Sx.O} (h : TkO w b lim o) (hg : ∀ k, k < w.heap.size → w1.heap[k]? = w.heap[k]?) (hs : w.heap.size ≤ w1.heap.size) : TkO w1 b lim o := by
 cases o with
 | none => obtain ⟨fs, h⟩ := h.out; exact ⟨fs, Fa (r := 0) h hg hs⟩
 | some fs => exact ⟨Fa (r := 0) h.out hg hs⟩
theorem yE {o : Sx.O} (h : TkO w b lim o) (k : Below w.heap.size w w1) : TkO w1 b lim o := ut h (fun i hi => k.block i hi) k.size
theorem bH {o : Sx.O} (h : TkO w b lim o) (x : Obj) : TkO (w.alloc x) b lim o := ut h (fun i hi => Below.heap_alloc _ _ _ hi) (by simp)
theorem rQ {o : Sx.O} (h : TkO w b lim o) (n : Nat) : TkO (w.drewN n) b lim o := ut h (fun i hi => by simp) (by simp)
/- a cell of another block is written -/
theorem uu {bad : Bool} {fs : List Tx.Bs} (h : TkS w b lim bad fs) : TkS (w.setCell ⟨b, 1, none⟩ (.bool true)) b lim true fs := by
 obtain ⟨lt', le, ⟨a, cap, c0, hc, hr⟩, c1, z0, z1, few, short⟩ := h
 have lt := q4N lt' le
 refine ⟨lt', by simpa using le, ⟨a, cap, by simp [go_sem, c0, lt], hc, ?_⟩, by simp [go_sem, c1, lt], by simp [go_sem, z0, lt], by simp [go_sem, z1, lt], few, short⟩
 intro hn
 obtain ⟨g, o, e, hl, hne, hcell⟩ := hr hn
 exact ⟨g, o, e, hl, hne, fun i f hf => by rw [World.cell?_of_block (w := w) (Below.heap_setCell _ _ _ _ hne)]; exact hcell i f hf⟩
theorem fo {o : Sx.O} (h : TkO w b lim o) : TkO (w.setCell ⟨b, 1, none⟩ (.bool true)) b lim none := by
 cases o with
 | none => obtain ⟨fs, h⟩ := h.out; exact ⟨fs, uu h⟩
 | some fs => exact ⟨fs, uu h.out⟩
theorem Fe {bad : Bool} {fs : List Tx.Bs} (h : TkS w b lim bad fs) {p : Addr} (hp : lim ≤ p.block) (u : Value) : TkS (w.setCell p u) b lim bad fs := by
 obtain ⟨lt', le, ⟨a, cap, c0, hc, hr⟩, c1, z0, z1, few, short⟩ := h
 have hk : ∀ k, k < lim → (w.setCell p u).heap[k]? = w.heap[k]? := fun k hk => Below.heap_setCell _ _ _ _ (by omega)
 refine ⟨lt', by simpa using le, ⟨a, cap, ?_, hc, ?_⟩, ?_, ?_, ?_, few, short⟩
 ·rw [World.cell?_of_block (w := w) (hk b lt')]; exact c0
 ·intro hn
  obtain ⟨g, o, e, hl, hne, hcell⟩ := hr hn
  exact ⟨g, o, e, hl, hne, fun i f hf => by rw [World.cell?_of_block (w := w) (hk g hl)]; exact hcell i f hf⟩
 ·rw [World.cell?_of_block (w := w) (hk b lt')]; exact c1
 ·rw [World.frozen?_of_block (w := w) (hk b lt')]; exact z0
 ·rw [World.frozen?_of_block (w := w) (hk b lt')]; exact z1
theorem eP {o : Sx.O} (h : TkO w b lim o) {p : Addr} (hp : lim ≤ p.block) (u : Value) : TkO (w.setCell p u) b lim o := by
 cases o with
 | none => obtain ⟨fs, h⟩ := h.out; exact ⟨fs, Fe h hp u⟩
 | some fs => exact ⟨Fe h.out hp u⟩
theorem nL {o : Sx.O} (h : TkO w b lim o) : b < lim ∧ lim ≤ w.heap.size := by
 cases o with
 | none => obtain ⟨fs, h⟩ := h.out; exact ⟨h.lt, h.le⟩
 | some fs => exact ⟨TkS.lt h.out, TkS.le h.out⟩
theorem fP (h : w.grownBy w1 (some b)) : (∀ x o, x < w.heap.size → ¬ x = b → w1.cell? ⟨x, o, none⟩ = w.cell? ⟨x, o, none⟩) ∧ (∀ x o, x < w.heap.size → ¬ x = b → w1.frozen? ⟨x, o, none⟩ = w.frozen? ⟨x, o, none⟩) :=
 ⟨fun x o hx hn => World.cell?_of_block (w := w) (a := ⟨x, o, none⟩) (h.block x hx (by simpa using hn)), fun x o hx hn => World.frozen?_of_block (w := w) (a := ⟨x, o, none⟩) (h.block x hx (by simpa using hn))⟩
end

theorem ed {lim : Nat} (b : Nat) (o : Sx.O) (w : World) (h : TkO w b lim o) :
  Calls Tryz.prog 146 #[.pointer (some ⟨b, 0, none⟩)] w fun e w' => e = .returned (ag (Sx.nxS o)) ∧ w.grownBy w' (some b) ∧ TkO w' b lim (Sx.nxO o) := by
 match o, h with
 | none, ⟨fs, h⟩ =>
   have H := hid h
   obtain ⟨lt', le, ⟨a, cap, c0, hc, hr⟩, c1, z0, z1, few, short⟩ := h
   have lt := q4N lt' le
   clear hr short
   go_enter Tryz.func146, Tryz.ntmps146
   go_wp2
   go_ret
   exact ⟨rfl, bV (ik _ _) (.inl rfl) _, ⟨fs, uu H.out⟩⟩
 | some [], h =>
   have H : Hid (TkS w b lim false []) := h.out
   obtain ⟨lt', le, ⟨a, cap, c0, hc, hr⟩, c1, z0, z1, few, short⟩ := H.out
   have lt := q4N lt' le
   clear hr short
   go_enter Tryz.func146, Tryz.ntmps146
   go_wp2
   go_ret
   exact ⟨rfl, bV (ik _ _) (.inl rfl) _, ⟨[], uu H.out⟩⟩
 | some (f :: r), h =>
   have H : TkS w b lim false (f :: r) := h.out
   obtain ⟨lt', le, ⟨a, cap, c0, hc, hr⟩, c1, z0, z1, few, short⟩ := H
   have lt := q4N lt' le
   obtain ⟨g, o, rfl, hl, hne, hcell⟩ := hr (by simp)
   have g0 : w.cell? ⟨g, o, none⟩ = some (ag f) := by simpa using hcell 0 f (by simp)
   have hz : ((r.length : Int) + 1 == 0) = false := by simp; omega
   have HC := hid hcell
   have SH := hid short
   have F := hid few
   have hrl : r.length + 1 ≤ cap := by simpa using hc
   have hfew : r.length + 1 ≤ 12 := by simpa using few
   have c0' : w.cell? ⟨b, 0, none⟩ = some (.slice (some ⟨g, o, none⟩) (r.length + 1) cap) := by simpa using c0
   have HC0 := hid c0'
   have HC1 := hid c1
   have HZ0 := hid z0
   have HZ1 := hid z1
   clear hr hcell short few hc c0
   go_enter Tryz.func146, Tryz.ntmps146
   go_wp2
   ·go_ret
    have hr0 : r = [] := List.length_eq_zero_iff.1 (by omega)
    refine ⟨rfl, bV (ik _ _) (.inl rfl) _, ?_⟩
    refine ⟨show TkS _ _ _ _ _ from ?_⟩
    refine ⟨lt', by simpa using le, ⟨some ⟨g, o, none⟩, 0, ?_, by omega, fun hn => absurd hr0 hn⟩, ?_, ?_, ?_, by omega, fun x hx => SH.out x (by simp [hx])⟩
    ·simp [go_sem, HC0.out, lt]
    ·simp [go_sem, HC1.out, lt]
    ·simp [go_sem, HZ0.out, lt]
    ·simp [go_sem, HZ1.out, lt]
   ·go_ret
    refine ⟨rfl, bV (ik _ _) (.inl rfl) _, ?_⟩
    refine ⟨show TkS _ _ _ _ _ from ?_⟩
    refine ⟨lt', by simpa using le, ⟨some ⟨g, o + 1, none⟩, cap - 1, ?_, by omega, ?_⟩, ?_, ?_, ?_, by omega, fun x hx => SH.out x (by simp [hx])⟩
    ·simp [go_sem, HC0.out, lt]
    ·intro _
     exact ⟨g, o + 1, rfl, hl, hne, fun i x hx => by
      rw [World.cell?_of_block (w := w) (Below.heap_setCell _ _ _ _ hne)]
      have := HC.out (i + 1) x (by simpa using hx)
      rw [show o + 1 + i = o + (i + 1) by omega]; exact this⟩
    ·simp [go_sem, HC1.out, lt]
    ·simp [go_sem, HZ0.out, lt]
    ·simp [go_sem, HZ1.out, lt]
end
section
open Go.RowKit

namespace Sx
theorem Cq : ∀ (l : Tx.Bs) (n : Int) (c : UInt8), val n (l ++ [c]) = 10 * val n l + (c.toNat : Int) - 48
 | [], n, c => rfl
 | d :: r, n, c => by simp only [List.cons_append, val]; exact Cq r _ c
theorem La {c : UInt8} (h : fZ c = true) : 48 ≤ (c.toNat : Int) ∧ (c.toNat : Int) ≤ 57 := by
 simp [fZ] at h; omega
theorem Fg : ∀ (l : Tx.Bs) (n : Int), 0 ≤ n → l.all fZ = true → 0 ≤ val n l ∧ val n l < (n + 1) * 10 ^ l.length
 | [], n, hn, _ => by simp [val]; omega
 | c :: r, n, hn, h => by
   simp at h
   have hc := La h.1
   have := Fg r (10 * n + (c.toNat : Int) - 48) (by omega) (by simpa using h.2)
   simp only [val]
   refine ⟨this.1, Int.lt_of_lt_of_le this.2 ?_⟩
   rw [List.length_cons, Int.pow_succ, Int.mul_comm (10 ^ r.length) 10, ← Int.mul_assoc]
   exact Int.mul_le_mul_of_nonneg_right (by omega) (Int.le_of_lt (Int.pow_pos (by omega)))
theorem pow4 (k : Nat) (h : k ≤ 4) : (10 : Int) ^ k ≤ 10000 := by
 match k, h with
 | 0, _ => decide
 | 1, _ => decide
 | 2, _ => decide
 | 3, _ => decide
 | 4, _ => decide
theorem JJ (l : Tx.Bs) (h : l.all fZ = true) (hl : l.length ≤ 4) : 0 ≤ val 0 l ∧ val 0 l ≤ 9999 := by
 have := Fg l 0 (by omega) h
 have := pow4 _ hl
 omega
theorem iM (a b : Nat) (s : Tx.Bs) (hb : b ≤ 4) : 0 ≤ (num a b s).getD 0 ∧ (num a b s).getD 0 ≤ 9999 := by
 unfold num
 split
 ·rename_i h; exact JJ s h.2.2 (by omega)
 ·simp
end Sx

theorem eB {w : World} {b lim : Nat} {o : Sx.O} (h : TkO w b lim o) : ∃ x bad, w.cell? ⟨b, 0, none⟩ = some x ∧ w.cell? ⟨b, 1, none⟩ = some (.bool bad) ∧ w.frozen? ⟨b, 0, none⟩ = false ∧ w.frozen? ⟨b, 1, none⟩ = false ∧ b < w.heap.size := by
 cases o with
 | none => obtain ⟨fs, lt', le, ⟨a, cap, c0, _⟩, c1, z0, z1, _⟩ := h.out; exact ⟨_, _, c0, c1, z0, z1, q4N lt' le⟩
 | some fs => obtain ⟨lt', le, ⟨a, cap, c0, _⟩, c1, z0, z1, _⟩ := (show TkS _ _ _ _ _ from h.out); exact ⟨_, _, c0, c1, z0, z1, q4N lt' le⟩

theorem Dr {lim : Nat} (b : Nat) (o : Sx.O) (s : ByteArray) (least most : Nat) (w : World) (h : TkO w b lim o) (hm : most ≤ 4) (hs : s.size ≤ 24) :
  Calls Tryz.prog 187 #[.pointer (some ⟨b, 0, none⟩), .string s, .int .i64 least, .int .i64 most] w fun e w' =>
   e = .returned (.int .i64 ((Sx.num least most s.data.toList).getD 0)) ∧ w.grownBy w' (some b) ∧ TkO w' b lim (Sx.keep (Sx.num least most s.data.toList).isSome o) := by
 obtain ⟨x0, bad, c0, c1, z0, z1, lt⟩ := eB h
 have H := hid h
 obtain ⟨G, hG⟩ : ∃ G, Sx.num least most s.data.toList = G := ⟨_, rfl⟩
 rw [hG]
 have HG : Hid (G = if least ≤ s.size ∧ s.size ≤ most ∧ s.data.toList.all Sx.fZ = true then some (Sx.val 0 s.data.toList) else none) := by
  show _ = _; rw [← hG, Sx.num, kC]
 clear hG h c0 z0
 by_cases hr : least ≤ s.size ∧ s.size ≤ most
 ·have HB : Hid (decide ((least : Int) ≤ (s.size : Int) ∧ (s.size : Int) ≤ (most : Int)) = true) := by show _ = _; simp; omega
  obtain ⟨hr1, hr2⟩ := hr
  go_enter Tryz.func187, Tryz.ntmps187
  go_wp2_with (go_at_call 77; refine (av _ _ _ _ HB.out).mono ?_; rintro e w1 ⟨rfl, rfl⟩)
  go_loop [9, 10] (fun n a => ∃ k : Nat, k ≤ s.size ∧ a = .int .i64 k ∧ n = .int .i64 (Sx.val 0 (s.data.toList.take k)) ∧ Hid ((s.data.toList.take k).all Sx.fZ = true)) (fun _ a => s.size - (intOf a).toNat)
  case atStart => exact ⟨0, by omega, rfl, rfl, by show _ = _; simp⟩
  case round =>
   obtain ⟨k, hk, rfl, rfl, HA⟩ := hrel
   have hv := Sx.JJ _ HA.out (by simp; omega)
   obtain ⟨V, hV⟩ : ∃ V, Sx.val 0 (s.data.toList.take k) = V := ⟨_, rfl⟩
   rw [hV] at hv ⊢
   have HV := hid hV
   obtain ⟨v1, v2⟩ := hv
   clear hV
   by_cases hlt : k < s.size
   ·obtain ⟨c, hc⟩ : ∃ c, s[k] = c := ⟨_, rfl⟩
    have HC := hid hc
    have hcb : (c.toNat : Int) < 256 := by have := c.toNat_lt; omega
    cases h1 : Sx.fZ c
    ·have H1 := hid h1
     have N2 : Hid (G = none) := by show _ = _; rw [HG.out, if_neg (by rw [rq s _ k hlt (by rw [HC.out]; exact H1.out)]; simp)]
     clear h1
     go_wp2_with (go_at_call 166; refine (bZ _ _ H1.out).mono ?_; rintro e w1 ⟨rfl, rfl⟩)
     go_ret
     rw [N2.out]
     exact ⟨rfl, bV (ik _ _) (.inl rfl) _, fo H.out⟩
    ·have H1 := hid h1
     clear h1
     go_wp2_with (go_at_call 166; refine (bZ _ _ H1.out).mono ?_; rintro e w1 ⟨rfl, rfl⟩)
     go_round
     case rel => exact ⟨k + 1, by omega, by go_num, by rw [dm s k hlt, Sx.Cq, HV.out, HC.out], gy s _ k hlt HA.out (by rw [HC.out]; exact H1.out)⟩
     case measure => simp [intOf]; omega
   ·have N2 : Hid (G = some V) := by
     show _ = _
     rw [HG.out, if_pos ⟨hr1, hr2, nS s _ k (by omega) HA.out⟩, ← HV.out, List.take_of_length_le (by simp; omega)]
    go_wp2
    go_ret
    rw [N2.out]
    exact ⟨rfl, ik _ _, H.out⟩
 ·have HB : Hid (decide ((least : Int) ≤ (s.size : Int) ∧ (s.size : Int) ≤ (most : Int)) = false) := by show _ = _; simp; omega
  have N2 : Hid (G = none) := by show _ = _; rw [HG.out, if_neg (by rintro ⟨q1, q2, _⟩; exact hr ⟨q1, q2⟩)]
  clear hr
  go_enter Tryz.func187, Tryz.ntmps187
  go_wp2_with (go_at_call 77; refine (av _ _ _ _ HB.out).mono ?_; rintro e w1 ⟨rfl, rfl⟩)
  go_ret
  rw [N2.out]
  exact ⟨rfl, bV (ik _ _) (.inl rfl) _, fo H.out⟩

theorem bT (l : Tx.Bs) : (⟨l.toArray⟩ : ByteArray).size = l.length := by simp [ByteArray.size]
theorem eF (l : Tx.Bs) : (⟨l.toArray⟩ : ByteArray).data.toList = l := by simp
theorem fG (l : Tx.Bs) (w : World) {b : Bool} (h : Sx.bF l = b) : Calls Tryz.prog 120 #[ag l] w fun e w' => e = .returned (.bool b) ∧ w' = w :=
 FY _ w (by rw [eF]; exact h)
theorem qI (l : Tx.Bs) (w : World) (hs : l.length ≤ 24) {b : Bool} (h : Sx.dS l = b) : Calls Tryz.prog 164 #[ag l] w fun e w' => e = .returned (.bool b) ∧ w' = w :=
 tC _ w (by rw [bT]; unfold maxLen; omega) (by rw [eF]; exact h)
theorem zh (l : Tx.Bs) (w : World) (hs : l.length ≤ 24) {b : Bool} (h : Sx.dw l = b) : Calls Tryz.prog 167 #[ag l] w fun e w' => e = .returned (.bool b) ∧ w' = w :=
 sO _ w (by rw [bT]; unfold maxLen; omega) (by rw [eF]; exact h)
theorem gD {lim : Nat} (b : Nat) (o : Sx.O) (l : Tx.Bs) (least most : Nat) (w : World) (h : TkO w b lim o) (hm : most ≤ 4) (hs : l.length ≤ 24) :
  Calls Tryz.prog 187 #[.pointer (some ⟨b, 0, none⟩), ag l, .int .i64 least, .int .i64 most] w fun e w' =>
   e = .returned (.int .i64 ((Sx.num least most l).getD 0)) ∧ w.grownBy w' (some b) ∧ TkO w' b lim (Sx.keep (Sx.num least most l).isSome o) := by
 have := Dr b o ⟨l.toArray⟩ least most w h hm (by rw [bT]; exact hs)
 rw [eF] at this; exact this

theorem qD {lim : Nat} (b : Nat) (o : Sx.O) (w : World) (h : TkO w b lim o) :
  Calls Tryz.prog 149 #[.pointer (some ⟨b, 0, none⟩)] w fun e w' =>
   e = .returned (ag (Sx.nxS o)) ∧ w.grownBy w' (some b) ∧ TkO w' b lim (Sx.keep (Sx.bF (Sx.nxS o)) (Sx.nxO o)) := by
 have H := hid h
 clear h
 cases hn : Sx.bF (Sx.nxS o)
 all_goals
  have HN := hid hn
  clear hn
  go_enter Tryz.func149, Tryz.ntmps149
  go_wp2_with fail
  refine (ed b o _ H.out).mono ?_
  rintro e w1 ⟨rfl, hg, ht⟩
  obtain ⟨x0, bad, c0, c1, z0, z1, lt⟩ := eB ht
  go_wp2_with (go_at_call 120; refine (fG _ _ HN.out).mono ?_; rintro e w2 ⟨rfl, rfl⟩)
  go_ret
 ·exact ⟨rfl, bV hg (.inl rfl) _, fo ht⟩
 ·exact ⟨rfl, hg, ht⟩

def Ke : ByteArray := ⟨#[74, 97, 110, 70, 101, 98, 77, 97, 114, 65, 112, 114, 77, 97, 121, 74, 117, 110, 74, 117, 108, 65, 117, 103, 83, 101, 112, 79, 99, 116, 78, 111, 118, 68, 101, 99]⟩
def Hm : ByteArray := ⟨#[83, 117, 110, 77, 111, 110, 84, 117, 101, 87, 101, 100, 84, 104, 117, 70, 114, 105, 83, 97, 116]⟩
theorem vH (l : Tx.Bs) (w : World) (hs : l.length ≤ 24) {n : Int} (hn : Sx.th l 0 Sx.rE = n) :
  Calls Tryz.prog 208 #[.string ⟨#[74, 97, 110, 70, 101, 98, 77, 97, 114, 65, 112, 114, 77, 97, 121, 74, 117, 110, 74, 117, 108, 65, 117, 103, 83, 101, 112, 79, 99, 116, 78, 111, 118, 68, 101, 99]⟩, ag l] w fun e w' => e = .returned (.int .i64 n) ∧ w' = w := by
 subst hn
 have := wC Ke ⟨l.toArray⟩ w (by decide) (by rw [bT]; unfold maxLen; omega)
 rw [eF] at this; exact this
theorem qU (l : Tx.Bs) (w : World) (hs : l.length ≤ 24) {n : Int} (hn : Sx.th l 0 Sx.nO = n) :
  Calls Tryz.prog 208 #[.string ⟨#[83, 117, 110, 77, 111, 110, 84, 117, 101, 87, 101, 100, 84, 104, 117, 70, 114, 105, 83, 97, 116]⟩, ag l] w fun e w' => e = .returned (.int .i64 n) ∧ w' = w := by
 subst hn
 have := wC Hm ⟨l.toArray⟩ w (by decide) (by rw [bT]; unfold maxLen; omega)
 rw [eF] at this; exact this

theorem yg {lim : Nat} (b : Nat) (o : Sx.O) (w : World) (h : TkO w b lim o) :
  Calls Tryz.prog 188 #[.pointer (some ⟨b, 0, none⟩)] w fun e w' =>
   e = .returned (.int .i64 ((Sx.dA (Sx.nxS o)).getD 0)) ∧ w.grownBy w' (some b) ∧ TkO w' b lim (Sx.keep (Sx.dA (Sx.nxS o)).isSome (Sx.nxO o)) := by
 have H := hid h
 have hl := iq h
 clear h
 obtain ⟨n, hn⟩ : ∃ n, Sx.th (Sx.nxS o) 0 Sx.rE = n := ⟨_, rfl⟩
 have hb := JC (Sx.nxS o) 36 0 Sx.rE (by decide)
 rw [hn] at hb
 obtain ⟨b1, b2⟩ := hb
 have HO : Hid (Sx.dA (Sx.nxS o) = if n < 0 then none else some (n + 1)) := by show _ = _; rw [Sx.dA, hn]
 have HN := hid hn
 clear hn
 by_cases h0 : n < 0
 ·have hn1 : n = -1 := by omega
  have HO2 : Hid (Sx.dA (Sx.nxS o) = none) := by show _ = _; rw [HO.out, if_pos h0]
  subst hn1
  clear HO
  go_enter Tryz.func188, Tryz.ntmps188
  go_wp2_with fail
  refine (ed b o _ H.out).mono ?_
  rintro e w1 ⟨rfl, hg, ht⟩
  obtain ⟨x0, bad, c0, c1, z0, z1, lt⟩ := eB ht
  go_wp2_with (go_at_call 208; refine (vH _ _ hl HN.out).mono ?_; rintro e w2 ⟨rfl, rfl⟩)
  go_ret
  rw [HO2.out]
  exact ⟨rfl, bV hg (.inl rfl) _, fo ht⟩
 ·have HO2 : Hid (Sx.dA (Sx.nxS o) = some (n + 1)) := by show _ = _; rw [HO.out, if_neg h0]
  clear HO
  go_enter Tryz.func188, Tryz.ntmps188
  go_wp2_with fail
  refine (ed b o _ H.out).mono ?_
  rintro e w1 ⟨rfl, hg, ht⟩
  obtain ⟨x0, bad, c0, c1, z0, z1, lt⟩ := eB ht
  go_wp2_with (go_at_call 208; refine (vH _ _ hl HN.out).mono ?_; rintro e w2 ⟨rfl, rfl⟩)
  go_ret
  rw [HO2.out]
  exact ⟨rfl, hg, ht⟩
theorem zL {lim : Nat} (b : Nat) (o : Sx.O) (l : Tx.Bs) (w : World) (h : TkO w b lim o) (hl : l.length ≤ 24) :
  Calls Tryz.prog 209 #[.pointer (some ⟨b, 0, none⟩), ag l] w fun e w' =>
   e = .returned (.int .i64 ((Sx.wkO l).getD 0)) ∧ w.grownBy w' (some b) ∧ TkO w' b lim (Sx.keep (Sx.wkO l).isSome o) := by
 have H := hid h
 obtain ⟨x0, bad, c0, c1, z0, z1, lt⟩ := eB h
 clear h
 obtain ⟨n, hn⟩ : ∃ n, Sx.th l 0 Sx.nO = n := ⟨_, rfl⟩
 have HO : Hid (Sx.wkO l = if n < 0 then none else some n) := by show _ = _; rw [Sx.wkO, hn]
 have HN := hid hn
 clear hn
 by_cases h0 : n < 0
 ·have HO2 : Hid (Sx.wkO l = none) := by show _ = _; rw [HO.out, if_pos h0]
  clear HO
  go_enter Tryz.func209, Tryz.ntmps209
  go_wp2_with (go_at_call 208; refine (qU _ _ hl HN.out).mono ?_; rintro e w2 ⟨rfl, rfl⟩)
  go_ret
  rw [HO2.out]
  exact ⟨rfl, bV (ik _ _) (.inl rfl) _, fo H.out⟩
 ·have HO2 : Hid (Sx.wkO l = some n) := by show _ = _; rw [HO.out, if_neg h0]
  clear HO
  go_enter Tryz.func209, Tryz.ntmps209
  go_wp2_with (go_at_call 208; refine (qU _ _ hl HN.out).mono ?_; rintro e w2 ⟨rfl, rfl⟩)
  go_ret
  rw [HO2.out]
  exact ⟨rfl, ik _ _, H.out⟩
/- Sixty answers its digits' number even where it fails -/
def oJ (l : Tx.Bs) : Int := (Sx.num 2 2 l).getD 0
theorem oq (l : Tx.Bs) : 0 ≤ oJ l ∧ oJ l ≤ 9999 := Sx.iM 2 2 l (by omega)
theorem zO {l : Tx.Bs} {n : Int} (h : Sx.kS l = some n) : oJ l = n := by
 unfold Sx.kS at h; unfold oJ
 cases hq : Sx.num 2 2 l with
 | none => rw [hq] at h; cases h
 | some k =>
   rw [hq] at h
   simp only [Option.bind_some] at h
   split at h
   ·cases h
   ·simpa using h
theorem rH {lim : Nat} (b : Nat) (o : Sx.O) (l : Tx.Bs) (w : World) (h : TkO w b lim o) (hl : l.length ≤ 24) :
  Calls Tryz.prog 207 #[.pointer (some ⟨b, 0, none⟩), ag l] w fun e w' =>
   e = .returned (.int .i64 (oJ l)) ∧ w.grownBy w' (some b) ∧ TkO w' b lim (Sx.keep (Sx.kS l).isSome o) := by
 have H := hid h
 clear h
 obtain ⟨G, hG⟩ : ∃ G, Sx.num 2 2 l = G := ⟨_, rfl⟩
 have hb := Sx.iM 2 2 l (by omega)
 have HV : Hid (oJ l = G.getD 0) := by show _ = _; rw [oJ, hG]
 have HO : Hid (Sx.kS l = G.bind fun n => if 59 < n then none else some n) := by show _ = _; rw [Sx.kS, hG]
 have HN := hid (gD (lim := lim) b o l 2 2)
 rw [hG] at hb HN
 clear hG
 by_cases h59 : 59 < G.getD 0
 ·have HK : Hid ((Sx.kS l).isSome = false) := by
   show _ = _
   rw [HO.out]
   cases G with
   | none => rfl
   | some n => simp at h59; simp; omega
  obtain ⟨V, hV⟩ : ∃ V, G.getD 0 = V := ⟨_, rfl⟩
  rw [hV] at HV hb HN h59
  obtain ⟨b1, b2⟩ := hb
  go_enter Tryz.func207, Tryz.ntmps207
  go_wp2_with fail
  refine (HN.out _ H.out (by omega) hl).mono ?_
  rintro e w1 ⟨rfl, hg, ht⟩
  obtain ⟨x0, bad, c0, c1, z0, z1, lt⟩ := eB ht
  clear hV
  go_wp2
  go_ret
  rw [HV.out, HK.out]
  exact ⟨rfl, bV hg (.inl rfl) _, fo ht⟩
 ·have HK : Hid ((Sx.kS l).isSome = G.isSome) := by
   show _ = _
   rw [HO.out]
   cases G with
   | none => rfl
   | some n => simp at h59; simp; omega
  obtain ⟨V, hV⟩ : ∃ V, G.getD 0 = V := ⟨_, rfl⟩
  rw [hV] at HV hb HN h59
  obtain ⟨b1, b2⟩ := hb
  go_enter Tryz.func207, Tryz.ntmps207
  go_wp2_with fail
  refine (HN.out _ H.out (by omega) hl).mono ?_
  rintro e w1 ⟨rfl, hg, ht⟩
  obtain ⟨x0, bad, c0, c1, z0, z1, lt⟩ := eB ht
  clear hV
  go_wp2
  go_ret
  rw [HV.out, HK.out]
  exact ⟨rfl, hg, ht⟩
end
section
open Go.RowKit

theorem Bt (c : UInt8) (w : World) :
  Calls Tryz.prog 191 #[.int .u8 (c.toNat : Int)] w fun e w' => e = .returned (.bool (Sx.gB c)) ∧ w' = w := by
 have hh : Hid (Sx.gB c = (decide ((97 : Int) ≤ (c.toNat : Int) ∧ (c.toNat : Int) ≤ 122) || decide ((65 : Int) ≤ (c.toNat : Int) ∧ (c.toNat : Int) ≤ 90))) := I8 c
 have hb : (c.toNat : Int) < 256 := by have := c.toNat_lt; omega
 have hb0 : 0 ≤ (c.toNat : Int) := by omega
 generalize (c.toNat : Int) = n at *
 have h5 : n < 65 ∨ (65 ≤ n ∧ n ≤ 90 ∧ n < 97) ∨ (65 ≤ n ∧ 90 < n ∧ n < 97) ∨ (97 ≤ n ∧ n ≤ 122 ∧ 90 < n) ∨ (122 < n) := by omega
 rcases h5 with h1 | ⟨h1, h2, h3⟩ | ⟨h1, h2, h3⟩ | ⟨h1, h2, h3⟩ | h1
 all_goals
  go_enter Tryz.func191, Tryz.ntmps191
  go_wp2
  go_ret
  exact ⟨aC (by rw [hh.out, Bool.eq_iff_iff]; simp only [Bool.or_eq_true, Bool.and_eq_true, decide_eq_true_eq, Bool.false_eq_true, iff_false, false_iff, iff_true, true_iff]; omega), rfl⟩
theorem ek (c : UInt8) (w : World) {b : Bool} (h : Sx.gB c = b) :
  Calls Tryz.prog 191 #[.int .u8 (c.toNat : Int)] w fun e w' => e = .returned (.bool b) ∧ w' = w := by subst h; exact Bt c w
theorem DF (c : UInt8) (w : World) :
  Calls Tryz.prog 194 #[.int .u8 (c.toNat : Int)] w fun e w' => e = .returned (.bool (Sx.fZ c)) ∧ w' = w := by
 have hh : Hid (Sx.fZ c = decide ((48 : Int) ≤ (c.toNat : Int) ∧ (c.toNat : Int) ≤ 57)) := CP c
 have hb : (c.toNat : Int) < 256 := by have := c.toNat_lt; omega
 have hb0 : 0 ≤ (c.toNat : Int) := by omega
 generalize (c.toNat : Int) = n at *
 have h5 : n < 48 ∨ (48 ≤ n ∧ n ≤ 57) ∨ (48 ≤ n ∧ 57 < n) := by omega
 rcases h5 with h1 | ⟨h1, h2⟩ | ⟨h1, h2⟩
 all_goals
  go_enter Tryz.func194, Tryz.ntmps194
  go_wp2
  go_ret
  exact ⟨aC (by rw [hh.out]; simp; omega), rfl⟩
theorem lg (c : UInt8) (w : World) {b : Bool} (h : Sx.fZ c = b) :
  Calls Tryz.prog 194 #[.int .u8 (c.toNat : Int)] w fun e w' => e = .returned (.bool b) ∧ w' = w := by subst h; exact DF c w


theorem pJ (s : ByteArray) (c : UInt8) (w : World) :
  Calls Tryz.prog 211 #[.string s, .int .u8 (c.toNat : Int)] w fun e w' => e = .returned (.int .i64 (Lib.indexByte s.data.toList c)) ∧ w' = w := by
 go_enter Tryz.func211, Tryz.ntmps211
 go_wp2
 rw [run_callFunc_extern Tryz.func232 (by kernel_rfl) (by kernel_rfl) (by kernel_rfl) (e := Extern.BytealgIndexByte.indexByte) (by kernel_rfl), Lib.run_indexByteString]
 simp only [Result.andThen]
 rw [Oper.upon_value]
 go_wp2
 go_ret
 exact ⟨rfl, rfl⟩
theorem vV (s : ByteArray) (c : UInt8) (w : World) :
  Calls Tryz.prog 195 #[.string s, .int .u8 (c.toNat : Int)] w fun e w' => e = .returned (.int .i64 (Lib.indexByte s.data.toList c)) ∧ w' = w := by
 go_enter Tryz.func195, Tryz.ntmps195
 go_wp2_with (go_at_call 211; refine (pJ _ _ _).mono ?_; rintro e w1 ⟨rfl, rfl⟩)
 go_ret
 exact ⟨rfl, rfl⟩
theorem J6 (c : UInt8) : decide (0 ≤ Lib.indexByte [95, 45, 47, 43] c) = (c == 95 || c == 45 || c == 47 || c == 43) := by
 rw [← Lib.contains_iff_indexByte]
 simp only [List.contains_cons, List.contains_nil, Bool.or_false, Bool.or_assoc]
theorem Gh (c : UInt8) (w : World) :
  Calls Tryz.prog 193 #[.int .u8 (c.toNat : Int)] w fun e w' => e = .returned (.bool (Sx.jl c)) ∧ w' = w := by
 have HN : Hid (Sx.jl c = (Sx.gB c || Sx.fZ c || decide (0 ≤ Lib.indexByte [95, 45, 47, 43] c))) := by show _ = _; rw [J6]; simp [Sx.jl, Bool.or_assoc]
 have PI := hid (vV ⟨#[95, 45, 47, 43]⟩ c)
 obtain ⟨n, hn⟩ : ∃ n, Lib.indexByte [95, 45, 47, 43] c = n := ⟨_, rfl⟩
 have PI2 : Hid (∀ w, Calls Tryz.prog 195 #[.string ⟨#[95, 45, 47, 43]⟩, .int .u8 (c.toNat : Int)] w fun e w' => e = .returned (.int .i64 n) ∧ w' = w) := by rw [← hn]; exact PI.out
 rw [hn] at HN
 clear hn PI
 cases h1 : Sx.gB c
 case true =>
  have H1 := hid h1
  clear h1
  go_enter Tryz.func193, Tryz.ntmps193
  go_wp2_with (go_at_call 191; refine (ek _ _ H1.out).mono ?_; rintro e w1 ⟨rfl, rfl⟩)
  go_ret
  exact ⟨aC (by rw [HN.out, H1.out]; rfl), rfl⟩
 case false =>
  have H1 := hid h1
  clear h1
  cases h2 : Sx.fZ c
  case true =>
   have H2 := hid h2
   clear h2
   go_enter Tryz.func193, Tryz.ntmps193
   go_wp2_with (first | (go_at_call 191; refine (ek _ _ H1.out).mono ?_; rintro e w1 ⟨rfl, rfl⟩) | (go_at_call 194; refine (lg _ _ H2.out).mono ?_; rintro e w1 ⟨rfl, rfl⟩))
   go_ret
   exact ⟨aC (by rw [HN.out, H1.out, H2.out]; rfl), rfl⟩
  case false =>
   have H2 := hid h2
   clear h2
   by_cases h3 : 0 ≤ n
   all_goals
    go_enter Tryz.func193, Tryz.ntmps193
    go_wp2_with (first | (go_at_call 191; refine (ek _ _ H1.out).mono ?_; rintro e w1 ⟨rfl, rfl⟩) | (go_at_call 194; refine (lg _ _ H2.out).mono ?_; rintro e w1 ⟨rfl, rfl⟩) | (go_at_call 195; refine (PI2.out _).mono ?_; rintro e w1 ⟨rfl, rfl⟩))
    go_ret
    exact ⟨aC (by rw [HN.out, H1.out, H2.out]; simp [h3]), rfl⟩
theorem Bc (c : UInt8) (w : World) {b : Bool} (h : Sx.jl c = b) :
  Calls Tryz.prog 193 #[.int .u8 (c.toNat : Int)] w fun e w' => e = .returned (.bool b) ∧ w' = w := by subst h; exact Gh c w

theorem zP (s : ByteArray) (w : World) (hs : s.size ≤ maxLen) :
  Calls Tryz.prog 210 #[.string s, .func (.func 193) #[] #[]] w fun e w' => (∃ n : Int, e = .returned (.int .i64 n) ∧ (n == (s.size : Int)) = s.data.toList.all Sx.jl) ∧ w' = w := by
 unfold maxLen at hs
 obtain ⟨G, hG⟩ : ∃ G, s.data.toList.all Sx.jl = G := ⟨_, rfl⟩
 rw [hG]
 have HG : Hid (G = s.data.toList.all Sx.jl) := hG.symm
 clear hG
 have eg : ∀ args w, (callFunc 193 args).run Tryz.prog w = .ok (.enter 193 args) w := enters_of Tryz.func193 (by kernel_rfl) rfl
 go_enter Tryz.func210, Tryz.ntmps210
 go_wp2_with fail
 go_loop [8] (fun a => ∃ k : Nat, k ≤ s.size ∧ a = .int .i64 k ∧ Hid ((s.data.toList.take k).all Sx.jl = true)) (fun a => s.size - (intOf a).toNat)
 case atStart => exact ⟨0, by omega, rfl, by show _ = _; simp⟩
 case round =>
  obtain ⟨k, hk, rfl, HA⟩ := hrel
  by_cases hlt : k < s.size
  ·obtain ⟨c, hc⟩ : ∃ c, s[k] = c := ⟨_, rfl⟩
   have HC := hid hc
   cases h1 : Sx.jl c
   case true =>
    have H1 := hid h1
    clear h1
    go_wp2_with (go_at_call 193; refine (Bc _ _ H1.out).mono ?_; rintro e w1 ⟨rfl, rfl⟩)
    go_round
    case rel => exact ⟨k + 1, by omega, by go_num, gy s _ k hlt HA.out (by rw [HC.out, H1.out])⟩
    case measure => simp [intOf]; omega
   case false =>
    have H1 := hid h1
    clear h1
    go_wp2_with (go_at_call 193; refine (Bc _ _ H1.out).mono ?_; rintro e w1 ⟨rfl, rfl⟩)
    go_ret
    exact ⟨⟨_, rfl, by rw [HG.out, rq s _ k hlt (by rw [HC.out, H1.out])]; simp; omega⟩, rfl⟩
  ·go_wp2
   go_ret
   exact ⟨⟨_, rfl, by rw [HG.out, nS s _ k (by omega) HA.out]; simp⟩, rfl⟩
theorem wZ (s : ByteArray) (w : World) (hs : s.size ≤ maxLen) :
  Calls Tryz.prog 192 #[.string s, .func (.func 193) #[] #[]] w fun e w' => e = .returned (.bool (decide (s.size ≤ 24) && s.data.toList.all Sx.jl)) ∧ w' = w := by
 have HS := hid (zP s w hs)
 clear hs
 obtain ⟨b, hb⟩ : ∃ b, s.data.toList.all Sx.jl = b := ⟨_, rfl⟩
 rw [hb] at HS ⊢
 clear hb
 by_cases h : s.size ≤ 24
 ·go_enter Tryz.func192, Tryz.ntmps192
  go_wp2_with (go_at_call 210; refine HS.out.mono ?_; rintro e w1 ⟨⟨n, rfl, hn⟩, rfl⟩)
  go_ret
  exact ⟨aC (by simp [h]), rfl⟩
 ·go_enter Tryz.func192, Tryz.ntmps192
  go_wp2_with fail
  go_ret
  exact ⟨aC (by simp [h]), rfl⟩

theorem wu (s : ByteArray) (w : World) (hs : s.size ≤ maxLen) :
  Calls Tryz.prog 210 #[.string s, .func (.func 191) #[] #[]] w fun e w' => (∃ n : Int, e = .returned (.int .i64 n) ∧ (n == (s.size : Int)) = s.data.toList.all Sx.gB) ∧ w' = w := by
 unfold maxLen at hs
 obtain ⟨G, hG⟩ : ∃ G, s.data.toList.all Sx.gB = G := ⟨_, rfl⟩
 rw [hG]
 have HG : Hid (G = s.data.toList.all Sx.gB) := hG.symm
 clear hG
 have eg : ∀ args w, (callFunc 191 args).run Tryz.prog w = .ok (.enter 191 args) w := enters_of Tryz.func191 (by kernel_rfl) rfl
 go_enter Tryz.func210, Tryz.ntmps210
 go_wp2_with fail
 go_loop [8] (fun a => ∃ k : Nat, k ≤ s.size ∧ a = .int .i64 k ∧ Hid ((s.data.toList.take k).all Sx.gB = true)) (fun a => s.size - (intOf a).toNat)
 case atStart => exact ⟨0, by omega, rfl, by show _ = _; simp⟩
 case round =>
  obtain ⟨k, hk, rfl, HA⟩ := hrel
  by_cases hlt : k < s.size
  ·obtain ⟨c, hc⟩ : ∃ c, s[k] = c := ⟨_, rfl⟩
   have HC := hid hc
   cases h1 : Sx.gB c
   case true =>
    have H1 := hid h1
    clear h1
    go_wp2_with (go_at_call 191; refine (ek _ _ H1.out).mono ?_; rintro e w1 ⟨rfl, rfl⟩)
    go_round
    case rel => exact ⟨k + 1, by omega, by go_num, gy s _ k hlt HA.out (by rw [HC.out, H1.out])⟩
    case measure => simp [intOf]; omega
   case false =>
    have H1 := hid h1
    clear h1
    go_wp2_with (go_at_call 191; refine (ek _ _ H1.out).mono ?_; rintro e w1 ⟨rfl, rfl⟩)
    go_ret
    exact ⟨⟨_, rfl, by rw [HG.out, rq s _ k hlt (by rw [HC.out, H1.out])]; simp; omega⟩, rfl⟩
  ·go_wp2
   go_ret
   exact ⟨⟨_, rfl, by rw [HG.out, nS s _ k (by omega) HA.out]; simp⟩, rfl⟩
theorem tX (s : ByteArray) (w : World) (hs : s.size ≤ maxLen) :
  Calls Tryz.prog 192 #[.string s, .func (.func 191) #[] #[]] w fun e w' => e = .returned (.bool (decide (s.size ≤ 24) && s.data.toList.all Sx.gB)) ∧ w' = w := by
 have HS := hid (wu s w hs)
 clear hs
 obtain ⟨b, hb⟩ : ∃ b, s.data.toList.all Sx.gB = b := ⟨_, rfl⟩
 rw [hb] at HS ⊢
 clear hb
 by_cases h : s.size ≤ 24
 ·go_enter Tryz.func192, Tryz.ntmps192
  go_wp2_with (go_at_call 210; refine HS.out.mono ?_; rintro e w1 ⟨⟨n, rfl, hn⟩, rfl⟩)
  go_ret
  exact ⟨aC (by simp [h]), rfl⟩
 ·go_enter Tryz.func192, Tryz.ntmps192
  go_wp2_with fail
  go_ret
  exact ⟨aC (by simp [h]), rfl⟩

theorem qH (l : Tx.Bs) (w : World) (hs : l.length ≤ maxLen) {b : Bool} (h : Sx.dS l = b) :
  Calls Tryz.prog 152 #[ag l] w fun e w' => e = .returned (.bool b) ∧ w' = w := by
 have HS := hid (tX ⟨l.toArray⟩ w (by rw [bT]; exact hs))
 have HB : Hid ((decide ((⟨l.toArray⟩ : ByteArray).size ≤ 24) && (⟨l.toArray⟩ : ByteArray).data.toList.all Sx.gB) = b) := by show _ = _; rw [← h, bT, eF, Sx.dS, Bool.and_comm]
 clear h hs
 rw [HB.out] at HS
 clear HB
 go_enter Tryz.func152, Tryz.ntmps152
 go_wp2_with (go_at_call 192; refine HS.out.mono ?_; rintro e w1 ⟨rfl, rfl⟩)
 go_ret
 exact ⟨rfl, rfl⟩
theorem fw (l : Tx.Bs) (w : World) (hs : l.length ≤ maxLen) {b : Bool} (h : Sx.bF l = b) :
  Calls Tryz.prog 151 #[ag l] w fun e w' => e = .returned (.bool b) ∧ w' = w := by
 have HS := hid (wZ ⟨l.toArray⟩ w (by rw [bT]; exact hs))
 cases l with
 | nil =>
   have HB : Hid (false = b) := by show _ = _; rw [← h]; rfl
   clear h hs HS
   go_enter Tryz.func151, Tryz.ntmps151
   go_wp2_with fail
   go_ret
   exact ⟨aC HB.out, rfl⟩
 | cons c r =>
   have h0 : (⟨(c :: r).toArray⟩ : ByteArray)[0]'(by rw [bT]; simp) = c := rfl
   have hs0 : 0 < (⟨(c :: r).toArray⟩ : ByteArray).size := by rw [bT]; simp
   obtain ⟨A, hA⟩ : ∃ A, (decide ((⟨(c :: r).toArray⟩ : ByteArray).size ≤ 24) && (⟨(c :: r).toArray⟩ : ByteArray).data.toList.all Sx.jl) = A := ⟨_, rfl⟩
   have HB : Hid ((Sx.gB c && A) = b) := by show _ = _; rw [← h, ← hA, bT, eF, Sx.bF, Sx.EG, Bool.and_assoc]
   rw [hA] at HS
   clear h hs hA
   cases h1 : Sx.gB c
   ·have H1 := hid h1
    have HB2 : Hid (false = b) := by show _ = _; rw [← HB.out, h1]; rfl
    clear h1 HB
    go_enter Tryz.func151, Tryz.ntmps151
    go_wp2_with (go_at_call 191; refine (ek _ _ H1.out).mono ?_; rintro e w1 ⟨rfl, rfl⟩)
    go_ret
    exact ⟨aC HB2.out, rfl⟩
   ·have H1 := hid h1
    have HB2 : Hid (A = b) := by show _ = _; rw [← HB.out, h1]; rfl
    clear h1 HB
    go_enter Tryz.func151, Tryz.ntmps151
    go_wp2_with (first | (go_at_call 191; refine (ek _ _ H1.out).mono ?_; rintro e w1 ⟨rfl, rfl⟩) | (go_at_call 192; refine HS.out.mono ?_; rintro e w1 ⟨rfl, rfl⟩))
    go_ret
    exact ⟨aC HB2.out, rfl⟩
end
section
open Go.RowKit


theorem Dh (y : Int) (w : World) (h1 : 0 ≤ y) (h2 : y ≤ 20000) :
  Calls Tryz.prog 144 #[.int .i64 y] w fun e w' => e = .returned (.bool (Cv.lpB y)) ∧ w' = w := by
 by_cases a : y % 4 = 0 <;> by_cases b : y % 100 = 0 <;> by_cases c : y % 400 = 0
 all_goals
  have hh : Hid (Cv.lpB y = decide (y % 4 = 0 ∧ (y % 100 ≠ 0 ∨ y % 400 = 0))) := rfl
  go_enter Tryz.func144, Tryz.ntmps144
  go_wp2
  go_ret
  exact ⟨aC (by rw [hh.out]; simp [a, b, c]), rfl⟩

theorem dK (y m : Int) (w : World) (h1 : 0 ≤ y) (h2 : y ≤ 20000) :
  Calls Tryz.prog 85 #[.int .i64 y, .int .i64 m] w fun e w' => e = .returned (.int .i64 (Cv.dim y m)) ∧ w' = w := by
 have hh : Hid (Cv.dim y m = if m = 4 ∨ m = 6 ∨ m = 9 ∨ m = 11 then 30 else if m = 2 then (if Cv.lpB y = true then 29 else 28) else 31) := rfl
 by_cases a : m = 4
 ·have e : (m == 4) = true := by simp [a]
  go_enter Tryz.func85, Tryz.ntmps85
  go_wp2
  go_ret
  exact ⟨ay (by rw [hh.out]; simp [a]), rfl⟩
 by_cases b : m = 6
 ·go_enter Tryz.func85, Tryz.ntmps85
  go_wp2
  go_ret
  exact ⟨ay (by rw [hh.out]; simp [b]), rfl⟩
 by_cases c : m = 9
 ·go_enter Tryz.func85, Tryz.ntmps85
  go_wp2
  go_ret
  exact ⟨ay (by rw [hh.out]; simp [c]), rfl⟩
 by_cases d : m = 11
 ·go_enter Tryz.func85, Tryz.ntmps85
  go_wp2
  go_ret
  exact ⟨ay (by rw [hh.out]; simp [d]), rfl⟩
 by_cases g : m = 2
 ·cases hl : Cv.lpB y
  all_goals
   have hl' := hid hl
   clear hl
   go_enter Tryz.func85, Tryz.ntmps85
   go_wp2_with (go_at_call 144; refine (Dh y _ h1 h2).mono ?_; rintro e w' ⟨rfl, rfl⟩; rw [hl'.out])
   go_ret
   exact ⟨ay (by rw [hh.out]; simp [g, hl'.out]), rfl⟩
 ·go_enter Tryz.func85, Tryz.ntmps85
  go_wp2
  go_ret
  exact ⟨ay (by rw [hh.out]; simp [a, b, c, d, g]), rfl⟩

theorem jf (y : Int) (w : World) (h1 : 1 ≤ y) (h2 : y ≤ 20000) :
  Calls Tryz.prog 141 #[.int .i64 y] w fun e w' => e = .returned (.int .i64 (Cv.dby y)) ∧ w' = w := by
 have hh : Hid (Cv.dby y = (y - 1) * 365 + (y - 1) / 4 - (y - 1) / 100 + (y - 1) / 400) := rfl
 go_enter Tryz.func141, Tryz.ntmps141
 go_wp2
 go_ret
 exact ⟨ay (by rw [hh.out]), rfl⟩

theorem AY (y m : Int) (w : World) :
  Calls Tryz.prog 84 #[.int .i64 y, .int .i64 m] w fun e w' => e = .returned (.bool (Cv.iK y m)) ∧ w' = w := by
 have hh : Hid (Cv.iK y m = decide (1 ≤ y ∧ y ≤ 9999 ∧ 1 ≤ m ∧ m ≤ 12)) := rfl
 by_cases a : 1 ≤ y <;> by_cases b : y ≤ 9999 <;> by_cases c : 1 ≤ m <;> by_cases d : m ≤ 12
 all_goals
  go_enter Tryz.func84, Tryz.ntmps84
  go_wp2
  go_ret
  exact ⟨aC (by rw [hh.out]; simp [a, b, c, d]), rfl⟩

theorem fF (y m : Int) (w : World) {b : Bool} (h : Cv.iK y m = b) :
  Calls Tryz.prog 84 #[.int .i64 y, .int .i64 m] w fun e w' => e = .returned (.bool b) ∧ w' = w := by
 subst h; exact AY y m w

end
section
open Go.RowKit

theorem tO (n : Int) (w : World) :
  Calls Tryz.prog 82 #[.int .i64 n] w fun e w' => e = .returned (.int .i64 (Cv.wd n)) ∧ w' = w := by
 obtain ⟨t1, t2, t3⟩ := KR n
 have hh : Hid (Cv.wd n = (n.tmod 7 + 7 + 4) % 7) := t1.symm
 clear t1
 go_enter Tryz.func82, Tryz.ntmps82
 go_wp2
 go_ret
 exact ⟨ay (by rw [hh.out]), rfl⟩
end
end Go.Proofs.YtkhlkohlccndgaaGreat
