/- Part of the proof: Tx TxL Cal CalOn Sx ChP Rt RtY Ea Ba SrM BaB SxC RfN RfO RfP TkM TkN Sg CivA CivWk. -/
import Derived.Test.YtkhlkohlccndgaaGreatQz
import Derived.Test.YtkhlkohlccndgaaGreatRows
import Derived.WalkKit
import Derived.WalkSpells
import Derived.WalkLawsBesides
import Derived.WalkSmall
import Derived.Deep.QuietTactic
import Derived.BigQuiet
import Derived.Deep.LoopGhost
import Derived.Lib.Strings
import Derived.Shelf.Abstract
import Derived.Lib.Bytealg
import Derived.Lib.IndexAny
set_option linter.unusedVariables false
set_option linter.unusedSimpArgs false
set_option maxRecDepth 100000
set_option maxHeartbeats 16000000
namespace Go.Proofs.YtkhlkohlccndgaaGreat
namespace Tx

abbrev Bs := List UInt8
def gap (c : UInt8) : Bool := c == 32 || c == 9
def txt (c : UInt8) : Bool := decide (32 ≤ c.toNat ∧ c.toNat ≤ 126) || c == 9

/- what stands between two quotes, and what is behind the second one -/
def tq : Bs → Option (Bs × Bs)
 | [] => none
 | c :: r => if c = 34 then some ([], r) else if txt c = false then none else (tq r).map fun p => (c :: p.1, p.2)
/- a field without quotes around it, and what is behind it -/
def tu : Bs → Option (Bs × Bs)
 | [] => some ([], [])
 | c :: r => if gap c = true ∨ c = 35 then some ([], c :: r) else if txt c = false ∨ c = 34 then none else (tu r).map fun p => (c :: p.1, p.2)
/- does a field end here? -/
def ends : Bs → Bool
 | [] => true
 | c :: _ => gap c || c == 35
def skip : Bs → Bs
 | [] => []
 | c :: r => if gap c = true then skip r else c :: r
def field : Bs → Option (Bs × Bs)
 | [] => none
 | c :: r => if c = 34 then (match tq r with | none => none | some p => if ends p.2 = true then some p else none) else tu (c :: r)
/- the fields of a line from here on, n fields being ahead: those fields and 0, or none and what is wrong -/
def fields : Nat → Nat → Bs → List Bs × Int
 | 0, _, _ => ([], 0)
 | m + 1, n, l =>
   match skip l with
   | [] => ([], 0)
   | c :: r => if c = 35 then ([], 0) else
     match field (c :: r) with
     | none => ([], 1)
     | some p => if 24 < p.1.length ∨ 12 < n + 1 then ([], 2) else
       if (fields m (n + 1) p.2).2 = 0 then (p.1 :: (fields m (n + 1) p.2).1, 0) else ([], (fields m (n + 1) p.2).2)

theorem QY : ∀ (l : Bs) (p : Bs × Bs), tq l = some p → p.2.length < l.length ∧ p.1.length < l.length
 | [], p, h => by simp [tq] at h
 | c :: r, p, h => by
   unfold tq at h
   split at h
   ·simp at h; subst h; simp
   ·split at h
    ·simp at h
    ·cases hr : tq r with
     | none => simp [hr] at h
     | some q =>
       simp [hr] at h; subst h
       have := QY r q hr
       simp; omega
theorem Q4 : ∀ (l : Bs) (p : Bs × Bs), tu l = some p → p.1.length + p.2.length = l.length
 | [], p, h => by simp [tu] at h; subst h; simp
 | c :: r, p, h => by
   unfold tu at h
   split at h
   ·simp at h; subst h; simp
   ·split at h
    ·simp at h
    ·cases hr : tu r with
     | none => simp [hr] at h
     | some q =>
       simp [hr] at h; subst h
       have := Q4 r q hr
       simp; omega
theorem zU : ∀ (l : Bs), (skip l).length ≤ l.length
 | [] => by simp [skip]
 | c :: r => by
   unfold skip; split
   ·have := zU r; simp; omega
   ·simp
theorem vU : ∀ (l : Bs) (c : UInt8) (r : Bs), skip l = c :: r → gap c = false
 | [], c, r, h => by simp [skip] at h
 | d :: t, c, r, h => by
   unfold skip at h; split at h
   ·exact vU t c r h
   ·rename_i g; simp at h; obtain ⟨rfl, _⟩ := h; simpa using g
theorem tY (r : Bs) : field (34 :: r) = match tq r with | none => none | some p => if ends p.2 = true then some p else none := by simp [field]
theorem qC (c : UInt8) (r : Bs) (h : c ≠ 34) : field (c :: r) = tu (c :: r) := by simp [field, h]
theorem Ti (c : UInt8) (r : Bs) (h1 : gap c = false) (h2 : c ≠ 35) (h3 : txt c = true) (h4 : c ≠ 34) : tu (c :: r) = (tu r).map fun p => (c :: p.1, p.2) := by
 conv => lhs; unfold tu
 rw [if_neg (by simp [h1, h2]), if_neg (by simp [h3, h4])]
theorem Kv (c : UInt8) (r : Bs) (h1 : gap c = false) (h2 : c ≠ 35) (h3 : txt c = false ∨ c = 34) : tu (c :: r) = none := by
 conv => lhs; unfold tu
 rw [if_neg (by simp [h1, h2]), if_pos h3]
theorem Q0 (c : UInt8) (r : Bs) (h : gap c = true ∨ c = 35) : tu (c :: r) = some ([], c :: r) := by
 conv => lhs; unfold tu
 rw [if_pos h]
theorem tq_go (c : UInt8) (r : Bs) (h1 : c ≠ 34) (h2 : txt c = true) : tq (c :: r) = (tq r).map fun p => (c :: p.1, p.2) := by
 conv => lhs; unfold tq
 rw [if_neg h1, if_neg (by simp [h2])]
theorem Um (c : UInt8) (r : Bs) (h1 : c ≠ 34) (h2 : txt c = false) : tq (c :: r) = none := by
 conv => lhs; unfold tq
 rw [if_neg h1, if_pos h2]
theorem Un (r : Bs) : tq (34 :: r) = some ([], r) := by simp [tq]
theorem BG (c : UInt8) (r : Bs) (p : Bs × Bs) (hg : gap c = false) (h35 : c ≠ 35) (h : field (c :: r) = some p) : p.2.length < (c :: r).length := by
 by_cases h34 : c = 34
 ·subst h34
  rw [tY] at h
  cases hq : tq r with
  | none => rw [hq] at h; cases h
  | some q =>
    rw [hq] at h
    by_cases he : ends q.2 = true
    ·simp [he] at h; subst h
     have := QY r q hq; simp; omega
    ·simp [he] at h
 ·rw [qC c r h34] at h
  by_cases ht : txt c = false
  ·rw [Kv c r hg h35 (.inl ht)] at h; cases h
  ·rw [Ti c r hg h35 (by simpa using ht) h34] at h
   cases hr : tu r with
   | none => rw [hr] at h; cases h
   | some q =>
     rw [hr] at h; simp at h; subst h
     have := Q4 r q hr
     simp; omega
/- enough is enough -/
theorem wJ : ∀ (m k n : Nat) (l : Bs), l.length < m → l.length < k → fields m n l = fields k n l
 | 0, _, _, l, h, _ => by omega
 | _, 0, _, l, _, h => by omega
 | m + 1, k + 1, n, l, h1, h2 => by
   unfold fields
   have hs := zU l
   cases hk : skip l with
   | nil => rfl
   | cons c r =>
     simp only
     split
     ·rfl
     ·rename_i h35
      cases hf : field (c :: r) with
      | none => rfl
      | some p =>
        simp only
        have hl := BG c r p (vU l c r hk) h35 hf
        rw [hk] at hs
        rw [wJ m k (n + 1) p.2 (by simp at hl hs; omega) (by simp at hl hs; omega)]
theorem mg (M n : Nat) (l : Bs) (h : l.length < M) : fields M n l = (match skip l with
  | [] => ([], 0)
  | c :: r => if c = 35 then ([], 0) else
    match field (c :: r) with
    | none => ([], 1)
    | some p => if 24 < p.1.length ∨ 12 < n + 1 then ([], 2) else
      if (fields M (n + 1) p.2).2 = 0 then (p.1 :: (fields M (n + 1) p.2).1, 0) else ([], (fields M (n + 1) p.2).2)) := by
 cases M with
 | zero => omega
 | succ M =>
   conv => lhs; unfold fields
   have hs := zU l
   cases hk : skip l with
   | nil => rfl
   | cons c r =>
     simp only
     by_cases h35 : c = 35
     ·rw [if_pos h35, if_pos h35]
     ·rw [if_neg h35, if_neg h35]
      cases hf : field (c :: r) with
      | none => rfl
      | some p =>
        have hl := BG c r p (vU l c r hk) h35 hf
        rw [hk] at hs
        simp only
        rw [wJ M (M + 1) (n + 1) p.2 (by simp at hl hs; omega) (by simp at hl hs; omega)]
/- what is gathered so far, and what is to come, make the whole -/
def Rel (G : List Bs × Int) (out : List Bs) (R : List Bs × Int) : Prop := if R.2 = 0 then G = (out ++ R.1, 0) else G = ([], R.2)
theorem Ny (G : List Bs × Int) (h : G.2 ≠ 0 → G.1 = []) : Rel G [] G := by
 unfold Rel
 obtain ⟨a, b⟩ := G
 by_cases hb : b = 0
 ·simp [hb]
 ·simp [hb]; exact h hb
theorem I6 : ∀ (m n : Nat) (l : Bs), (fields m n l).2 ≠ 0 → (fields m n l).1 = []
 | 0, n, l => by simp [fields]
 | m + 1, n, l => by
   unfold fields
   cases hk : skip l with
   | nil => simp
   | cons c r =>
     simp only
     by_cases h35 : c = 35
     ·rw [if_pos h35]; simp
     ·rw [if_neg h35]
      cases hf : field (c :: r) with
      | none => simp
      | some p =>
        simp only
        split
        ·simp
        ·split <;> simp
section
variable {M n : Nat} {l : Bs} {G : List Bs × Int} {out : List Bs}
theorem Lm (h : Rel G out (fields M n l)) (hl : l.length < M) (he : skip l = [] ∨ ∃ r, skip l = 35 :: r) : G = (out, 0) := by
 rw [mg M n l hl] at h
 rcases he with he | ⟨r, he⟩
 ·rw [he] at h; simpa [Rel] using h
 ·rw [he] at h; simpa [Rel] using h
theorem pY {c : UInt8} {r : Bs} (h : Rel G out (fields M n l)) (hl : l.length < M) (hs : skip l = c :: r) (hc : c ≠ 35) (hf : field (c :: r) = none) : G = ([], 1) := by
 rw [mg M n l hl, hs] at h
 simpa [Rel, hc, hf] using h
theorem nz {c : UInt8} {r : Bs} {p : Bs × Bs} (h : Rel G out (fields M n l)) (hl : l.length < M) (hs : skip l = c :: r) (hc : c ≠ 35) (hf : field (c :: r) = some p) (hm : 24 < p.1.length ∨ 12 < n + 1) : G = ([], 2) := by
 rw [mg M n l hl, hs] at h
 simp only [hf] at h
 rw [if_neg hc, if_pos hm] at h
 simpa [Rel] using h
theorem nA {c : UInt8} {r : Bs} {p : Bs × Bs} (h : Rel G out (fields M n l)) (hl : l.length < M) (hs : skip l = c :: r) (hc : c ≠ 35) (hf : field (c :: r) = some p) (hm : ¬ (24 < p.1.length ∨ 12 < n + 1)) : Rel G (out ++ [p.1]) (fields M (n + 1) p.2) := by
 rw [mg M n l hl, hs] at h
 simp only [hf] at h
 rw [if_neg hc, if_neg hm] at h
 unfold Rel at h ⊢
 by_cases h0 : (fields M (n + 1) p.2).2 = 0
 ·rw [if_pos h0] at h ⊢
  simpa using h
 ·rw [if_neg h0] at h ⊢
  simpa [h0] using h
end
end Tx
namespace Tx

structure Ln where
 number : Int
 inner : Bool
 fields : List Bs

structure Res where
 lines : List Ln
 number : Int
 err : Int

def rows : Bs → List Bs
 | [] => [[]]
 | c :: r => if c = 10 then [] :: rows r else (match rows r with | [] => [[c]] | x :: xs => (c :: x) :: xs)
def inner : Bs → Bool
 | [] => false
 | c :: _ => gap c
def l6 (r : Bs) : List Bs × Int := fields (r.length + 1) 0 r
def go : Int → List Bs → Res
 | _, [] => ⟨[], 0, 0⟩
 | n, r :: rs => if (l6 r).2 ≠ 0 then ⟨[], n, (l6 r).2⟩ else if (go (n + 1) rs).err ≠ 0 then ⟨[], (go (n + 1) rs).number, (go (n + 1) rs).err⟩ else
   ⟨if (l6 r).1 = [] then (go (n + 1) rs).lines else ⟨n, inner r, (l6 r).1⟩ :: (go (n + 1) rs).lines, 0, 0⟩
def split (s : Bs) : Res := if 8000 < s.length then ⟨[], 0, 2⟩ else if (go 1 (rows s)).err ≠ 0 then ⟨[], (go 1 (rows s)).number, (go 1 (rows s)).err⟩ else if 200 < (go 1 (rows s)).lines.length then ⟨[], 0, 2⟩ else ⟨(go 1 (rows s)).lines, 0, 0⟩

/- what is gathered so far, and what is to come, make the whole -/
def kQ (T : Res) (out : List Ln) (R : Res) : Prop := if R.err = 0 then T = ⟨out ++ R.lines, 0, 0⟩ else T = ⟨[], R.number, R.err⟩
def Tidy (R : Res) : Prop := if R.err = 0 then R.number = 0 else R.lines = []
theorem go_tidy (n : Int) (l : List Bs) : Tidy (go n l) := by
 cases l with
 | nil => simp [go, Tidy]
 | cons r rs =>
   unfold go
   split
   ·rename_i h; simp [Tidy, h]
   ·split
    ·rename_i h; simp [Tidy, h]
    ·simp [Tidy]
theorem JY (R : Res) (h : Tidy R) : kQ R [] R := by
 unfold kQ; unfold Tidy at h
 obtain ⟨a, b, c⟩ := R
 by_cases hc : c = 0
 ·simp [hc] at h ⊢; exact h
 ·simp [hc] at h ⊢; exact h
section
variable {T : Res} {out : List Ln} {n : Int} {r : Bs} {rs : List Bs}
theorem Qx (h : kQ T out (go n (r :: rs))) (he : (l6 r).2 ≠ 0) : T = ⟨[], n, (l6 r).2⟩ := by
 unfold go at h
 rw [if_pos he] at h
 simpa [kQ, he] using h
theorem Nv (h : kQ T out (go n (r :: rs))) (he : (l6 r).2 = 0) (h0 : (l6 r).1 = []) : kQ T out (go (n + 1) rs) := by
 unfold go at h
 rw [if_neg (by simp [he])] at h
 by_cases hr : (go (n + 1) rs).err = 0
 ·rw [if_neg (by simp [hr])] at h
  simpa [kQ, h0, hr] using h
 ·rw [if_pos hr] at h
  simpa [kQ, hr] using h
theorem Nw (h : kQ T out (go n (r :: rs))) (he : (l6 r).2 = 0) (h0 : (l6 r).1 ≠ []) : kQ T (out ++ [⟨n, inner r, (l6 r).1⟩]) (go (n + 1) rs) := by
 unfold go at h
 rw [if_neg (by simp [he])] at h
 by_cases hr : (go (n + 1) rs).err = 0
 ·rw [if_neg (by simp [hr])] at h
  simpa [kQ, h0, hr] using h
 ·rw [if_pos hr] at h
  simpa [kQ, hr] using h
theorem Qw (h : kQ T out (go n [])) : T = ⟨out, 0, 0⟩ := by simpa [kQ, go] using h
end
/- a row that ends at a line feed, and one that ends with the text -/
theorem Cs : ∀ (a b : Bs), (∀ c ∈ a, c ≠ 10) → rows (a ++ 10 :: b) = a :: rows b
 | [], b, _ => by simp [rows]
 | c :: a, b, h => by
   have hc : c ≠ 10 := h c (by simp)
   have := Cs a b (fun d hd => h d (by simp [hd]))
   simp only [List.cons_append]
   conv => lhs; unfold rows
   rw [if_neg hc, this]
theorem Ct : ∀ (a : Bs), (∀ c ∈ a, c ≠ 10) → rows a = [a]
 | [], _ => by simp [rows]
 | c :: a, h => by
   have hc : c ≠ 10 := h c (by simp)
   have := Ct a (fun d hd => h d (by simp [hd]))
   unfold rows
   rw [if_neg hc, this]
theorem QA : l6 [] = ([], 0) := by simp [l6, fields, skip]
theorem Ka {s : Bs} (h : 8000 < s.length) : split s = ⟨[], 0, 2⟩ := by unfold split; rw [if_pos h]
theorem NP {s : Bs} (h : ¬ 8000 < s.length) {n e : Int} (hT : go 1 (rows s) = ⟨[], n, e⟩) (he : e ≠ 0) : split s = ⟨[], n, e⟩ := by unfold split; rw [if_neg h, hT]; simp [he]
theorem Kb {s : Bs} (h : ¬ 8000 < s.length) {o : List Ln} (hT : go 1 (rows s) = ⟨o, 0, 0⟩) (ho : 200 < o.length) : split s = ⟨[], 0, 2⟩ := by unfold split; rw [if_neg h, hT]; simp [ho]
theorem QK {s : Bs} (h : ¬ 8000 < s.length) {o : List Ln} (hT : go 1 (rows s) = ⟨o, 0, 0⟩) (ho : ¬ 200 < o.length) : split s = ⟨o, 0, 0⟩ := by unfold split; rw [if_neg h, hT]; simp [ho]
end Tx
namespace Cv

def lpB (y : Int) : Bool := decide (y % 4 = 0 ∧ (y % 100 ≠ 0 ∨ y % 400 = 0))
def dim (y m : Int) : Int := if m = 4 ∨ m = 6 ∨ m = 9 ∨ m = 11 then 30 else if m = 2 then (if lpB y = true then 29 else 28) else 31
def dby (y : Int) : Int := (y - 1) * 365 + (y - 1) / 4 - (y - 1) / 100 + (y - 1) / 400
def cum (y m : Int) : Int := (367 * m - 362) / 12 + (if m ≤ 2 then 0 else if lpB y = true then -1 else -2)
def num (y m d : Int) : Int := dby y + cum y m + d - 1 - 719162
def iK (y m d : Int) : Bool := decide (1 ≤ y ∧ y ≤ 9999 ∧ 1 ≤ m ∧ m ≤ 12 ∧ 1 ≤ d ∧ d ≤ dim y m)
def jB (y m : Int) : Bool := decide (1 ≤ y ∧ y ≤ 9999 ∧ 1 ≤ m ∧ m ≤ 12)
def wd (n : Int) : Int := (n + 4) % 7
def lp (y : Int) : Int := if lpB y = true then 1 else 0

theorem Lh (y : Int) : lpB y = true ↔ (y % 4 = 0 ∧ (y % 100 ≠ 0 ∨ y % 400 = 0)) := by simp [lpB]
theorem jg {y m d : Int} : iK y m d = true ↔ (1 ≤ y ∧ y ≤ 9999 ∧ 1 ≤ m ∧ m ≤ 12 ∧ 1 ≤ d ∧ d ≤ dim y m) := by simp [iK]
theorem fF {y m : Int} : jB y m = true ↔ (1 ≤ y ∧ y ≤ 9999 ∧ 1 ≤ m ∧ m ≤ 12) := by simp [jB]
theorem jU (y m : Int) : 28 ≤ dim y m ∧ dim y m ≤ 31 := by unfold dim; split <;> (try split) <;> (try split) <;> omega

theorem twelve {m : Int} (h1 : 1 ≤ m) (h2 : m ≤ 12) : m = 1 ∨ m = 2 ∨ m = 3 ∨ m = 4 ∨ m = 5 ∨ m = 6 ∨ m = 7 ∨ m = 8 ∨ m = 9 ∨ m = 10 ∨ m = 11 ∨ m = 12 := by omega

theorem tN (y m : Int) (h1 : 1 ≤ m) (h2 : m ≤ 12) : cum y (m + 1) = cum y m + dim y m := by
 cases hl : lpB y <;> rcases twelve h1 h2 with rfl | rfl | rfl | rfl | rfl | rfl | rfl | rfl | rfl | rfl | rfl | rfl <;> simp [cum, dim, hl]
theorem tL (y : Int) : cum y 1 = 0 := by simp [cum]
theorem IU (y : Int) : cum y 13 = 365 + lp y := by cases hl : lpB y <;> simp [cum, lp, hl]
theorem Dl (y m : Int) (h1 : 1 ≤ m) (h2 : m ≤ 13) : 0 ≤ cum y m ∧ cum y m ≤ 366 := by
 unfold cum; split
 ·omega
 ·split <;> omega
theorem Tu (y m k : Int) (h1 : 1 ≤ m) (h : m < k) (h2 : k ≤ 13) : cum y m + dim y m ≤ cum y k := by
 have h3 : m ≤ 12 := by omega
 cases hl : lpB y <;> rcases twelve h1 h3 with rfl | rfl | rfl | rfl | rfl | rfl | rfl | rfl | rfl | rfl | rfl | rfl <;> simp [cum, dim, hl] <;> (try split) <;> omega
theorem yC (y : Int) : dby (y + 1) = dby y + 365 + lp y := by
 unfold dby lp
 have h := Lh y
 by_cases hl : lpB y = true
 ·rw [if_pos hl]; have := h.1 hl; omega
 ·rw [if_neg hl]
  have : ¬ (y % 4 = 0 ∧ (y % 100 ≠ 0 ∨ y % 400 = 0)) := fun k => hl (h.2 k)
  omega
theorem vw (a b : Int) (h : a ≤ b) : dby a ≤ dby b := by unfold dby; omega
theorem Rs : dby 1 = 0 := by decide
theorem Dn : dby 10000 = 3652059 := by decide
theorem IW (y : Int) (h1 : 1 ≤ y) (h2 : y ≤ 10000) : 0 ≤ dby y ∧ dby y ≤ 3652059 := by
 have a := vw 1 y h1; have b := vw y 10000 h2
 rw [Rs] at a; rw [Dn] at b; exact ⟨a, b⟩
theorem Tv (a b : Int) (h : a < b) : dby a + 365 + lp a ≤ dby b := by
 have := vw (a + 1) b (by omega); rw [yC] at this; exact this

theorem yday {y m d : Int} (h : iK y m d = true) : 0 ≤ cum y m + d - 1 ∧ cum y m + d - 1 < 365 + lp y := by
 have h := jg.1 h
 have a := Dl y m (by omega) (by omega)
 have b := Tu y m 13 (by omega) (by omega) (by omega)
 rw [IU] at b
 omega
theorem jC {y m d : Int} (h : iK y m d = true) : -719162 ≤ num y m d ∧ num y m d ≤ 2932896 := by
 have hy := yday h
 have h' := jg.1 h
 have a := IW y (by omega) (by omega)
 have b := Tv y 10000 (by omega)
 rw [Dn] at b
 unfold num; omega
theorem Tj (n : Int) : 0 ≤ wd n ∧ wd n ≤ 6 := by unfold wd; omega
/- the guess of a year -/
theorem Pv (n : Int) (h0 : 0 ≤ n) (h1 : n < 3652059) : 1 ≤ n * 400 / 146097 + 1 ∧ n * 400 / 146097 + 1 ≤ 9999 ∧ dby (n * 400 / 146097 + 1) ≤ n := by
 unfold dby; omega
theorem SF {n y : Int} (h1 : n < 3652059) (h : dby y ≤ n) : y ≤ 9999 := by
 rcases Int.lt_or_le y 10000 with k | k
 ·omega
 ·have := vw 10000 y k; rw [Dn] at this; omega

end Cv
namespace Cv

def mG (k wk n len : Int) : Bool := decide (0 ≤ wk ∧ wk ≤ 6 ∧ (k = 2 ∧ n = 0 ∨ k ≠ 2 ∧ ¬ (k = 1 ∧ wk ≠ 0) ∧ 1 ≤ n ∧ n ≤ len))
def upto (x wk : Int) : Int := x - (wd x - wk + 7) % 7
def frm (x wk : Int) : Int := x + (wk - wd x + 7) % 7
def tgt (y m k wk n : Int) : Int :=
 if k = 2 then upto (num y m 1 + dim y m - 1) wk else if k = 3 then frm (num y m 1 + n - 1) wk else if k = 4 then upto (num y m 1 + n - 1) wk else num y m 1 + n - 1
def onE (y m k wk n : Int) : Int :=
 if jB y m = false then 3 else if k < 1 ∨ 4 < k then 7 else if mG k wk n (dim y m) = false then 3 else if tgt y m k wk n < -719162 ∨ 2932896 < tgt y m k wk n then 3 else 0

theorem kW {k wk n len : Int} : mG k wk n len = true ↔ (0 ≤ wk ∧ wk ≤ 6 ∧ (k = 2 ∧ n = 0 ∨ k ≠ 2 ∧ ¬ (k = 1 ∧ wk ≠ 0) ∧ 1 ≤ n ∧ n ≤ len)) := by unfold mG; exact decide_eq_true_iff
theorem uT {y m : Int} (h : jB y m = true) : iK y m 1 = true := by
 have a := fF.1 h
 have b := jU y m
 exact jg.2 (by omega)
theorem Lv (x wk : Int) (h : 0 ≤ wk) (h' : wk ≤ 6) : x - 6 ≤ upto x wk ∧ upto x wk ≤ x ∧ wd (upto x wk) = wk := by unfold upto wd; omega
theorem Tz (x wk : Int) (h : 0 ≤ wk) (h' : wk ≤ 6) : x ≤ frm x wk ∧ frm x wk ≤ x + 6 ∧ wd (frm x wk) = wk := by unfold frm wd; omega
theorem uz {y m k wk n : Int} (h : onE y m k wk n = 0) : jB y m = true ∧ 1 ≤ k ∧ k ≤ 4 ∧ mG k wk n (dim y m) = true ∧ -719162 ≤ tgt y m k wk n ∧ tgt y m k wk n ≤ 2932896 := by
 unfold onE at h
 split at h
 ·omega
 rename_i h1
 split at h
 ·omega
 rename_i h2
 split at h
 ·omega
 rename_i h3
 split at h
 ·omega
 rename_i h4
 refine ⟨by simpa using h1, by omega, by omega, by simpa using h3, by omega, by omega⟩
end Cv
namespace Sx
open Tx (Bs)

def gP (c : UInt8) : Bool := decide (97 ≤ c.toNat ∧ c.toNat ≤ 122) || decide (65 ≤ c.toNat ∧ c.toNat ≤ 90)
def fZ (c : UInt8) : Bool := decide (48 ≤ c.toNat ∧ c.toNat ≤ 57)
def kG (c : UInt8) : Bool := gP c || fZ c || c == 95 || c == 45 || c == 47 || c == 43
def dK (c : UInt8) : Bool := gP c || fZ c || c == 43 || c == 45
def Ld : Bs → Bool
 | [] => false
 | c :: _ => gP c
def aW (s : Bs) : Bool := Ld s && decide (s.length ≤ 24) && s.all kG
def dV (s : Bs) : Bool := s.all gP && decide (s.length ≤ 24)
def aU (s : Bs) : Bool := s.all dK
/- how many marks a format has; none: a sign that may not stand there. (first: nothing is ahead) -/
def dH : Bool → Bs → Option Nat
 | _, [] => some 0
 | f, c :: r =>
   if c = 47 then (if f = true ∨ r = [] then none else (dH false r).map (· + 1))
   else if c = 37 then (if r.head? = some 115 then (dH false r).map (· + 1) else none)
   else if dK c = true then dH false r else none
def few : Option Nat → Bool
 | none => false
 | some m => decide (m ≤ 1)
def cZ (s : Bs) : Bool := !s.isEmpty && decide (s.length ≤ 24) && few (dH true s)

structure Rl where
 name : Bs
 frm : Int
 to : Int
 month : Int
 kind : Int
 wk : Int
 n : Int
 at_ : Int
 clock : Int
 save : Int
 letter : Bs
structure Er where
 shift : Int
 rules : Bs
 save : Int
 format : Bs
 opn : Bool
 uy : Int
 um : Int
 ud : Int
 uat : Int
 uclock : Int
structure Zn where
 name : Bs
 eras : List Er
structure Lk where
 to : Bs
 name : Bs
structure Sr where
 rules : List Rl
 zones : List Zn
 links : List Lk

def inB (n a b : Int) : Bool := decide (a ≤ n ∧ n ≤ b)
def dz (r : Rl) : Int :=
 if (aW r.name && dV r.letter) = false then 1
 else if (inB r.frm 1900 r.to && decide (r.to ≤ 2100)) = false then 3
 else if inB r.month 1 12 = false then 3
 else if Cv.onE 2001 r.month r.kind r.wk r.n ≠ 0 then Cv.onE 2001 r.month r.kind r.wk r.n
 else if inB r.at_ 0 172800 = false then 3
 else if inB r.clock 1 3 = false then 7
 else if inB r.save 0 10800 = false then 3 else 0
def Ai (x : Er) : Bool := decide (x.uy = 0 ∧ x.um = 0 ∧ x.ud = 0 ∧ x.uat = 0 ∧ x.uclock = 0)
def rW (x : Er) : Int :=
 if x.opn = true then (if Ai x = true then 0 else 1)
 else if Cv.iK x.uy x.um x.ud = false then 3
 else if inB x.uat 0 172800 = false then 3
 else if x.uclock = 2 ∨ x.uclock = 3 then 0 else 7
def dS (x : Er) (last : Bool) : Int :=
 if ((x.rules.isEmpty || aW x.rules) && cZ x.format) = false then 1
 else if inB x.shift (-64800) 64800 = false then 3
 else if inB x.save 0 10800 = false then 3
 else if (x.rules.isEmpty || decide (x.save = 0)) = false then 1
 else if x.opn ≠ last then 4
 else rW x
def iW : List Er → Int
 | [] => 0
 | [x] => dS x true
 | x :: y :: r => if dS x false ≠ 0 then dS x false else iW (y :: r)
def dm (z : Zn) : Int := if (aW z.name && !z.eras.isEmpty) = false then 1 else iW z.eras
def eU (l : Lk) : Int := if (aW l.to && aW l.name) = false then 1 else 0
def aA {α : Type} (f : α → Int) : List α → Int
 | [] => 0
 | x :: r => if f x ≠ 0 then f x else aA f r
def fw (s : Sr) : Bool := decide (40 < s.rules.length) || decide (20 < s.zones.length) || decide (20 < s.links.length) || s.zones.any fun z => decide (8 < z.eras.length)
def orE (a b : Int) : Int := if a ≠ 0 then a else b
def eB (s : Sr) : Int := if fw s = true then 2 else orE (aA dz s.rules) (orE (aA dm s.zones) (aA eU s.links))

/- what fields say -/
def val : Int → Bs → Int
 | n, [] => n
 | n, c :: r => val (10 * n + (c.toNat : Int) - 48) r
def num (least most : Nat) (s : Bs) : Option Int := if least ≤ s.length ∧ s.length ≤ most ∧ s.all fZ = true then some (val 0 s) else none
/- which of texts of three signs each it is -/
def th (s : Bs) : Nat → Bs → Int
 | k, a :: b :: c :: r => if [a, b, c] = s then k else th s (k + 1) r
 | _, _ => -1
def vH : Bs := [74, 97, 110, 70, 101, 98, 77, 97, 114, 65, 112, 114, 77, 97, 121, 74, 117, 110, 74, 117, 108, 65, 117, 103, 83, 101, 112, 79, 99, 116, 78, 111, 118, 68, 101, 99]
def qw : Bs := [83, 117, 110, 77, 111, 110, 84, 117, 101, 87, 101, 100, 84, 104, 117, 70, 114, 105, 83, 97, 116]
def dE (s : Bs) : Option Int := if th s 0 vH < 0 then none else some (th s 0 vH + 1)
def wkO (s : Bs) : Option Int := if th s 0 qw < 0 then none else some (th s 0 qw)
structure Fm where
 kind : Int
 wk : Int
 n : Int
def rD : Bs := [108, 97, 115, 116]
def wN (s : Bs) : Prop := 5 < s.length ∧ s[4]? = some 61 ∧ (s[3]? = some 62 ∨ s[3]? = some 60)
instance (s : Bs) : Decidable (wN s) := by unfold wN; infer_instance
def oW (s : Bs) : Option Fm :=
 if s.take 4 = rD then (wkO (s.drop 4)).map fun w => ⟨2, w, 0⟩
 else if wN s then
  (wkO (s.take 3)).bind fun w => (num 1 2 (s.drop 5)).map fun n => ⟨if s[3]? = some 60 then 4 else 3, w, n⟩
 else (num 1 2 s).map fun n => ⟨1, 0, n⟩
def dZ : Bs → List Bs
 | [] => [[]]
 | c :: r => if c = 58 then [] :: dZ r else (match dZ r with | [] => [[c]] | x :: xs => (c :: x) :: xs)
def mK (s : Bs) : Option Int := (num 2 2 s).bind fun n => if 59 < n then none else some n
def dR (s : Bs) : Option Int :=
 if s = [48] then some 0 else
 match dZ s with
 | [h, m] => (num 1 2 h).bind fun a => (mK m).map fun b => 3600 * a + 60 * b
 | [h, m, t] => (num 1 2 h).bind fun a => (mK m).bind fun b => (mK t).map fun c => 3600 * a + 60 * b + c
 | _ => none
def pM (none_ : Int) (c : UInt8) : Int := if c = 117 then 3 else if c = 115 then 2 else if c = 119 then 1 else none_
def jh (none_ : Int) (s : Bs) : Option (Int × Int) :=
 match s.getLast? with
 | none => none
 | some c => if fZ c = true then (dR s).map fun n => (n, none_)
   else if c = 117 ∨ c = 115 ∨ c = 119 then (dR s.dropLast).map fun n => (n, pM none_ c) else none
def only : Bs := [111, 110, 108, 121]
def FZ : Bs := [109, 97, 120]
def toO (from_ : Int) (s : Bs) : Option Int := if s = only then some from_ else if s = FZ then some 2100 else num 4 4 s
def kY (s : Bs) : Option Bs := if s = [45] then some [] else if s ≠ [] ∧ dV s = true then some s else none
def mr (s : Bs) : Option Bs := if aW s = true then some s else none
def oq (s : Bs) : Option Int := if s.head? = some 45 then (dR s.tail).map fun n => -n else dR s
def om (s : Bs) : Option (Bs × Int) :=
 if s = [45] then some ([], 0)
 else if (match s with | [] => false | c :: _ => fZ c) = true then (if s = [48] then none else (dR s).map fun n => ([], n))
 else if aW s = true then some (s, 0) else none
def nO (s : Bs) : Option Bs := if cZ s = true then some s else none
def uI : List Bs → Option (Rl × List Bs)
 | a :: b :: c :: d :: e :: f :: g :: h :: rest =>
   (mr a).bind fun name => (num 4 4 b).bind fun frm => (toO frm c).bind fun to => (dE d).bind fun month => (oW e).bind fun fm =>
   (jh 1 f).bind fun ac => (dR g).bind fun save => (kY h).map fun letter => (⟨name, frm, to, month, fm.kind, fm.wk, fm.n, ac.1, ac.2, save, letter⟩, rest)
 | _ => none
def rY : List Bs → Option (Er × List Bs)
 | a :: b :: c :: rest =>
   (oq a).bind fun shift => (om b).bind fun rs => (nO c).bind fun format =>
   match rest with
   | [] => some (⟨shift, rs.1, rs.2, format, true, 0, 0, 0, 0, 0⟩, [])
   | y :: m :: d :: t :: more =>
     (num 4 4 y).bind fun uy => (dE m).bind fun um => (num 1 2 d).bind fun ud => (jh 2 t).bind fun ac =>
     if ac.2 = 1 then none else some (⟨shift, rs.1, rs.2, format, false, uy, um, ud, ac.1, ac.2⟩, more)
   | _ => none
 | _ => none
def Cc : List Bs → Option (Lk × List Bs)
 | a :: b :: rest => (mr a).bind fun to => (mr b).map fun name => (⟨to, name⟩, rest)
 | _ => none
/- what lines say, one behind the other -/
structure St where
 src : Sr
 must : Bool
def uZ (x : Er) : List Zn → List Zn
 | [] => []
 | [z] => [⟨z.name, z.eras ++ [x]⟩]
 | z :: y :: r => z :: uZ x (y :: r)
def uJ : Bs := [82, 117, 108, 101]
def uW : Bs := [90, 111, 110, 101]
def ut : Bs := [76, 105, 110, 107]
def whole {α : Type} : Option (α × List Bs) → Option α
 | some (a, []) => some a
 | _ => none
def Ao : List Bs → Option ((Bs × Er) × List Bs)
 | n :: fs => (mr n).bind fun name => (rY fs).map fun p => ((name, p.1), p.2)
 | [] => none
def rO (st : Sr) : List Bs → Option St
 | [] => none
 | w :: fs =>
   if w = uJ then (whole (uI fs)).map fun r => ⟨⟨st.rules ++ [r], st.zones, st.links⟩, false⟩
   else if w = uW then (whole (Ao fs)).map fun p => ⟨⟨st.rules, st.zones ++ [⟨p.1, [p.2]⟩], st.links⟩, !p.2.opn⟩
   else if w = ut then (whole (Cc fs)).map fun l => ⟨⟨st.rules, st.zones, st.links ++ [l]⟩, false⟩
   else none
def jA (st : St) (l : Tx.Ln) : Option St :=
 if l.inner ≠ st.must then none
 else if st.must = true then (whole (rY l.fields)).map fun x => ⟨⟨st.src.rules, uZ x st.src.zones, st.src.links⟩, !x.opn⟩
 else rO st.src l.fields
def iQ : St → List Tx.Ln → Except Int St
 | st, [] => .ok st
 | st, l :: ls => match jA st l with
   | none => .error l.number
   | some st' => iQ st' ls
structure Pr where
 src : Sr
 number : Int
 err : Int
def gQ : Sr := ⟨[], [], []⟩
def parse (s : Bs) : Pr :=
 if (Tx.split s).err ≠ 0 then ⟨gQ, (Tx.split s).number, (Tx.split s).err⟩ else
 match iQ ⟨gQ, false⟩ (Tx.split s).lines with
 | .error n => ⟨gQ, n, 1⟩
 | .ok st => if st.must = true then ⟨gQ, 0, 1⟩ else if eB st.src ≠ 0 then ⟨gQ, 0, eB st.src⟩ else ⟨st.src, 0, 0⟩
end Sx
namespace Sx

theorem eD {α : Type} {l : List α} {i : Nat} {x : α} (h : l[i]? = some x) : l.drop i = x :: l.drop (i + 1) := by
 obtain ⟨hi, rfl⟩ := q4L.1 h
 exact List.drop_eq_getElem_cons hi
theorem mi {α : Type} (f : α → Int) {l : List α} {i : Nat} {x : α} (h : l[i]? = some x) : aA f (l.drop i) = if f x ≠ 0 then f x else aA f (l.drop (i + 1)) := by
 rw [eD h]; rfl
theorem fH {α : Type} (f : α → Int) {l : List α} {i : Nat} (h : ¬ i < l.length) : aA f (l.drop i) = 0 := by
 rw [List.drop_eq_nil_of_le (by omega)]; rfl
theorem jV {α : Type} (f : α → Int) {l : List α} {i : Nat} {x : α} {E : Int} (h : l[i]? = some x) (hE : E = aA f (l.drop i)) (hx : f x ≠ 0) : E = f x := by
 rw [hE, mi f h, if_pos hx]
theorem jo {α : Type} (f : α → Int) {l : List α} {i : Nat} {x : α} {E : Int} (h : l[i]? = some x) (hE : E = aA f (l.drop i)) (hx : f x = 0) : E = aA f (l.drop (i + 1)) := by
 rw [hE, mi f h, if_neg (by simp [hx])]
theorem Me {l : List Er} {i : Nat} (h : ¬ i < l.length) : iW (l.drop i) = 0 := by
 rw [List.drop_eq_nil_of_le (by omega)]; rfl
theorem yG {l : List Er} {i : Nat} {x : Er} (h : l[i]? = some x) : iW (l.drop i) = if dS x (decide (i + 1 = l.length)) ≠ 0 then dS x (decide (i + 1 = l.length)) else iW (l.drop (i + 1)) := by
 have hi := (q4L.1 h).1
 rw [eD h]
 by_cases q : i + 1 = l.length
 ·rw [List.drop_eq_nil_of_le (by omega)]
  simp only [q, decide_true, iW]
  split
  ·rfl
  ·rename_i q; simpa using q
 ·simp only [q, decide_false]
  obtain ⟨y, hy⟩ : ∃ y, l[i + 1]? = some y := ⟨_, q4G (by omega)⟩
  rw [eD hy]
  rfl
theorem Pb {l : List Er} {i : Nat} {x : Er} {E : Int} {b : Bool} (h : l[i]? = some x) (hb : decide (i + 1 = l.length) = b) (hE : E = iW (l.drop i)) (hx : dS x b ≠ 0) : E = dS x b := by
 rw [hE, yG h, hb, if_pos hx]
theorem I5 {l : List Er} {i : Nat} {x : Er} {E : Int} {b : Bool} (h : l[i]? = some x) (hb : decide (i + 1 = l.length) = b) (hE : E = iW (l.drop i)) (hx : dS x b = 0) : E = iW (l.drop (i + 1)) := by
 rw [hE, yG h, hb, if_neg (by simp [hx])]
theorem Ce {s : Sr} {i : Nat} {z : Zn} (h : s.zones[i]? = some z) (hz : 8 < z.eras.length) : fw s = true := by
 have : s.zones.any (fun z => decide (8 < z.eras.length)) = true := List.any_eq_true.2 ⟨z, List.mem_of_getElem? h, by simpa using hz⟩
 simp [fw, this]
theorem DT {s : Sr} (h1 : ¬ 40 < s.rules.length) (h2 : ¬ 20 < s.zones.length) (h3 : ¬ 20 < s.links.length) (h : ∀ (j : Nat) (z : Zn), j < s.zones.length → s.zones[j]? = some z → ¬ 8 < z.eras.length) : fw s = false := by
 have : s.zones.any (fun z => decide (8 < z.eras.length)) = false := by
  rw [List.any_eq_false]
  intro z hz
  obtain ⟨j, hj⟩ := List.mem_iff_getElem?.1 hz
  simpa using h j z (q4L.1 hj).1 hj
 simp [fw, this, h1, h2, h3]
theorem kM {s : Sr} (h : fw s = true) : eB s = 2 := by unfold eB; rw [if_pos h]
theorem xQ {s : Sr} (h : fw s = false) : eB s = orE (aA dz s.rules) (orE (aA dm s.zones) (aA eU s.links)) := by unfold eB; rw [if_neg (by simp [h])]
theorem Gg {a b : Int} (h : a ≠ 0) : orE a b = a := if_pos h
theorem vK {a b : Int} (h : a = 0) : orE a b = b := if_neg (by simp [h])
end Sx
namespace Sx

structure Tn where
 stands : Int
 clock : Int
 save : Int
 letter : Tx.Bs
structure Tm where
 at_ : Int
 save : Int
 letter : Tx.Bs
def gU (r : Rl) (y : Int) : Tn := ⟨Cv.tgt y r.month r.kind r.wk r.n * 86400 + r.at_, r.clock, r.save, r.letter⟩
def many (r : Rl) : Nat := (r.to - r.frm + 1).toNat
def ko (r : Rl) : List Tn := (List.range (many r)).map fun (k : Nat) => gU r (r.frm + (k : Int))
def turnsOf (rs : List Rl) (name : Tx.Bs) : List Tn := (rs.filter fun r => r.name == name).flatMap ko
/- in order -/
def ins (t : Tn) : List Tn → List Tn
 | [] => [t]
 | u :: r => if t.stands < u.stands then t :: u :: r else u :: ins t r
def iM : List Tn → List Tn
 | [] => []
 | t :: r => ins t (iM r)
def cB (p : Int) : List Tn → Bool
 | [] => true
 | u :: r => decide (172800 ≤ u.stands - p) && cB u.stands r
def apart : List Tn → Bool
 | [] => true
 | t :: r => cB t.stands r
def dX (shift s : Int) (t : Tn) : Tm := ⟨(if t.clock = 3 then t.stands else t.stands - shift) - (if t.clock = 1 then s else 0), t.save, t.letter⟩
def bV (shift : Int) : Int → List Tn → List Tm
 | _, [] => []
 | s, t :: r => dX shift s t :: bV shift t.save r
def aY (rs : List Rl) (name : Tx.Bs) (shift : Int) : Int :=
 if eB ⟨rs, [], []⟩ ≠ 0 then eB ⟨rs, [], []⟩ else if inB shift (-64800) 64800 = false then 3
 else if (turnsOf rs name).isEmpty = true then 5 else if apart (iM (turnsOf rs name)) = false then 4 else if 1000 < (turnsOf rs name).length then 2 else 0
def times (rs : List Rl) (name : Tx.Bs) (shift : Int) : List Tm := if aY rs name shift = 0 then bV shift 0 (iM (turnsOf rs name)) else []

/- what is in order is so in one way alone, but for what stands alike -/
def jb (l : List Tn) : Prop := l.Pairwise fun a b => a.stands ≤ b.stands
theorem ze (t : Tn) : ∀ l, (ins t l).Perm (t :: l)
 | [] => .refl _
 | u :: r => by
   unfold ins
   split
   ·exact .refl _
   ·exact ((ze t r).cons u).trans (.swap t u r)
theorem jW : ∀ l, (iM l).Perm l
 | [] => .refl _
 | t :: r => (ze t (iM r)).trans ((jW r).cons t)
theorem zf (t : Tn) : ∀ l, jb l → jb (ins t l)
 | [], _ => by simp [ins, jb]
 | u :: r, h => by
   have h' := List.pairwise_cons.1 h
   unfold ins
   split
   ·rename_i q
    refine List.pairwise_cons.2 ⟨fun x hx => ?_, h⟩
    rcases List.mem_cons.1 hx with rfl | hx
    ·omega
    ·have := h'.1 x hx; omega
   ·rename_i q
    refine List.pairwise_cons.2 ⟨fun x hx => ?_, zf t r h'.2⟩
    rcases List.mem_cons.1 ((ze t r).mem_iff.1 hx) with rfl | hx
    ·omega
    ·exact h'.1 x hx
theorem uj : ∀ l, jb (iM l)
 | [] => by simp [iM, jb]
 | t :: r => zf t _ (uj r)
theorem GY {a b : List Tn} (h : a.Perm b) (ha : jb a) (hb : jb b) : a.map Tn.stands = b.map Tn.stands := by
 have hk : (a.map Tn.stands).Perm (b.map Tn.stands) := h.map _
 have pa : (a.map Tn.stands).Pairwise (· ≤ ·) := List.pairwise_map.2 ha
 have pb : (b.map Tn.stands).Pairwise (· ≤ ·) := List.pairwise_map.2 hb
 exact List.Perm.eq_of_pairwise (fun x y _ _ h1 h2 => Int.le_antisymm h1 h2) pa pb hk
theorem o9 : ∀ (a b : List Tn) (p : Int), a.map Tn.stands = b.map Tn.stands → cB p a = cB p b
 | [], [], _, _ => rfl
 | x :: a, y :: b, p, h => by
   simp at h
   simp only [cB, h.1]
   rw [o9 a b _ h.2]
 | [], y :: b, _, h => by simp at h
 | x :: a, [], _, h => by simp at h
theorem Iy {a b : List Tn} (h : a.map Tn.stands = b.map Tn.stands) : apart a = apart b := by
 match a, b, h with
 | [], [], _ => rfl
 | x :: a, y :: b, h =>
   simp at h
   show cB _ _ = cB _ _
   rw [h.1]; exact o9 a b _ h.2
 | [], y :: b, h => simp at h
 | x :: a, [], h => simp at h
theorem nK : ∀ (l : List Tn) (p : Int), cB p l = true → ∀ x ∈ l, p < x.stands
 | [], _, _ => by simp
 | u :: r, p, h => by
   simp [cB] at h
   intro x hx
   rcases List.mem_cons.1 hx with rfl | hx
   ·omega
   ·have := nK r _ h.2 x hx; omega
theorem tJ : ∀ (l : List Tn) (p : Int), cB p l = true → l.Pairwise fun a b => a.stands < b.stands
 | [], _, _ => by simp
 | u :: r, p, h => by
   simp [cB] at h
   exact List.pairwise_cons.2 ⟨nK r _ h.2, tJ r _ h.2⟩
theorem EL {l : List Tn} (h : apart l = true) : l.Pairwise fun a b => a.stands < b.stands := by
 match l, h with
 | [], _ => simp
 | u :: r, h => exact List.pairwise_cons.2 ⟨nK r _ h, tJ r _ h⟩
/- two lists of the same things, both with strictly rising keys, are one -/
theorem NV {a b : List Tn} (h : a.Perm b) (ha : a.Pairwise fun x y => x.stands < y.stands) (hb : b.Pairwise fun x y => x.stands < y.stands) : a = b :=
 List.Perm.eq_of_pairwise (fun x y _ _ h1 h2 => absurd h1 (by omega)) ha hb h
theorem ordered {o ts : List Tn} (h : o.Perm ts) (hs : jb o) : apart o = apart (iM ts) ∧ (apart o = true → o = iM ts) := by
 have hp : o.Perm (iM ts) := h.trans (jW ts).symm
 have hk := Iy (GY hp hs (uj ts))
 exact ⟨hk, fun q => NV hp (EL q) (EL (hk ▸ q))⟩

/- times, one by one -/
theorem ky (shift : Int) : ∀ (l : List Tn) (s : Int), (bV shift s l).length = l.length
 | [], _ => rfl
 | t :: r, s => by simp [bV, ky shift r]
def prev (s : Int) (l : List Tn) : Nat → Int
 | 0 => s
 | i + 1 => ((l[i]?).map Tn.save).getD 0
theorem kw (shift : Int) : ∀ (l : List Tn) (s : Int) (i : Nat) (t : Tn), l[i]? = some t → (bV shift s l)[i]? = some (dX shift (prev s l i) t)
 | u :: r, s, 0, t, h => by simp at h; subst h; rfl
 | u :: r, s, i + 1, t, h => by
   have := kw shift r u.save i t (by simpa using h)
   simp only [bV, List.getElem?_cons_succ]
   rw [this]
   cases i with
   | zero => simp [prev]
   | succ i => simp [prev]
 | [], s, i, t, h => by simp at h
theorem ru : ∀ (l : List Tn) (p : Int) (i : Nat) (a b : Tn), cB p l = true → l[i]? = some a → l[i + 1]? = some b → 172800 ≤ b.stands - a.stands
 | u :: v :: r, p, 0, a, b, h, ha, hb => by
   simp at ha hb; subst ha hb
   simp [cB] at h; omega
 | u :: r, p, i + 1, a, b, h, ha, hb => by
   simp [cB] at h
   exact ru r u.stands i a b h.2 (by simpa using ha) (by simpa using hb)
 | [], p, i, a, b, h, ha, hb => by simp at ha
 | [u], p, 0, a, b, h, ha, hb => by simp at hb
theorem A9 {l : List Tn} {i : Nat} {a b : Tn} (h : apart l = true) (ha : l[i]? = some a) (hb : l[i + 1]? = some b) : 172800 ≤ b.stands - a.stands := by
 match l, i, h, ha, hb with
 | u :: v :: r, 0, h, ha, hb =>
   simp at ha hb; subst ha hb
   simp [apart, cB] at h; omega
 | u :: r, i + 1, h, ha, hb => exact ru r u.stands i a b h (by simpa using ha) (by simpa using hb)
 | [], i, h, ha, hb => simp at ha
 | [u], 0, h, ha, hb => simp at hb
theorem D6 {l : List Tn} (h : ∀ t ∈ l, 0 ≤ t.save ∧ t.save ≤ 10800) (i : Nat) : 0 ≤ prev 0 l i ∧ prev 0 l i ≤ 10800 := by
 cases i with
 | zero => simp [prev]
 | succ i =>
   simp only [prev]
   cases hi : l[i]? with
   | none => simp
   | some t => simpa using h t (List.mem_of_getElem? hi)
theorem Et {shift s : Int} {t : Tn} (h1 : -64800 ≤ shift) (h2 : shift ≤ 64800) (s1 : 0 ≤ s) (s2 : s ≤ 10800) : t.stands - 75600 ≤ (dX shift s t).at_ ∧ (dX shift s t).at_ ≤ t.stands + 64800 := by
 simp only [dX]
 split <;> split <;> omega
theorem Ko {l : List Tn} {shift : Int} {i : Nat} {x y : Tm} (h1 : -64800 ≤ shift) (h2 : shift ≤ 64800) (h : ∀ t ∈ l, 0 ≤ t.save ∧ t.save ≤ 10800) (ha : apart l = true)
  (hx : (bV shift 0 l)[i]? = some x) (hy : (bV shift 0 l)[i + 1]? = some y) : x.at_ < y.at_ := by
 have hl : i + 1 < l.length := by rw [← ky shift l 0]; exact (q4L.1 hy).1
 obtain ⟨a, qa⟩ : ∃ a, l[i]? = some a := ⟨_, q4G (by omega)⟩
 obtain ⟨b, qb⟩ : ∃ b, l[i + 1]? = some b := ⟨_, q4G hl⟩
 rw [kw shift l 0 i a qa] at hx
 rw [kw shift l 0 (i + 1) b qb] at hy
 simp at hx hy
 subst hx hy
 have d := A9 ha qa qb
 have p1 := D6 h i
 have p2 := D6 h (i + 1)
 have b1 := Et (t := a) h1 h2 p1.1 p1.2
 have b2 := Et (t := b) h1 h2 p2.1 p2.2
 omega
theorem sU {rs : List Rl} {name : Tx.Bs} (h : ∀ r ∈ rs, 0 ≤ r.save ∧ r.save ≤ 10800) : ∀ t ∈ turnsOf rs name, 0 ≤ t.save ∧ t.save ≤ 10800 := by
 intro t ht
 simp only [turnsOf, List.mem_flatMap, List.mem_filter, ko, List.mem_map] at ht
 obtain ⟨r, ⟨hr, _⟩, k, _, rfl⟩ := ht
 exact h r hr
theorem zi {l : List Tn} (h : ∀ t ∈ l, 0 ≤ t.save ∧ t.save ≤ 10800) : ∀ t ∈ iM l, 0 ≤ t.save ∧ t.save ≤ 10800 := fun t ht => h t ((jW l).mem_iff.1 ht)
end Sx
namespace Sx

structure fV (r : Rl) : Prop where
 frm : 1900 ≤ r.frm
 le : r.frm ≤ r.to
 «to» : r.to ≤ 2100
 month : 1 ≤ r.month ∧ r.month ≤ 12
 on : Cv.onE 2001 r.month r.kind r.wk r.n = 0
 at_ : 0 ≤ r.at_ ∧ r.at_ ≤ 172800
 clock : 1 ≤ r.clock ∧ r.clock ≤ 3
 save : 0 ≤ r.save ∧ r.save ≤ 10800
theorem xP {r : Rl} (h : dz r = 0) : fV r := by
 unfold dz at h
 split at h
 ·omega
 split at h
 ·omega
 rename_i h2
 split at h
 ·omega
 rename_i h3
 split at h
 ·rename_i h4; exact absurd h h4
 rename_i h4
 split at h
 ·omega
 rename_i h5
 split at h
 ·omega
 rename_i h6
 split at h
 ·omega
 rename_i h7
 simp [inB] at h2 h3 h5 h6 h7 h4
 exact ⟨by omega, by omega, by omega, by omega, h4, by omega, by omega, by omega⟩
theorem IY (y m : Int) : Cv.dim 2001 m ≤ Cv.dim y m := by
 have h : Cv.lpB 2001 = false := by decide
 unfold Cv.dim
 split
 ·omega
 ·split
  ·rw [h, if_neg (by decide)]; split <;> omega
  ·omega
theorem OM {y : Int} (h1 : 1900 ≤ y) (h2 : y ≤ 2100) : 693000 ≤ Cv.dby y ∧ Cv.dby y ≤ 767000 := by
 have a := Cv.vw 1900 y h1
 have b := Cv.vw y 2100 h2
 have e1 : Cv.dby 1900 = 693595 := by decide
 have e2 : Cv.dby 2100 = 766644 := by decide
 omega
theorem Qi {y m : Int} (h1 : 1900 ≤ y) (h2 : y ≤ 2100) (m1 : 1 ≤ m) (m2 : m ≤ 12) : -30000 ≤ Cv.num y m 1 ∧ Cv.num y m 1 ≤ 50000 := by
 have a := OM h1 h2
 have b := Cv.Dl y m m1 (by omega)
 unfold Cv.num
 omega
theorem QT {y m k wk n : Int} (h1 : 1900 ≤ y) (h2 : y ≤ 2100) (m1 : 1 ≤ m) (m2 : m ≤ 12) (hf : Cv.mG k wk n (Cv.dim y m) = true) : -40000 ≤ Cv.tgt y m k wk n ∧ Cv.tgt y m k wk n ≤ 60000 := by
 have a := Qi h1 h2 m1 m2
 have d := Cv.jU y m
 obtain ⟨w1, w2, f⟩ := Cv.kW.1 hf
 unfold Cv.tgt
 split
 ·have := Cv.Lv (Cv.num y m 1 + Cv.dim y m - 1) wk w1 w2; omega
 split
 ·have := Cv.Tz (Cv.num y m 1 + n - 1) wk w1 w2; omega
 split
 ·have := Cv.Lv (Cv.num y m 1 + n - 1) wk w1 w2; omega
 ·omega
theorem uA {r : Rl} (h : fV r) {y : Int} (h1 : 1900 ≤ y) (h2 : y ≤ 2100) : Cv.onE y r.month r.kind r.wk r.n = 0 ∧ -40000 ≤ Cv.tgt y r.month r.kind r.wk r.n ∧ Cv.tgt y r.month r.kind r.wk r.n ≤ 60000 := by
 obtain ⟨_, k1, k2, f, _, _⟩ := Cv.uz h.on
 have m := h.month
 have hd := IY y r.month
 obtain ⟨w1, w2, f⟩ := Cv.kW.1 f
 have f' : Cv.mG r.kind r.wk r.n (Cv.dim y r.month) = true := Cv.kW.2 ⟨w1, w2, by rcases f with f | ⟨a, b, c, d⟩
                                                                                  ·exact .inl f
                                                                                  ·exact .inr ⟨a, b, c, by omega⟩⟩
 have t := QT h1 h2 m.1 m.2 f'
 refine ⟨?_, t⟩
 unfold Cv.onE
 rw [if_neg (by rw [Cv.fF.2 (by omega)]; decide), if_neg (by omega), if_neg (by rw [f']; decide), if_neg (by omega)]
theorem jq {α : Type} (f : α → Int) : ∀ {l : List α}, aA f l = 0 → ∀ x ∈ l, f x = 0
 | [], _ => by simp
 | a :: r, h => by
   unfold aA at h
   split at h
   ·rename_i q; exact absurd h q
   ·rename_i q
    intro x hx
    rcases List.mem_cons.1 hx with rfl | hx
    ·simpa using q
    ·exact jq f h x hx
/- what was turned rule by rule -/
theorem Ex (rs : List Rl) (r : Rl) (name : Tx.Bs) : turnsOf (rs ++ [r]) name = turnsOf rs name ++ (if (r.name == name) = true then ko r else []) := by
 unfold turnsOf
 rw [List.filter_append, List.flatMap_append]
 congr 1
 cases q : (r.name == name) <;> simp [q]
theorem oM {rs : List Rl} {name : Tx.Bs} {i : Nat} {r : Rl} (h : rs[i]? = some r) : turnsOf (rs.take (i + 1)) name = turnsOf (rs.take i) name ++ (if (r.name == name) = true then ko r else []) := by
 have hi := (q4L.1 h).1
 rw [List.take_succ_eq_append_getElem hi, (q4L.1 h).2]
 exact Ex _ _ _
def iJ (r : Rl) (k : Nat) : List Tn := (List.range k).map fun (j : Nat) => gU r (r.frm + (j : Int))
theorem oO (r : Rl) (k : Nat) : iJ r (k + 1) = iJ r k ++ [gU r (r.frm + (k : Int))] := by simp [iJ, List.range_succ]
theorem xu (r : Rl) : iJ r (many r) = ko r := rfl
end Sx
namespace Sx
abbrev Trn := Int × Rl
def j6 (p : Trn) : Tn := ⟨p.1, p.2.clock, p.2.save, p.2.letter⟩
def CW (y : Int) (r : Rl) : Trn := (Cv.tgt y r.month r.kind r.wk r.n * 86400 + r.at_, r)
def FI (name : Tx.Bs) (y : Int) (r : Rl) : Bool := r.name == name && inB y r.frm r.to
def kN (rs : List Rl) (name : Tx.Bs) (y : Int) : List Trn := (rs.filter (FI name y)).map (CW y)
def jl (rs : List Rl) (name : Tx.Bs) (k : Nat) : List Trn := (List.range k).flatMap fun (j : Nat) => kN rs name (1900 + (j : Int))
def kR (rs : List Rl) (name : Tx.Bs) (k i : Nat) : Bool := if k = 0 then (rs.take i).any (fun r => r.name == name) else rs.any fun r => r.name == name
theorem Fw {α β : Type} (f g : α → List β) : ∀ l : List α, (l.flatMap fun x => f x ++ g x).Perm (l.flatMap f ++ l.flatMap g)
 | [] => .refl _
 | a :: r => by
   simp only [List.flatMap_cons]
   refine ((List.Perm.append_left _ (Fw f g r))).trans ?_
   rw [List.append_assoc, List.append_assoc]
   refine List.Perm.append_left _ ?_
   rw [← List.append_assoc, ← List.append_assoc]
   exact List.Perm.append_right _ List.perm_append_comm
theorem BL {α β γ : Type} (f : α → γ → List β) (l : List α) : ∀ m : List γ, (l.flatMap fun a => m.flatMap (f a)).Perm (m.flatMap fun c => l.flatMap fun a => f a c)
 | [] => by
   have : (l.flatMap fun a => ([] : List γ).flatMap (f a)) = [] := by
    induction l with
    | nil => rfl
    | cons a r ih => simp only [List.flatMap_cons, List.flatMap_nil, List.nil_append] at ih ⊢; exact ih
   rw [this]; exact .refl _
 | c :: r => by
   simp only [List.flatMap_cons]
   exact (Fw _ _ l).trans ((BL f l r).append_left _)
theorem BJ {α β : Type} {f g : α → List β} : ∀ l : List α, (∀ a ∈ l, (f a).Perm (g a)) → (l.flatMap f).Perm (l.flatMap g)
 | [], _ => .refl _
 | a :: r, h => by
   simp only [List.flatMap_cons]
   exact (h a (by simp)).append (BJ r fun b hb => h b (List.mem_cons_of_mem _ hb))
theorem mh {α β : Type} (p : α → Bool) (f : α → β) : ∀ l : List α, (l.filter p).map f = l.flatMap fun a => if p a = true then [f a] else []
 | [] => rfl
 | a :: r => by
   rw [List.flatMap_cons, List.filter_cons]
   cases h : p a
   ·simp only [Bool.false_eq_true, ↓reduceIte, List.nil_append]; exact mh p f r
   ·simp only [↓reduceIte, List.map_cons, List.singleton_append]; rw [mh p f r]
/- the years of a rule among all years -/
theorem Ra {r : Rl} (h : fV r) : ((List.range 201).filter fun (j : Nat) => inB (1900 + (j : Int)) r.frm r.to).Perm ((List.range (many r)).map fun (k : Nat) => k + (r.frm - 1900).toNat) := by
 have h1 := h.frm; have h2 := h.le; have h3 := h.to
 refine (List.perm_ext_iff_of_nodup (List.nodup_range.filter _) ?_).2 fun j => ?_
 ·refine List.Pairwise.map _ (fun a b hab => ?_) List.nodup_range
  omega
 ·simp only [List.mem_filter, List.mem_range, List.mem_map, inB, decide_eq_true_eq, many]
  constructor
  ·rintro ⟨a, b, c⟩; exact ⟨j - (r.frm - 1900).toNat, by omega, by omega⟩
  ·rintro ⟨k, a, rfl⟩; omega
theorem Ey {r : Rl} (h : fV r) : ((List.range 201).flatMap fun (j : Nat) => if inB (1900 + (j : Int)) r.frm r.to = true then [gU r (1900 + (j : Int))] else []).Perm (ko r) := by
 rw [← mh (fun j : Nat => inB (1900 + (j : Int)) r.frm r.to) (fun j : Nat => gU r (1900 + (j : Int)))]
 refine ((Ra h).map _).trans ?_
 rw [List.map_map]
 unfold ko
 have : ((fun j : Nat => gU r (1900 + (j : Int))) ∘ fun k : Nat => k + (r.frm - 1900).toNat) = fun k : Nat => gU r (r.frm + (k : Int)) := by
  funext k
  have := h.frm
  show gU r (1900 + ((k + (r.frm - 1900).toNat : Nat) : Int)) = _
  rw [show (1900 + ((k + (r.frm - 1900).toNat : Nat) : Int)) = r.frm + (k : Int) by omega]
 rw [this]
/- all years of all rules -/
theorem KF {rs : List Rl} (name : Tx.Bs) (h : ∀ r ∈ rs, fV r) : ((jl rs name 201).map j6).Perm (turnsOf rs name) := by
 have e1 : (jl rs name 201).map j6 = (List.range 201).flatMap fun (j : Nat) => (rs.filter fun r => r.name == name).flatMap fun r => if inB (1900 + (j : Int)) r.frm r.to = true then [gU r (1900 + (j : Int))] else [] := by
  unfold jl
  rw [List.map_flatMap]
  congr 1
  funext j
  unfold kN
  rw [List.map_map, mh]
  clear h
  induction rs with
  | nil => rfl
  | cons r l ih =>
    rw [List.flatMap_cons, List.filter_cons]
    cases q : r.name == name
    ·simp only [FI, q, Bool.false_and, Bool.false_eq_true, ↓reduceIte, List.nil_append]
     exact ih
    ·simp only [FI, q, Bool.true_and, ↓reduceIte, List.flatMap_cons]
     rw [← ih]; rfl
 rw [e1]
 refine (BL (fun (j : Nat) (r : Rl) => if inB (1900 + (j : Int)) r.frm r.to = true then [gU r (1900 + (j : Int))] else []) (List.range 201) _).trans ?_
 exact BJ _ fun r hr => Ey (h r (List.mem_filter.1 hr).1)
theorem Io {rs : List Rl} (name : Tx.Bs) (h : ∀ r ∈ rs, fV r) : (turnsOf rs name).isEmpty = !(rs.any fun r => r.name == name) := by
 cases q : rs.any fun r => r.name == name
 ·have : (rs.filter fun r => r.name == name) = [] := by
   rw [List.filter_eq_nil_iff]
   intro r hr w
   have := List.any_eq_false.1 q r hr
   exact this w
  unfold turnsOf
  rw [this]; rfl
 ·obtain ⟨r, hr, w⟩ := List.any_eq_true.1 q
  have ok := h r hr
  have h1 := ok.le
  have hm : gU r (r.frm + ((0 : Nat) : Int)) ∈ turnsOf rs name := by
   simp only [turnsOf, List.mem_flatMap, List.mem_filter, ko, List.mem_map, List.mem_range]
   exact ⟨r, ⟨hr, w⟩, 0, by simp only [many]; omega, rfl⟩
  cases c : turnsOf rs name with
  | nil => rw [c] at hm; cases hm
  | cons a l => rfl
/- putting in from the end -/
def xX (l : List Trn) : Prop := l.Pairwise fun a b => a.1 ≤ b.1
def putAt (l : List Trn) (k : Nat) (t : Trn) : List Trn := l.take k ++ t :: l.drop k
theorem jr (l : List Trn) (k : Nat) (t : Trn) : (putAt l k t).length = l.length + 1 := by
 unfold putAt
 rw [List.length_append, List.length_cons, ← Nat.add_assoc, ← List.length_append, List.take_append_drop]
theorem Nk (l : List Trn) (t : Trn) : putAt l l.length t = l ++ [t] := by unfold putAt; rw [List.take_length, List.drop_length]
theorem JL (l : List Trn) (k : Nat) (t : Trn) : (putAt l k t).Perm (l ++ [t]) := by
 unfold putAt
 refine List.perm_middle.trans ?_
 rw [List.take_append_drop]
 exact (List.perm_append_singleton t l).symm
theorem Qt {l : List Trn} {k : Nat} (t : Trn) (h : k ≤ l.length) : (putAt l k t)[k]? = some t := by
 unfold putAt
 rw [List.getElem?_append_right (by rw [List.length_take]; omega), List.length_take, Nat.min_eq_left h, Nat.sub_self]
 rfl
theorem Gv {l : List Trn} {k : Nat} (t : Trn) (h : k + 1 ≤ l.length) : (putAt l (k + 1) t)[k]? = l[k]? := by
 unfold putAt
 rw [List.getElem?_append_left (by rw [List.length_take]; omega), List.getElem?_take]
 rw [if_pos (by omega)]
theorem JM {l : List Trn} {k : Nat} {t x : Trn} (h : l[k]? = some x) : ((putAt l (k + 1) t).set (k + 1) x).set k t = putAt l k t := by
 have hk : k < l.length := (q4L.1 h).1
 have e1 : l.take (k + 1) = l.take k ++ [x] := by rw [List.take_add_one, h]; rfl
 have e2 : l.drop k = x :: l.drop (k + 1) := by rw [List.drop_eq_getElem_cons hk]; rw [q4G hk] at h; simp at h; rw [h]
 unfold putAt
 rw [e1, e2]
 have lk : (l.take k).length = k := by rw [List.length_take]; omega
 rw [List.append_assoc, List.set_append_right _ _ (by omega), lk, List.set_append_right _ _ (by omega), lk]
 simp
theorem D8 {l : List Trn} {k : Nat} {t : Trn} (hs : xX l) (h1 : ∀ j x, k ≤ j → l[j]? = some x → t.1 < x.1) (h2 : ∀ x, 0 < k → l[k - 1]? = some x → x.1 ≤ t.1) (hk : k ≤ l.length) : xX (putAt l k t) := by
 unfold putAt xX
 have hs' : (l.take k ++ l.drop k).Pairwise (fun a b : Trn => a.1 ≤ b.1) := by rw [List.take_append_drop]; exact hs
 obtain ⟨a1, a2, a3⟩ := List.pairwise_append.1 hs'
 refine List.pairwise_append.2 ⟨a1, List.pairwise_cons.2 ⟨fun x hx => ?_, a2⟩, fun x hx y hy => ?_⟩
 ·obtain ⟨j, hj⟩ := List.mem_iff_getElem?.1 hx
  rw [List.getElem?_drop] at hj
  have := h1 (k + j) x (by omega) hj
  omega
 ·rcases List.mem_cons.1 hy with rfl | hy
  ·have hk0 : 0 < k := by
    rcases Nat.eq_zero_or_pos k with q | q
    ·rw [q] at hx; simp at hx
    ·exact q
   obtain ⟨j, hj⟩ := List.mem_iff_getElem?.1 hx
   rw [List.getElem?_take] at hj
   split at hj
   ·rename_i jk
    have hz := q4G (l := l) (i := k - 1) (by omega)
    have b := h2 _ hk0 hz
    rcases Nat.lt_or_ge j (k - 1) with c | c
    ·have hjl := (q4L.1 hj).1
     have := List.pairwise_iff_getElem.1 hs j (k - 1) hjl (by omega) c
     have ej : l[j] = x := (q4L.1 hj).2
     rw [ej] at this
     omega
    ·have : j = k - 1 := by omega
     subst this
     rw [hz] at hj
     simp at hj
     rw [← hj]; exact b
   ·cases hj
  ·exact a3 x hx y hy
theorem J8 {l : List Trn} (h : xX l) : jb (l.map j6) := List.pairwise_map.2 h
theorem KD {rs : List Rl} {i : Nat} {r : Rl} (name : Tx.Bs) (y : Int) (h : rs[i]? = some r) : kN (rs.take (i + 1)) name y = kN (rs.take i) name y ++ (if FI name y r = true then [CW y r] else []) := by
 unfold kN
 rw [List.take_add_one, h, Option.toList_some, List.filter_append, List.map_append]
 congr 1
 rw [List.filter_cons]
 split <;> rfl
theorem Im (rs : List Rl) (name : Tx.Bs) (k : Nat) : jl rs name (k + 1) = jl rs name k ++ kN rs name (1900 + (k : Int)) := by
 unfold jl
 rw [List.range_succ, List.flatMap_append]
 simp
theorem MO {rs : List Rl} {name : Tx.Bs} {k : Nat} {p : Trn} (hk : k ≤ 201) (h : p ∈ jl rs name k) : p.2 ∈ rs ∧ ∃ y : Int, 1900 ≤ y ∧ y ≤ 2100 ∧ p.1 = Cv.tgt y p.2.month p.2.kind p.2.wk p.2.n * 86400 + p.2.at_ := by
 simp only [jl, kN, List.mem_flatMap, List.mem_range, List.mem_map, List.mem_filter] at h
 obtain ⟨j, hj, r, ⟨hr, _⟩, rfl⟩ := h
 exact ⟨hr, _, by omega, by omega, rfl⟩
theorem Hw {rs : List Rl} {i : Nat} {r : Rl} (name : Tx.Bs) (k : Nat) (h : rs[i]? = some r) : kR rs name k (i + 1) = (kR rs name k i || r.name == name) := by
 unfold kR
 split
 ·rw [List.take_add_one, h, Option.toList_some, List.any_append]; simp
 ·have : rs.any (fun r => r.name == name) = (rs.any (fun r => r.name == name) || r.name == name) := by
   cases q : r.name == name
   ·simp
   ·have : rs.any (fun r => r.name == name) = true := List.any_eq_true.2 ⟨r, List.mem_of_getElem? h, q⟩
    rw [this]; rfl
  exact this
theorem Hy (rs : List Rl) (name : Tx.Bs) (k : Nat) : kR rs name k rs.length = kR rs name (k + 1) 0 := by
 unfold kR
 rw [List.take_length]
 split <;> rfl
/- the times, one by one, out of what is in order -/
theorem qm (shift : Int) (t : Tn) : ∀ (l : List Tn) (s : Int), bV shift s (l ++ [t]) = bV shift s l ++ [dX shift (prev s (l ++ [t]) l.length) t]
 | [], s => rfl
 | u :: r, s => by
   show dX shift s u :: bV shift u.save (r ++ [t]) = dX shift s u :: (bV shift u.save r ++ [_])
   rw [qm shift t r u.save]
   congr 4
   cases r with
   | nil => rfl
   | cons v r => simp only [prev, List.length_cons, List.cons_append, List.getElem?_cons_succ]
theorem Ib {rs : List Rl} {name : Tx.Bs} {shift : Int} (h : 40 < rs.length) : aY rs name shift = 2 := by
 have : eB ⟨rs, [], []⟩ = 2 := kM (by simp [fw, h])
 unfold aY
 rw [this]; rfl
theorem Kl {rs : List Rl} {name : Tx.Bs} {shift E : Int} (h : eB ⟨rs, [], []⟩ = E) (h0 : E ≠ 0) : aY rs name shift = E := by
 unfold aY; rw [h, if_pos h0]
theorem Ev {rs : List Rl} {name : Tx.Bs} {shift : Int} (h : eB ⟨rs, [], []⟩ = 0) (h2 : inB shift (-64800) 64800 = false) : aY rs name shift = 3 := by
 unfold aY; rw [h, if_neg (by simp), if_pos h2]
theorem sO {rs : List Rl} (h : ¬ 40 < rs.length) : eB ⟨rs, [], []⟩ = orE (aA dz (rs.drop 0)) (orE 0 0) := by
 unfold eB
 rw [if_neg (by simp [fw]; omega)]; rfl
theorem GN {rs : List Rl} (h : eB ⟨rs, [], []⟩ = 0) : ∀ r ∈ rs, fV r := by
 intro r hr
 unfold eB at h
 split at h
 ·omega
 ·unfold orE at h
  split at h
  ·rename_i q; exact absurd h q
  ·rename_i q
   simp at q
   exact xP (jq dz q r hr)
/- what is in order, and what it comes to -/
theorem EJ : ∀ (l : List Tn) (p : Int), (∀ a, l[0]? = some a → 172800 ≤ a.stands - p) → (∀ (j : Nat) a b, l[j]? = some a → l[j + 1]? = some b → 172800 ≤ b.stands - a.stands) → cB p l = true
 | [], _, _, _ => rfl
 | u :: r, p, h0, h => by
   have h1 := h0 u rfl
   show (decide (172800 ≤ u.stands - p) && cB u.stands r) = true
   rw [decide_eq_true h1, EJ r u.stands (fun a ha => h 0 u a rfl (by simpa using ha)) fun j a b ha hb => h (j + 1) a b (by simpa using ha) (by simpa using hb)]
   rfl
theorem Ow {l : List Tn} (h : ∀ (j : Nat) a b, l[j]? = some a → l[j + 1]? = some b → 172800 ≤ b.stands - a.stands) : apart l = true := by
 cases l with
 | nil => rfl
 | cons u r => exact EJ r u.stands (fun a ha => h 0 u a rfl (by simpa using ha)) fun j a b ha hb => h (j + 1) a b (by simpa using ha) (by simpa using hb)
structure Dh (rs : List Rl) (name : Tx.Bs) (P : List Trn) : Prop where
 perm : (P.map j6).Perm (turnsOf rs name)
 sorted : jb (P.map j6)
theorem Eu {rs : List Rl} {name : Tx.Bs} {shift : Int} {P : List Trn} (h : eB ⟨rs, [], []⟩ = 0) (h2 : inB shift (-64800) 64800 = true) (hp : Dh rs name P) :
  aY rs name shift = if (rs.any fun r => r.name == name) = false then 5 else if apart (P.map j6) = false then 4 else if 1000 < P.length then 2 else 0 := by
 obtain ⟨o1, _⟩ := ordered hp.perm hp.sorted
 have hl : (turnsOf rs name).length = P.length := by rw [← hp.perm.length_eq, List.length_map]
 unfold aY
 rw [h, if_neg (by simp), if_neg (by simp [h2]), Io name (GN h), ← o1, hl]
 cases (rs.any fun r => r.name == name) <;> simp
theorem Ic {rs : List Rl} {name : Tx.Bs} {shift : Int} {P : List Trn} (hp : Dh rs name P) (ha : apart (P.map j6) = true) (h0 : aY rs name shift = 0) : times rs name shift = bV shift 0 (P.map j6) := by
 obtain ⟨_, o2⟩ := ordered hp.perm hp.sorted
 unfold times
 rw [if_pos h0, o2 ha]
end Sx
section
open Go.RowKit

theorem eQ {W w1 : World} (hb : Below W.heap.size W w1) : (∀ b o, b < W.heap.size → w1.cell? ⟨b, o, none⟩ = W.cell? ⟨b, o, none⟩) ∧ (∀ b o, b < W.heap.size → w1.frozen? ⟨b, o, none⟩ = W.frozen? ⟨b, o, none⟩) :=
 ⟨fun b o h => hb.cell (p := ⟨b, o, none⟩) h, fun b o h => hb.frozen (p := ⟨b, o, none⟩) h⟩
theorem hid {p : Prop} (h : p) : Hid p := h
theorem ai {k : IntKind} {a b : Int} (h : a = b) : Ending.returned (.int k a) = .returned (.int k b) := by rw [h]
theorem az {a b : Bool} (h : a = b) : Ending.returned (.bool a) = .returned (.bool b) := by rw [h]

theorem iy (c : UInt8) (k : UInt8) : ((c.toNat : Int) == (k.toNat : Int)) = (c == k) := by
 rw [Bool.eq_iff_iff]; simp
 constructor
 ·intro h; exact UInt8.toNat_inj.1 (by omega)
 ·intro h; rw [h]
theorem TJ (c : UInt8) : Tx.gap c = (((c.toNat : Int) == 32) || ((c.toNat : Int) == 9)) := by
 have a := iy c 32
 have b := iy c 9
 simp only [Tx.gap]
 rw [← a, ← b]; rfl
theorem Uo (c : UInt8) : Tx.txt c = (decide ((32 : Int) ≤ (c.toNat : Int) ∧ (c.toNat : Int) ≤ 126) || ((c.toNat : Int) == 9)) := by
 have b := iy c 9
 simp only [Tx.txt]
 have e : decide (32 ≤ c.toNat ∧ c.toNat ≤ 126) = decide ((32 : Int) ≤ (c.toNat : Int) ∧ (c.toNat : Int) ≤ 126) := decide_eq_decide.2 (by omega)
 rw [← b, e]; rfl

abbrev af (l : List UInt8) : Value := .string ⟨l.toArray⟩
theorem fB (s : ByteArray) (k : Nat) (h : k < s.size) : s.data.toList.drop k = s[k] :: s.data.toList.drop (k + 1) := by
 rw [List.drop_eq_getElem_cons (by simpa using h)]; rfl
theorem lJ (s : ByteArray) (k : Nat) (h : s.size ≤ k) : s.data.toList.drop k = [] := List.drop_eq_nil_of_le (by simpa using h)
theorem eF (s : ByteArray) (k : Nat) : (s.data.toList.drop k).length < s.size + 1 := by simp; omega
theorem LH {a b : ByteArray} (h : a.data.toList = b.data.toList) : a = b := by
 obtain ⟨⟨x⟩⟩ := a; obtain ⟨⟨y⟩⟩ := b; simp at h; rw [h]
theorem OI (a b : ByteArray) : (a ++ b).data.toList = a.data.toList ++ b.data.toList := by simp
theorem Hl (acc : List UInt8) (s : ByteArray) (i : Nat) (h : i < s.size) : (⟨acc.toArray⟩ : ByteArray) ++ s.extract i (i + 1) = ⟨(acc ++ [s[i]]).toArray⟩ := by
 apply LH
 rw [OI, Lib.extract_data, fB s i h, show i + 1 - i = 1 by omega]
 simp

theorem bn {w : World} {B : Nat} {e : TypeId} {z : Nat} {v : Value} {n : Nat} {xs : List Value} (h : w.ownsRow B e z v (n + 1) xs) : ∃ g cap, v = .slice (some ⟨g, 0, none⟩) (n + 1) cap := by
 rcases h.2 with ⟨_, h0⟩ | ⟨g, cap, cur, rfl, _⟩
 ·omega
 ·exact ⟨g, cap, rfl⟩
theorem aF {w : World} {B : Nat} {e : TypeId} {z : Nat} {v : Value} {n : Nat} {xs : List Value} (h : w.ownsRow B e z v n xs) : ∃ a cap, v = .slice a n cap := by
 rcases h.2 with ⟨rfl, rfl⟩ | ⟨g, cap, cur, rfl, _⟩
 ·exact ⟨_, _, rfl⟩
 ·exact ⟨_, cap, rfl⟩
theorem one_cell (w : World) (u : Value) {e : TypeId} : ∀ (j : Nat) (x : Value), [u][j]? = some x → (w.alloc (.cells #[u] e)).cell? ((⟨w.heap.size, 0, none⟩ : Addr).add j) = some x := by
 intro j x hj
 match j, hj with
 | 0, hj => simp at hj; subst hj; simp [Addr.add]
theorem below_grown {W w' : World} (h : Below W.heap.size W w') : W.grownBy w' none := ⟨h.os, h.tape, h.output, h.size, fun k hk _ => h.block k hk⟩
theorem aJ {W w' : World} {B : Nat} {e : TypeId} {z : Nat} {v : Value} {n : Nat} {xs : List Value} (h : W.ownsRow B e z v n xs) (hb : Below W.heap.size W w') : w'.ownsRow B e z v n xs :=
 h.kept (below_grown hb) (by cases v.ownBlock <;> simp)
theorem dC {w : World} {B B' : Nat} {e : TypeId} {z : Nat} {v : Value} {n : Nat} {xs : List Value} (h : w.ownsRow B e z v n xs) (hB : B' ≤ B) : w.ownsRow B' e z v n xs := by
 refine ⟨h.1, ?_⟩
 rcases h.2 with hn | ⟨g, cap, cur, rfl, hb, rest⟩
 ·exact .inl hn
 ·exact .inr ⟨g, cap, cur, rfl, by omega, rest⟩
theorem gz {w : World} {B B' : Nat} {e e' : TypeId} {z z' : Nat} {v v' : Value} {n n' : Nat} {xs xs' : List Value} (h : w.ownsRow B e z v n xs) (h' : w.ownsRow B' e' z' v' n' xs') (hne : e ≠ e') : v.ownBlock = none ∨ v.ownBlock ≠ v'.ownBlock := by
 rcases h.2 with ⟨rfl, _⟩ | ⟨g, cap, cur, rfl, _, hg, _⟩
 ·exact .inl rfl
 ·right
  rcases h'.2 with ⟨rfl, _⟩ | ⟨g', cap', cur', rfl, _, hg', _⟩
  ·simp [Value.ownBlock]
  ·simp [Value.ownBlock]
   rintro rfl
   rw [hg] at hg'
   simp at hg'
   exact hne hg'.2
theorem j3 {w : World} {B : Nat} {e : TypeId} {z : Nat} {g n cap : Nat} {a : Addr} {xs : List Value} (h : w.ownsRow B e z (.slice (some a) n cap) n xs) : a.off = 0 ∧ a.spot = none ∧ B ≤ a.block ∧ a.block < w.heap.size ∧ ∀ j u, xs[j]? = some u → w.cell? ⟨a.block, j, none⟩ = some u := by
 rcases h.2 with ⟨h0, _⟩ | ⟨g, cap, cur, h1, hb, hg, hc, hm, hs, ht⟩
 ·cases h0
 ·simp at h1
  obtain ⟨rfl, rfl⟩ := h1
  refine ⟨rfl, rfl, hb, (q4A.1 hg).1, ?_⟩
  intro j u hj
  rw [← ht] at hj
  have hlt : j < n * z := by
   have := (q4L.1 hj).1
   simp at this; omega
  rw [List.getElem?_take_of_lt hlt] at hj
  simp [World.cell?, hg]
  simpa using hj

def Rd {α : Type} (z : Nat) (cells : α → List Value) (w : World) (v : Value) (xs : List α) : Prop :=
 ∃ a cap, v = .slice a xs.length cap ∧ (xs ≠ [] → ∃ b o, a = some ⟨b, o, none⟩ ∧ b < w.heap.size ∧ ∀ i x, xs[i]? = some x → ∀ k u, (cells x)[k]? = some u → w.cell? ⟨b, o + i * z + k, none⟩ = some u)
section
variable {α : Type} {z : Nat} {cells : α → List Value} {W w' w : World} {v : Value} {xs : List α}
theorem au (h : Rd z cells W v xs) (hb : Below W.heap.size W w') : Rd z cells w' v xs := by
 obtain ⟨a, cap, h1, h2⟩ := h
 refine ⟨a, cap, h1, fun hn => ?_⟩
 obtain ⟨b, o, h3, h4, h5⟩ := h2 hn
 exact ⟨b, o, h3, q4N h4 hb.size, fun i x hx k u hu => (hb.cell (p := ⟨b, o + i * z + k, none⟩) h4).trans (h5 i x hx k u hu)⟩
theorem JW : Rd z cells w (.slice none 0 0) [] := ⟨none, 0, rfl, fun h => absurd rfl h⟩
theorem bQ (h : Rd z cells w v xs) : ∃ a cap, v = .slice a xs.length cap := by
 obtain ⟨a, cap, h1, _⟩ := h
 exact ⟨a, cap, h1⟩
theorem flat_get (cells : α → List Value) (hz : ∀ x, (cells x).length = z) : ∀ (xs : List α) (i : Nat) (x : α), xs[i]? = some x → ∀ (k : Nat) (u : Value), (cells x)[k]? = some u → (xs.flatMap cells)[i * z + k]? = some u
 | [], i, x, h, k, u, _ => by simp at h
 | y :: ys, 0, x, h, k, u, hu => by
   simp at h; subst h
   have : k < (cells y).length := (q4L.1 hu).1
   simp [List.getElem?_append_left this, hu]
 | y :: ys, i + 1, x, h, k, u, hu => by
   have := flat_get cells hz ys i x (by simpa using h) k u hu
   rw [List.flatMap_cons, show (i + 1) * z + k = (cells y).length + (i * z + k) by rw [hz, Nat.add_mul]; omega, List.getElem?_append_right (by omega)]
   simpa using this
theorem jD {B : Nat} {e : TypeId} (hz : ∀ x, (cells x).length = z) (h : w.ownsRow B e z v xs.length (xs.flatMap cells)) : Rd z cells w v xs := by
 obtain ⟨a, cap, rfl⟩ := aF h
 refine ⟨a, cap, rfl, fun hn => ?_⟩
 cases a with
 | none =>
   rcases h.2 with ⟨_, h0⟩ | ⟨g, c, cur, h1, _⟩
   ·exact absurd (List.length_eq_zero_iff.1 h0) hn
   ·simp at h1
 | some a =>
   obtain ⟨h1, h2, h3, h4, h5⟩ := j3 (g := 0) h
   obtain ⟨ab, ao, ap⟩ := a
   simp at h1 h2 h4 h5
   subst h1 h2
   refine ⟨ab, 0, rfl, h4, fun i x hx k u hu => ?_⟩
   have := h5 _ _ (flat_get cells hz xs i x hx k u hu)
   simpa using this
end

theorem dQ (s : ByteArray) (k : Nat) (h : k < s.size) : s.data.toList.take (k + 1) = s.data.toList.take k ++ [s[k]] := by
 rw [List.take_succ_eq_append_getElem (by simpa using h)]; rfl
theorem eP (s : ByteArray) (p : UInt8 → Bool) (k : Nat) (h : k < s.size) (ha : (s.data.toList.take k).all p = true) (hc : p s[k] = true) : (s.data.toList.take (k + 1)).all p = true := by
 rw [dQ s k h, List.all_append, ha]; simp [hc]
theorem rU (s : ByteArray) (p : UInt8 → Bool) (k : Nat) (h : k < s.size) (hc : p s[k] = false) : s.data.toList.all p = false := by
 rw [List.all_eq_false]
 exact ⟨s[k], by simp [ByteArray.getElem_eq_getElem_data], by simp [hc]⟩
theorem nJ (s : ByteArray) (p : UInt8 → Bool) (k : Nat) (h : s.size ≤ k) (ha : (s.data.toList.take k).all p = true) : s.data.toList.all p = true := by
 rwa [List.take_of_length_le (by simpa using h)] at ha
theorem jR {c k : UInt8} {b : Bool} (h : (c == k) = b) : ((c.toNat : Int) != (k.toNat : Int)) = !b := by
 rw [bne, iy, h]
theorem kK (s : ByteArray) : s.data.toList.length = s.size := by simp
theorem nT (s : ByteArray) : s.toList.isEmpty = decide (s.size = 0) := by
 rw [Lib.toList_data, ← kK]; cases s.data.toList <;> simp

theorem Tg (n : Int) : (n.tmod 7 + 7 + 4) % 7 = (n + 4) % 7 ∧ -6 ≤ n.tmod 7 ∧ n.tmod 7 ≤ 6 := by
 rcases Int.le_total 0 n with h | h
 ·rw [Int.tmod_eq_emod_of_nonneg h]; omega
 ·have e : n.tmod 7 = -((-n) % 7) := by
   have : n = -(-n) := by omega
   rw [this, Int.neg_tmod, Int.tmod_eq_emod_of_nonneg (by omega)]; simp
  rw [e]; omega
/- the cells of a block, from its first on -/
def ag (w : World) (X : Nat) (vs : List Value) : Prop := X < w.heap.size ∧ ∀ k v, vs[k]? = some v → w.cell? ⟨X, k, none⟩ = some v ∧ w.frozen? ⟨X, k, none⟩ = false
section
variable {w w1 : World} {X : Nat} {vs : List Value}
theorem aC (w : World) (vs : List Value) (t : TypeId) : ag (w.alloc (.cells vs.toArray t)) w.heap.size vs := by
 refine ⟨by simp, fun k v h => ?_⟩
 have hk : k < vs.length := (q4L.1 h).1
 constructor
 ·have e : (w.alloc (.cells vs.toArray t)).heap[w.heap.size]? = some (.cells vs.toArray t) := heap_alloc_new _ _
  simp only [World.cell?, e]
  simpa using h
 ·simp [go_sem]
theorem jw (h : ag w X vs) (hs : X < w1.heap.size) (hk : w1.heap[X]? = w.heap[X]?) : ag w1 X vs := by
 refine ⟨hs, fun k v q => ?_⟩
 obtain ⟨a, b⟩ := h.2 k v q
 exact ⟨by rw [World.cell?_of_block (w := w) hk]; exact a, by rw [World.frozen?_of_block (w := w) hk]; exact b⟩
theorem aK {r : Nat} (h : ag w X vs) (hg : w.grownBy w1 (some r)) (hn : ¬ X = r) : ag w1 X vs := jw h (q4N h.1 hg.size) (hg.block X h.1 (by simpa using hn))
theorem ah (h : ag w X vs) (hb : Below w.heap.size w w1) : ag w1 X vs := jw h (q4N h.1 hb.size) (hb.block X h.1)
theorem aH (h : ag w X vs) (o : Obj) : ag (w.alloc o) X vs := jw h (by have := h.1; simp; omega) (Below.heap_alloc _ _ _ h.1)
theorem bz (h : ag w X vs) {q o : Nat} {u : Value} (hX : ¬ X = q) : ag (w.setCell ⟨q, o, none⟩ u) X vs := jw h (by simpa using h.1) (Below.heap_setCell _ _ _ _ hX)
theorem aS (h : ag w X vs) (k : Nat) (u : Value) (hk : k < vs.length) : ag (w.setCell ⟨X, k, none⟩ u) X (vs.set k u) := by
 refine ⟨by simpa using h.1, fun j v q => ?_⟩
 by_cases e : j = k
 ·subst e
  rw [List.getElem?_set_self hk] at q
  obtain ⟨a, b⟩ := h.2 j _ (q4G hk)
  simp at q; subst q
  have := h.1
  exact ⟨by simp [go_sem, a, this], by simp [go_sem, b, this]⟩
 ·rw [List.getElem?_set_ne (Ne.symm e)] at q
  obtain ⟨a, b⟩ := h.2 j v q
  have := h.1
  have e' : ¬ k = j := fun q => e q.symm
  exact ⟨by simp [go_sem, a, this, e, e'], by simp [go_sem, b, this, e, e']⟩
theorem aa (h : ag w X vs) (k : Nat) {v : Value} (q : vs[k]? = some v) : w.cell? ⟨X, k, none⟩ = some v ∧ w.frozen? ⟨X, k, none⟩ = false := h.2 k v q
end
theorem ca_grownO {w w1 : World} {X : Nat} {vs : List Value} {row : Option Nat} (h : ag w X vs) (hg : w.grownBy w1 row) (hn : ∀ k, row = some k → k ≠ X) : ag w1 X vs := jw h (q4N h.1 hg.size) (hg.block X h.1 (by intro q; exact hn X q.symm rfl))
/- a write into a block of one's own -/
theorem aB {B : Nat} {a w : World} (h : Below B a w) {q o : Nat} (hq : B ≤ q) (u : Value) : Below B a (w.setCell ⟨q, o, none⟩ u) :=
 ⟨by rw [← h.os]; rfl, by rw [← h.tape]; rfl, by rw [← h.output]; rfl, by simpa using h.size, fun k hk => by rw [Below.heap_setCell _ _ _ _ (show k ≠ q by omega)]; exact h.block k hk⟩
abbrev CF (w : World) (X k : Nat) (a : Value) : Prop := w.cell? ⟨X, k, none⟩ = some a ∧ w.frozen? ⟨X, k, none⟩ = false
theorem cp2 {w : World} {X : Nat} {a0 a1 : Value} {r : List Value} (h : ag w X (a0 :: a1 :: r)) : CF w X 0 a0 ∧ CF w X 1 a1 ∧ X < w.heap.size := ⟨aa h 0 rfl, aa h 1 rfl, h.1⟩
theorem cp3 {w : World} {X : Nat} {a0 a1 a2 : Value} {r : List Value} (h : ag w X (a0 :: a1 :: a2 :: r)) : CF w X 0 a0 ∧ CF w X 1 a1 ∧ CF w X 2 a2 ∧ X < w.heap.size := ⟨aa h 0 rfl, aa h 1 rfl, aa h 2 rfl, h.1⟩
theorem cp4 {w : World} {X : Nat} {a0 a1 a2 a3 : Value} {r : List Value} (h : ag w X (a0 :: a1 :: a2 :: a3 :: r)) : CF w X 0 a0 ∧ CF w X 1 a1 ∧ CF w X 2 a2 ∧ CF w X 3 a3 ∧ X < w.heap.size := ⟨aa h 0 rfl, aa h 1 rfl, aa h 2 rfl, aa h 3 rfl, h.1⟩
theorem cp5 {w : World} {X : Nat} {a0 a1 a2 a3 a4 : Value} {r : List Value} (h : ag w X (a0 :: a1 :: a2 :: a3 :: a4 :: r)) : CF w X 0 a0 ∧ CF w X 1 a1 ∧ CF w X 2 a2 ∧ CF w X 3 a3 ∧ CF w X 4 a4 ∧ X < w.heap.size := ⟨aa h 0 rfl, aa h 1 rfl, aa h 2 rfl, aa h 3 rfl, aa h 4 rfl, h.1⟩
theorem cp6 {w : World} {X : Nat} {a0 a1 a2 a3 a4 a5 : Value} {r : List Value} (h : ag w X (a0 :: a1 :: a2 :: a3 :: a4 :: a5 :: r)) : CF w X 0 a0 ∧ CF w X 1 a1 ∧ CF w X 2 a2 ∧ CF w X 3 a3 ∧ CF w X 4 a4 ∧ CF w X 5 a5 ∧ X < w.heap.size := ⟨aa h 0 rfl, aa h 1 rfl, aa h 2 rfl, aa h 3 rfl, aa h 4 rfl, aa h 5 rfl, h.1⟩
theorem cp7 {w : World} {X : Nat} {a0 a1 a2 a3 a4 a5 a6 : Value} {r : List Value} (h : ag w X (a0 :: a1 :: a2 :: a3 :: a4 :: a5 :: a6 :: r)) : CF w X 0 a0 ∧ CF w X 1 a1 ∧ CF w X 2 a2 ∧ CF w X 3 a3 ∧ CF w X 4 a4 ∧ CF w X 5 a5 ∧ CF w X 6 a6 ∧ X < w.heap.size := ⟨aa h 0 rfl, aa h 1 rfl, aa h 2 rfl, aa h 3 rfl, aa h 4 rfl, aa h 5 rfl, aa h 6 rfl, h.1⟩
theorem cp8 {w : World} {X : Nat} {a0 a1 a2 a3 a4 a5 a6 a7 : Value} {r : List Value} (h : ag w X (a0 :: a1 :: a2 :: a3 :: a4 :: a5 :: a6 :: a7 :: r)) : CF w X 0 a0 ∧ CF w X 1 a1 ∧ CF w X 2 a2 ∧ CF w X 3 a3 ∧ CF w X 4 a4 ∧ CF w X 5 a5 ∧ CF w X 6 a6 ∧ CF w X 7 a7 ∧ X < w.heap.size := ⟨aa h 0 rfl, aa h 1 rfl, aa h 2 rfl, aa h 3 rfl, aa h 4 rfl, aa h 5 rfl, aa h 6 rfl, aa h 7 rfl, h.1⟩
theorem cp9 {w : World} {X : Nat} {a0 a1 a2 a3 a4 a5 a6 a7 a8 : Value} {r : List Value} (h : ag w X (a0 :: a1 :: a2 :: a3 :: a4 :: a5 :: a6 :: a7 :: a8 :: r)) : CF w X 0 a0 ∧ CF w X 1 a1 ∧ CF w X 2 a2 ∧ CF w X 3 a3 ∧ CF w X 4 a4 ∧ CF w X 5 a5 ∧ CF w X 6 a6 ∧ CF w X 7 a7 ∧ CF w X 8 a8 ∧ X < w.heap.size := ⟨aa h 0 rfl, aa h 1 rfl, aa h 2 rfl, aa h 3 rfl, aa h 4 rfl, aa h 5 rfl, aa h 6 rfl, aa h 7 rfl, aa h 8 rfl, h.1⟩
theorem cp10 {w : World} {X : Nat} {a0 a1 a2 a3 a4 a5 a6 a7 a8 a9 : Value} {r : List Value} (h : ag w X (a0 :: a1 :: a2 :: a3 :: a4 :: a5 :: a6 :: a7 :: a8 :: a9 :: r)) : CF w X 0 a0 ∧ CF w X 1 a1 ∧ CF w X 2 a2 ∧ CF w X 3 a3 ∧ CF w X 4 a4 ∧ CF w X 5 a5 ∧ CF w X 6 a6 ∧ CF w X 7 a7 ∧ CF w X 8 a8 ∧ CF w X 9 a9 ∧ X < w.heap.size := ⟨aa h 0 rfl, aa h 1 rfl, aa h 2 rfl, aa h 3 rfl, aa h 4 rfl, aa h 5 rfl, aa h 6 rfl, aa h 7 rfl, aa h 8 rfl, aa h 9 rfl, h.1⟩
end
section
open Go.RowKit

def aG (r : Sx.Rl) : List Value := [af r.name, .int .i64 r.frm, .int .i64 r.to, .int .i64 r.month, .int .i64 r.kind, .int .i64 r.wk, .int .i64 r.n, .int .i64 r.at_, .int .i64 r.clock, .int .i64 r.save, af r.letter]
def ay (x : Sx.Er) : List Value := [.int .i64 x.shift, af x.rules, .int .i64 x.save, af x.format, .bool x.opn, .int .i64 x.uy, .int .i64 x.um, .int .i64 x.ud, .int .i64 x.uat, .int .i64 x.uclock]
def aZ (l : Sx.Lk) : List Value := [af l.to, af l.name]
def di (p : Tx.Bs × Value) : List Value := [af p.1, p.2]
abbrev qd (r : Sx.Rl) : Value := .agg #[af r.name, .int .i64 r.frm, .int .i64 r.to, .int .i64 r.month, .int .i64 r.kind, .int .i64 r.wk, .int .i64 r.n, .int .i64 r.at_, .int .i64 r.clock, .int .i64 r.save, af r.letter]
abbrev iF (x : Sx.Er) : Value := .agg #[.int .i64 x.shift, af x.rules, .int .i64 x.save, af x.format, .bool x.opn, .int .i64 x.uy, .int .i64 x.um, .int .i64 x.ud, .int .i64 x.uat, .int .i64 x.uclock]
abbrev kS (l : Sx.Lk) : Value := .agg #[af l.to, af l.name]

def bN := Rd 11 aG
def fA := Rd 10 ay
def fJ := Rd 2 aZ
def fU (w : World) (v : Value) (zs : List Sx.Zn) : Prop :=
 ∃ vs : List Value, vs.length = zs.length ∧ Rd 2 di w v ((zs.zip vs).map fun p => (p.1.name, p.2)) ∧ ∀ (i : Nat) (ev : Value) (x : Sx.Zn), vs[i]? = some ev → zs[i]? = some x → fA w ev x.eras
structure Oq (w : World) (r z l : Value) (s : Sx.Sr) : Prop where
 rules : bN w r s.rules
 zones : fU w z s.zones
 links : fJ w l s.links
theorem eH {W w' : World} {v : Value} {zs : List Sx.Zn} (h : fU W v zs) (hb : Below W.heap.size W w') : fU w' v zs := by
 obtain ⟨vs, h1, h2, h3⟩ := h
 exact ⟨vs, h1, au h2 hb, fun i ev x a b => au (h3 i ev x a b) hb⟩
theorem rH (r : Sx.Rl) : (aG r).length = 11 := rfl
theorem iE (r : Sx.Er) : (ay r).length = 10 := rfl
theorem rE (r : Sx.Lk) : (aZ r).length = 2 := rfl
theorem rP (r : Tx.Bs × Value) : (di r).length = 2 := rfl
theorem ja {w : World} {v : Value} {zs : List Sx.Zn} (h : fU w v zs) : ∃ a cap, v = .slice a zs.length cap := by
 obtain ⟨vs, h1, h2, _⟩ := h
 obtain ⟨a, cap, h⟩ := bQ h2
 exact ⟨a, cap, by rw [h]; simp [h1]⟩

/- element by element, as the walk reads them -/
section
variable {w : World} {b o i : Nat}
theorem oh {r : Sx.Rl} (h : ∀ k u, (aG r)[k]? = some u → w.cell? ⟨b, o + i * 11 + k, none⟩ = some u) :
  w.cell? ⟨b, o + i * 11, none⟩ = some (af r.name) ∧ w.cell? ⟨b, o + i * 11 + 1, none⟩ = some (.int .i64 r.frm) ∧ w.cell? ⟨b, o + i * 11 + 2, none⟩ = some (.int .i64 r.to) ∧ w.cell? ⟨b, o + i * 11 + 3, none⟩ = some (.int .i64 r.month) ∧ w.cell? ⟨b, o + i * 11 + 4, none⟩ = some (.int .i64 r.kind) ∧ w.cell? ⟨b, o + i * 11 + 5, none⟩ = some (.int .i64 r.wk) ∧ w.cell? ⟨b, o + i * 11 + 6, none⟩ = some (.int .i64 r.n) ∧ w.cell? ⟨b, o + i * 11 + 7, none⟩ = some (.int .i64 r.at_) ∧ w.cell? ⟨b, o + i * 11 + 8, none⟩ = some (.int .i64 r.clock) ∧ w.cell? ⟨b, o + i * 11 + 9, none⟩ = some (.int .i64 r.save) ∧ w.cell? ⟨b, o + i * 11 + 10, none⟩ = some (af r.letter) :=
 ⟨h 0 _ rfl, h 1 _ rfl, h 2 _ rfl, h 3 _ rfl, h 4 _ rfl, h 5 _ rfl, h 6 _ rfl, h 7 _ rfl, h 8 _ rfl, h 9 _ rfl, h 10 _ rfl⟩
theorem sI {x : Sx.Er} (h : ∀ k u, (ay x)[k]? = some u → w.cell? ⟨b, o + i * 10 + k, none⟩ = some u) :
  w.cell? ⟨b, o + i * 10, none⟩ = some (.int .i64 x.shift) ∧ w.cell? ⟨b, o + i * 10 + 1, none⟩ = some (af x.rules) ∧ w.cell? ⟨b, o + i * 10 + 2, none⟩ = some (.int .i64 x.save) ∧ w.cell? ⟨b, o + i * 10 + 3, none⟩ = some (af x.format) ∧ w.cell? ⟨b, o + i * 10 + 4, none⟩ = some (.bool x.opn) ∧ w.cell? ⟨b, o + i * 10 + 5, none⟩ = some (.int .i64 x.uy) ∧ w.cell? ⟨b, o + i * 10 + 6, none⟩ = some (.int .i64 x.um) ∧ w.cell? ⟨b, o + i * 10 + 7, none⟩ = some (.int .i64 x.ud) ∧ w.cell? ⟨b, o + i * 10 + 8, none⟩ = some (.int .i64 x.uat) ∧ w.cell? ⟨b, o + i * 10 + 9, none⟩ = some (.int .i64 x.uclock) :=
 ⟨h 0 _ rfl, h 1 _ rfl, h 2 _ rfl, h 3 _ rfl, h 4 _ rfl, h 5 _ rfl, h 6 _ rfl, h 7 _ rfl, h 8 _ rfl, h 9 _ rfl⟩
theorem og {l : Sx.Lk} (h : ∀ k u, (aZ l)[k]? = some u → w.cell? ⟨b, o + i * 2 + k, none⟩ = some u) :
  w.cell? ⟨b, o + i * 2, none⟩ = some (af l.to) ∧ w.cell? ⟨b, o + i * 2 + 1, none⟩ = some (af l.name) := ⟨h 0 _ rfl, h 1 _ rfl⟩
end
/- a zone of a list of zones -/
theorem Sg {w : World} {v : Value} {zs : List Sx.Zn} (h : fU w v zs) (hn : zs ≠ []) : ∃ b o cap, v = .slice (some ⟨b, o, none⟩) zs.length cap ∧ b < w.heap.size ∧ ∀ i x, zs[i]? = some x → w.cell? ⟨b, o + i * 2, none⟩ = some (af x.name) ∧ ∃ ev, w.cell? ⟨b, o + i * 2 + 1, none⟩ = some ev ∧ fA w ev x.eras := by
 obtain ⟨vs, h1, ⟨a, cap, e, h2⟩, h3⟩ := h
 have hlen : ((zs.zip vs).map fun p => (p.1.name, p.2)).length = zs.length := by simp [h1]
 obtain ⟨b, o, rfl, hb, hc⟩ := h2 (by intro q; rw [← List.length_eq_zero_iff, hlen] at q; exact hn (List.length_eq_zero_iff.1 q))
 refine ⟨b, o, cap, by rw [e, hlen], hb, fun i x hx => ?_⟩
 have hi : i < vs.length := by rw [h1]; exact (q4L.1 hx).1
 have hv : vs[i]? = some vs[i] := q4G hi
 have hg : ((zs.zip vs).map fun p => (p.1.name, p.2))[i]? = some (x.name, vs[i]) := by
  simp [List.getElem?_map, List.getElem?_zip_eq_some, hx, hv]
 exact ⟨hc i _ hg 0 _ rfl, vs[i], hc i _ hg 1 _ rfl, h3 i _ x hv hx⟩
end
section
open Go.RowKit

theorem fE (n a b : Int) (w : World) :
  Calls Tryz.prog 77 #[.int .i64 n, .int .i64 a, .int .i64 b] w fun e w' => e = .returned (.bool (decide (a ≤ n ∧ n ≤ b))) ∧ w' = w := by
 by_cases h1 : a ≤ n <;> by_cases h2 : n ≤ b
 all_goals
  go_enter Tryz.func77, Tryz.ntmps77
  go_wp2
  go_ret
  exact ⟨az (by simp [h1, h2]), rfl⟩

end
section
open Go.RowKit

theorem PW (c : UInt8) : Sx.gP c = (decide ((97 : Int) ≤ (c.toNat : Int) ∧ (c.toNat : Int) ≤ 122) || decide ((65 : Int) ≤ (c.toNat : Int) ∧ (c.toNat : Int) ≤ 90)) := by
 simp only [Sx.gP]
 have e1 : decide (97 ≤ c.toNat ∧ c.toNat ≤ 122) = decide ((97 : Int) ≤ (c.toNat : Int) ∧ (c.toNat : Int) ≤ 122) := decide_eq_decide.2 (by omega)
 have e2 : decide (65 ≤ c.toNat ∧ c.toNat ≤ 90) = decide ((65 : Int) ≤ (c.toNat : Int) ∧ (c.toNat : Int) ≤ 90) := decide_eq_decide.2 (by omega)
 rw [e1, e2]
theorem IX (c : UInt8) : Sx.fZ c = decide ((48 : Int) ≤ (c.toNat : Int) ∧ (c.toNat : Int) ≤ 57) := by
 simp only [Sx.fZ]
 exact decide_eq_decide.2 (by omega)
theorem ak (n a b : Int) (w : World) {r : Bool} (h : decide (a ≤ n ∧ n ≤ b) = r) :
  Calls Tryz.prog 77 #[.int .i64 n, .int .i64 a, .int .i64 b] w fun e w' => e = .returned (.bool r) ∧ w' = w := by
 subst h; exact fE n a b w

theorem Gy (c : UInt8) (w : World) :
  Calls Tryz.prog 165 #[.int .u8 (c.toNat : Int)] w fun e w' => e = .returned (.bool (Sx.gP c)) ∧ w' = w := by
 have hh : Hid (Sx.gP c = (decide ((97 : Int) ≤ (c.toNat : Int) ∧ (c.toNat : Int) ≤ 122) || decide ((65 : Int) ≤ (c.toNat : Int) ∧ (c.toNat : Int) ≤ 90))) := PW c
 have hb : (c.toNat : Int) < 256 := by have := c.toNat_lt; omega
 have hb0 : 0 ≤ (c.toNat : Int) := by omega
 generalize (c.toNat : Int) = n at *
 by_cases h1 : 97 ≤ n ∧ n ≤ 122 <;> by_cases h2 : 65 ≤ n ∧ n ≤ 90
 all_goals
  go_enter Tryz.func165, Tryz.ntmps165
  go_wp2_with (go_at_call 77; refine (fE _ _ _ _).mono ?_; rintro e w1 ⟨rfl, rfl⟩; simp only [h1, h2])
  go_ret
  exact ⟨az (by rw [hh.out]; simp [h1, h2]), rfl⟩
theorem bI (c : UInt8) (w : World) {b : Bool} (h : Sx.gP c = b) :
  Calls Tryz.prog 165 #[.int .u8 (c.toNat : Int)] w fun e w' => e = .returned (.bool b) ∧ w' = w := by subst h; exact Gy c w
theorem JQ (c : UInt8) (w : World) :
  Calls Tryz.prog 166 #[.int .u8 (c.toNat : Int)] w fun e w' => e = .returned (.bool (Sx.fZ c)) ∧ w' = w := by
 have hh : Hid (Sx.fZ c = decide ((48 : Int) ≤ (c.toNat : Int) ∧ (c.toNat : Int) ≤ 57)) := IX c
 have hb : (c.toNat : Int) < 256 := by have := c.toNat_lt; omega
 have hb0 : 0 ≤ (c.toNat : Int) := by omega
 generalize (c.toNat : Int) = n at *
 by_cases h1 : 48 ≤ n ∧ n ≤ 57
 all_goals
  go_enter Tryz.func166, Tryz.ntmps166
  go_wp2_with (go_at_call 77; refine (fE _ _ _ _).mono ?_; rintro e w1 ⟨rfl, rfl⟩; simp only [h1])
  go_ret
  exact ⟨az (by rw [hh.out]; simp [h1]), rfl⟩
theorem bH (c : UInt8) (w : World) {b : Bool} (h : Sx.fZ c = b) :
  Calls Tryz.prog 166 #[.int .u8 (c.toNat : Int)] w fun e w' => e = .returned (.bool b) ∧ w' = w := by subst h; exact JQ c w
end
section
open Go.RowKit

theorem Gc (s : ByteArray) (h : 0 < s.size) : Sx.Ld s.data.toList = Sx.gP s[0] := by
 have := fB s 0 h
 simp at this; rw [this]; rfl
theorem Jh (s : ByteArray) (w : World) :
  Calls Tryz.prog 120 #[.string s] w fun e w' => e = .returned (.bool (Sx.aW s.data.toList)) ∧ w' = w := by
 obtain ⟨G, hG⟩ : ∃ G, Sx.aW s.data.toList = G := ⟨_, rfl⟩
 rw [hG]
 have HG : Hid (G = (Sx.Ld s.data.toList && decide (s.size ≤ 24) && s.data.toList.all Sx.kG)) := by show _ = _; rw [← hG, ← kK]; rfl
 clear hG
 by_cases h0 : s.size = 0
 ·have he : s.data.toList = [] := by rw [← List.length_eq_zero_iff]; simpa using h0
  have hG : G = false := by rw [HG.out, he]; rfl
  have he' : s.toList.isEmpty = true := by rw [nT]; simp [h0]
  subst hG
  clear he
  go_enter Tryz.func120, Tryz.ntmps120
  go_wp2_with fail
  go_ret
  exact ⟨rfl, rfl⟩
 have he : s.toList.isEmpty = false := by rw [nT]; simp [h0]
 have hp : 0 < s.size := by omega
 clear h0
 by_cases h24 : 24 < s.size
 ·have hG : G = false := by rw [HG.out]; simp; omega
  subst hG
  go_enter Tryz.func120, Tryz.ntmps120
  go_wp2_with fail
  go_ret
  exact ⟨rfl, rfl⟩
 have h24' : s.size ≤ 24 := by omega
 clear h24
 have HF := hid (Gc s hp)
 cases hl : Sx.gP s[0]
 ·have hG : G = false := by rw [HG.out, HF.out, hl]; rfl
  have HL := hid hl
  subst hG
  clear hl
  go_enter Tryz.func120, Tryz.ntmps120
  go_wp2_with (go_at_call 165; refine (bI _ _ HL.out).mono ?_; rintro e w1 ⟨rfl, rfl⟩)
  go_ret
  exact ⟨rfl, rfl⟩
 have HL := hid hl
 have HG2 : Hid (G = s.data.toList.all Sx.kG) := by show _ = _; rw [HG.out, HF.out, hl]; simp [h24']
 clear hl HG HF
 go_enter Tryz.func120, Tryz.ntmps120
 go_wp2_with (go_at_call 165; refine (bI _ _ HL.out).mono ?_; rintro e w1 ⟨rfl, rfl⟩)
 go_loop [3] (fun a => ∃ k : Nat, k ≤ s.size ∧ a = .int .i64 k ∧ Hid ((s.data.toList.take k).all Sx.kG = true)) (fun a => s.size - (intOf a).toNat)
 case atStart => exact ⟨0, by omega, rfl, by show _ = _; simp⟩
 case round =>
  obtain ⟨k, hk, rfl, HA⟩ := hrel
  clear HL
  by_cases hlt : k < s.size
  ·obtain ⟨c, hc⟩ : ∃ c, s[k] = c := ⟨_, rfl⟩
   have HN : Hid (Sx.kG c = (Sx.gP c || Sx.fZ c || c == 95 || c == 45 || c == 47 || c == 43)) := rfl
   have HC := hid hc
   cases h1 : Sx.gP c
   case true =>
    have H1 := hid h1
    clear h1
    go_wp2_with (go_at_call 165; refine (bI _ _ H1.out).mono ?_; rintro e w1 ⟨rfl, rfl⟩)
    go_round
    case rel => exact ⟨k + 1, by omega, by go_num, eP s _ k hlt HA.out (by rw [HC.out, HN.out, H1.out]; rfl)⟩
    case measure => simp [intOf]; omega
   case false =>
    have H1 := hid h1
    clear h1
    cases h2 : Sx.fZ c
    case true =>
     have H2 := hid h2
     clear h2
     go_wp2_with (first | (go_at_call 165; refine (bI _ _ H1.out).mono ?_; rintro e w1 ⟨rfl, rfl⟩) | (go_at_call 166; refine (bH _ _ H2.out).mono ?_; rintro e w1 ⟨rfl, rfl⟩))
     go_round
     case rel => exact ⟨k + 1, by omega, by go_num, eP s _ k hlt HA.out (by rw [HC.out, HN.out, H1.out, H2.out]; rfl)⟩
     case measure => simp [intOf]; omega
    case false =>
     have H2 := hid h2
     clear h2
     cases h3 : (c == 95)
     case true =>
      have e3 : ((c.toNat : Int) != 95) = false := jR h3
      have H3 := hid h3
      clear h3
      go_wp2_with (first | (go_at_call 165; refine (bI _ _ H1.out).mono ?_; rintro e w1 ⟨rfl, rfl⟩) | (go_at_call 166; refine (bH _ _ H2.out).mono ?_; rintro e w1 ⟨rfl, rfl⟩))
      go_round
      case rel => exact ⟨k + 1, by omega, by go_num, eP s _ k hlt HA.out (by rw [HC.out, HN.out, H1.out, H2.out, H3.out]; simp)⟩
      case measure => simp [intOf]; omega
     case false =>
      have e3 : ((c.toNat : Int) != 95) = true := jR h3
      have H3 := hid h3
      clear h3
      cases h4 : (c == 45)
      case true =>
       have e4 : ((c.toNat : Int) != 45) = false := jR h4
       have H4 := hid h4
       clear h4
       go_wp2_with (first | (go_at_call 165; refine (bI _ _ H1.out).mono ?_; rintro e w1 ⟨rfl, rfl⟩) | (go_at_call 166; refine (bH _ _ H2.out).mono ?_; rintro e w1 ⟨rfl, rfl⟩))
       go_round
       case rel => exact ⟨k + 1, by omega, by go_num, eP s _ k hlt HA.out (by rw [HC.out, HN.out, H1.out, H2.out, H3.out, H4.out]; simp)⟩
       case measure => simp [intOf]; omega
      case false =>
       have e4 : ((c.toNat : Int) != 45) = true := jR h4
       have H4 := hid h4
       clear h4
       cases h5 : (c == 47)
       case true =>
        have e5 : ((c.toNat : Int) != 47) = false := jR h5
        have H5 := hid h5
        clear h5
        go_wp2_with (first | (go_at_call 165; refine (bI _ _ H1.out).mono ?_; rintro e w1 ⟨rfl, rfl⟩) | (go_at_call 166; refine (bH _ _ H2.out).mono ?_; rintro e w1 ⟨rfl, rfl⟩))
        go_round
        case rel => exact ⟨k + 1, by omega, by go_num, eP s _ k hlt HA.out (by rw [HC.out, HN.out, H1.out, H2.out, H3.out, H4.out, H5.out]; simp)⟩
        case measure => simp [intOf]; omega
       case false =>
        have e5 : ((c.toNat : Int) != 47) = true := jR h5
        have H5 := hid h5
        clear h5
        cases h6 : (c == 43)
        case true =>
         have e6 : ((c.toNat : Int) != 43) = false := jR h6
         have H6 := hid h6
         clear h6
         go_wp2_with (first | (go_at_call 165; refine (bI _ _ H1.out).mono ?_; rintro e w1 ⟨rfl, rfl⟩) | (go_at_call 166; refine (bH _ _ H2.out).mono ?_; rintro e w1 ⟨rfl, rfl⟩))
         go_round
         case rel => exact ⟨k + 1, by omega, by go_num, eP s _ k hlt HA.out (by rw [HC.out, HN.out, H1.out, H2.out, H3.out, H4.out, H5.out, H6.out]; simp)⟩
         case measure => simp [intOf]; omega
        case false =>
         have e6 : ((c.toNat : Int) != 43) = true := jR h6
         have H6 := hid h6
         clear h6
         go_wp2_with (first | (go_at_call 165; refine (bI _ _ H1.out).mono ?_; rintro e w1 ⟨rfl, rfl⟩) | (go_at_call 166; refine (bH _ _ H2.out).mono ?_; rintro e w1 ⟨rfl, rfl⟩))
         go_ret
         exact ⟨az (by rw [HG2.out]; exact (rU s _ k hlt (by rw [HC.out, HN.out, H1.out, H2.out, H3.out, H4.out, H5.out, H6.out]; rfl)).symm), rfl⟩
  ·go_wp2
   go_ret
   exact ⟨az (by rw [HG2.out]; exact (nJ s _ k (by omega) HA.out).symm), rfl⟩
end
section
open Go.RowKit

theorem D9 (s : ByteArray) (w : World) (hs : s.size ≤ maxLen) :
  Calls Tryz.prog 164 #[.string s] w fun e w' => e = .returned (.bool (Sx.dV s.data.toList)) ∧ w' = w := by
 unfold maxLen at hs
 have HG : Hid (Sx.dV s.data.toList = (s.data.toList.all Sx.gP && decide (s.size ≤ 24))) := by show _ = _; rw [Sx.dV, kK]
 go_enter Tryz.func164, Tryz.ntmps164
 go_wp2_with fail
 go_loop [3] (fun a => ∃ k : Nat, k ≤ s.size ∧ a = .int .i64 k ∧ Hid ((s.data.toList.take k).all Sx.gP = true)) (fun a => s.size - (intOf a).toNat)
 case atStart => exact ⟨0, by omega, rfl, by show _ = _; simp⟩
 case round =>
  obtain ⟨k, hk, rfl, HA⟩ := hrel
  by_cases hlt : k < s.size
  ·cases h1 : Sx.gP s[k]
   all_goals
    have H1 := hid h1
    clear h1
    go_wp2_with (go_at_call 165; refine (bI _ _ H1.out).mono ?_; rintro e w1 ⟨rfl, rfl⟩)
   ·go_ret
    exact ⟨az (by rw [HG.out, rU s _ k hlt H1.out]; rfl), rfl⟩
   ·go_round
    case rel => exact ⟨k + 1, by omega, by go_num, eP s _ k hlt HA.out H1.out⟩
    case measure => simp [intOf]; omega
  ·by_cases h24 : s.size ≤ 24
   all_goals
    go_wp2
    go_ret
    exact ⟨az (by rw [HG.out, nJ s _ k (by omega) HA.out]; simp [h24]; try omega), rfl⟩
theorem wZ (s : ByteArray) (w : World) (hs : s.size ≤ maxLen) {b : Bool} (h : Sx.dV s.data.toList = b) :
  Calls Tryz.prog 164 #[.string s] w fun e w' => e = .returned (.bool b) ∧ w' = w := by subst h; exact D9 s w hs
theorem Mq (s : ByteArray) (w : World) {b : Bool} (h : Sx.aW s.data.toList = b) :
  Calls Tryz.prog 120 #[.string s] w fun e w' => e = .returned (.bool b) ∧ w' = w := by subst h; exact Jh s w

/- IsPlain is asked of one sign alone -/
theorem DI (s : ByteArray) (c : UInt8) (w : World) (hs : s.size = 1) (hc : s.data.toList = [c]) :
  Calls Tryz.prog 138 #[.string s] w fun e w' => e = .returned (.bool (Sx.dK c)) ∧ w' = w := by
 have h0 : s[0] = c := by
  have := fB s 0 (by omega)
  simp [hc] at this; exact this.symm
 have HP : Hid (Sx.dK c = (Sx.gP c || Sx.fZ c || c == 43 || c == 45)) := rfl
 clear hc
 go_enter Tryz.func138, Tryz.ntmps138
 go_wp2_with fail
 go_loop [3] (fun a => ∃ k : Nat, k ≤ 1 ∧ a = .int .i64 k ∧ Hid (k = 1 → Sx.dK c = true)) (fun a => 1 - (intOf a).toNat)
 case atStart => exact ⟨0, by omega, rfl, by intro q; cases q⟩
 case round =>
  obtain ⟨k, hk, rfl, HA⟩ := hrel
  by_cases hlt : k = 0
  ·subst hlt
   cases h1 : Sx.gP c
   case true =>
    have H1 := hid h1
    clear h1
    go_wp2_with (go_at_call 165; refine (bI _ _ H1.out).mono ?_; rintro e w1 ⟨rfl, rfl⟩)
    go_round
    case rel => exact ⟨1, by omega, by go_num, fun _ => by rw [HP.out, H1.out]; rfl⟩
    case measure => simp [intOf]
   case false =>
    have H1 := hid h1
    clear h1
    cases h2 : Sx.fZ c
    case true =>
     have H2 := hid h2
     clear h2
     go_wp2_with (first | (go_at_call 165; refine (bI _ _ H1.out).mono ?_; rintro e w1 ⟨rfl, rfl⟩) | (go_at_call 166; refine (bH _ _ H2.out).mono ?_; rintro e w1 ⟨rfl, rfl⟩))
     go_round
     case rel => exact ⟨1, by omega, by go_num, fun _ => by rw [HP.out, H1.out, H2.out]; rfl⟩
     case measure => simp [intOf]
    case false =>
     have H2 := hid h2
     clear h2
     cases h3 : (c == 43)
     case true =>
      have e3 : ((c.toNat : Int) != 43) = false := jR h3
      have H3 := hid h3
      clear h3
      go_wp2_with (first | (go_at_call 165; refine (bI _ _ H1.out).mono ?_; rintro e w1 ⟨rfl, rfl⟩) | (go_at_call 166; refine (bH _ _ H2.out).mono ?_; rintro e w1 ⟨rfl, rfl⟩))
      go_round
      case rel => exact ⟨1, by omega, by go_num, fun _ => by rw [HP.out, H1.out, H2.out, H3.out]; rfl⟩
      case measure => simp [intOf]
     case false =>
      have e3 : ((c.toNat : Int) != 43) = true := jR h3
      have H3 := hid h3
      clear h3
      cases h4 : (c == 45)
      case true =>
       have e4 : ((c.toNat : Int) != 45) = false := jR h4
       have H4 := hid h4
       clear h4
       go_wp2_with (first | (go_at_call 165; refine (bI _ _ H1.out).mono ?_; rintro e w1 ⟨rfl, rfl⟩) | (go_at_call 166; refine (bH _ _ H2.out).mono ?_; rintro e w1 ⟨rfl, rfl⟩))
       go_round
       case rel => exact ⟨1, by omega, by go_num, fun _ => by rw [HP.out, H1.out, H2.out, H3.out, H4.out]; rfl⟩
       case measure => simp [intOf]
      case false =>
       have e4 : ((c.toNat : Int) != 45) = true := jR h4
       have H4 := hid h4
       clear h4
       go_wp2_with (first | (go_at_call 165; refine (bI _ _ H1.out).mono ?_; rintro e w1 ⟨rfl, rfl⟩) | (go_at_call 166; refine (bH _ _ H2.out).mono ?_; rintro e w1 ⟨rfl, rfl⟩))
       go_ret
       exact ⟨az (by rw [HP.out, H1.out, H2.out, H3.out, H4.out]; rfl), rfl⟩
  ·have hk1 : k = 1 := by omega
   subst hk1
   go_wp2
   go_ret
   exact ⟨az (HA.out trivial).symm, rfl⟩
theorem wR (s : ByteArray) (c : UInt8) (w : World) (hs : s.size = 1) (hc : s.data.toList = [c]) {b : Bool} (h : Sx.dK c = b) :
  Calls Tryz.prog 138 #[.string s] w fun e w' => e = .returned (.bool b) ∧ w' = w := by subst h; exact DI s c w hs hc

/- threes -/
theorem qj (s : Tx.Bs) (k : Nat) (l : Tx.Bs) (h : l.length < 3) : Sx.th s k l = -1 := by
 match l, h with
 | [], _ => rfl
 | [a], _ => rfl
 | [a, b], _ => rfl
theorem Es (s : Tx.Bs) (k : Nat) (l : Tx.Bs) (h : 3 ≤ l.length) : Sx.th s k l = if l.take 3 = s then (k : Int) else Sx.th s (k + 1) (l.drop 3) := by
 match l, h with
 | a :: b :: c :: r, _ => simp [Sx.th]
theorem QV (s : Tx.Bs) (hs : s.length ≠ 3) : ∀ (n k : Nat) (l : Tx.Bs), l.length ≤ n → Sx.th s k l = -1
 | 0, k, l, h => qj s k l (by omega)
 | n + 1, k, l, h => by
   by_cases h3 : l.length < 3
   ·exact qj s k l h3
   ·rw [Es s k l (by omega), if_neg (by intro q; apply hs; rw [← q]; simp; omega)]
    exact QV s hs n (k + 1) (l.drop 3) (by simp; omega)
theorem QU (s : Tx.Bs) : ∀ (n k : Nat) (l : Tx.Bs), l.length ≤ n → -1 ≤ Sx.th s k l ∧ Sx.th s k l ≤ k + n
 | 0, k, l, h => by rw [qj s k l (by omega)]; omega
 | n + 1, k, l, h => by
   by_cases h3 : l.length < 3
   ·rw [qj s k l h3]; omega
   ·rw [Es s k l (by omega)]
    have := QU s n (k + 1) (l.drop 3) (by simp; omega)
    split <;> omega
theorem Fv (all : ByteArray) (i : Nat) : (all.extract i (i + 3)).data.toList = (all.data.toList.drop i).take 3 := by
 rw [Lib.extract_data, show i + 3 - i = 3 by omega]

theorem Ac (all s : ByteArray) (w : World) (ha : all.size ≤ 100) (hs : s.size ≤ maxLen) :
  Calls Tryz.prog 208 #[.string all, .string s] w fun e w' => e = .returned (.int .i64 (Sx.th s.data.toList 0 all.data.toList)) ∧ w' = w := by
 unfold maxLen at hs
 obtain ⟨G, hG⟩ : ∃ G, Sx.th s.data.toList 0 all.data.toList = G := ⟨_, rfl⟩
 rw [hG]
 have HG := hid hG
 clear hG
 go_enter Tryz.func208, Tryz.ntmps208
 go_wp2_with fail
 go_loop [5] (fun a => ∃ k : Nat, 3 * k ≤ all.size ∧ a = .int .i64 ((3 * k : Nat) : Int) ∧ Hid (Sx.th s.data.toList k (all.data.toList.drop (3 * k)) = G)) (fun a => all.size - (intOf a).toNat)
 case atStart => exact ⟨0, by omega, rfl, by show _ = _; simpa using HG.out⟩
 case round =>
  obtain ⟨k, hk, rfl, HA⟩ := hrel
  clear HG
  by_cases h3 : 3 * k + 3 ≤ all.size
  ·by_cases hl : s.size = 3
   ·have ST := hid (Es s.data.toList k (all.data.toList.drop (3 * k)) (by simp; omega))
    by_cases he : (all.data.toList.drop (3 * k)).take 3 = s.data.toList
    ·have hq : ((all.extract (3 * k) (3 * k + 3)).toList == s.toList) = true := by
      rw [Lib.toList_data, Lib.toList_data, Fv, he]; simp
     have HR : Hid ((k : Int) = G) := by show _ = _; rw [← HA.out, ST.out, if_pos he]
     clear he HA ST
     go_wp2
     go_ret
     exact ⟨ai (by rw [← HR.out]), rfl⟩
    ·have hq : ((all.extract (3 * k) (3 * k + 3)).toList == s.toList) = false := by
      rw [Lib.toList_data, Lib.toList_data, Fv]; simpa using he
     have HR : Hid (Sx.th s.data.toList (k + 1) (all.data.toList.drop (3 * (k + 1))) = G) := by
      show _ = _; rw [← HA.out, ST.out, if_neg he, List.drop_drop]; rfl
     clear he HA ST
     go_wp2
     go_round
     case rel => exact ⟨k + 1, by omega, by go_num, HR⟩
     case measure => simp [intOf]; try omega
   ·have HR : Hid (G = -1) := by show _ = _; rw [← HA.out]; exact QV _ (by simpa using hl) _ _ _ (Nat.le_refl _)
    have hl' : ((s.size : Int) == 3) = false := by simp; omega
    clear HA hl
    go_wp2
    go_ret
    exact ⟨ai HR.out.symm, rfl⟩
  ·have HR : Hid (G = -1) := by show _ = _; rw [← HA.out]; exact qj _ _ _ (by simp; omega)
   clear HA
   go_wp2
   go_ret
   exact ⟨ai HR.out.symm, rfl⟩
end
section
open Go.RowKit

def tF (m : Nat) (o : Option Nat) : Option Nat := o.map (· + m)
theorem LD (o : Option Nat) : tF 0 o = o := by cases o <;> simp [tF]
theorem ug (f : Bool) (r : Tx.Bs) (h : f = true ∨ r = []) : Sx.dH f (47 :: r) = none := by simp only [Sx.dH, if_true]; rw [if_pos h]
theorem Mh (f : Bool) (r : Tx.Bs) (m : Nat) (h : ¬ (f = true ∨ r = [])) : tF m (Sx.dH f (47 :: r)) = tF (m + 1) (Sx.dH false r) := by
 simp only [Sx.dH, if_true]; rw [if_neg h]; cases Sx.dH false r <;> simp [tF]; omega
theorem wM (f : Bool) (r : Tx.Bs) (h : r.head? ≠ some 115) : Sx.dH f (37 :: r) = none := by simp only [Sx.dH]; rw [if_neg (by decide), if_pos trivial, if_neg h]
theorem Ph (f : Bool) (r : Tx.Bs) (m : Nat) (h : r.head? = some 115) : tF m (Sx.dH f (37 :: r)) = tF (m + 1) (Sx.dH false r) := by
 simp only [Sx.dH]; rw [if_neg (by decide), if_pos trivial, if_pos h]; cases Sx.dH false r <;> simp [tF]; omega
theorem Mg (f : Bool) (c : UInt8) (r : Tx.Bs) (h1 : c ≠ 47) (h2 : c ≠ 37) (h : Sx.dK c = true) : Sx.dH f (c :: r) = Sx.dH false r := by
 simp only [Sx.dH]; rw [if_neg h1, if_neg h2, if_pos h]
theorem Mf (f : Bool) (c : UInt8) (r : Tx.Bs) (h1 : c ≠ 47) (h2 : c ≠ 37) (h : Sx.dK c = false) : Sx.dH f (c :: r) = none := by
 simp only [Sx.dH]; rw [if_neg h1, if_neg h2, if_neg (by simp [h])]
theorem yK (s : ByteArray) (i : Nat) (h : i < s.size) : (s.extract i (i + 1)).data.toList = [s[i]] := by
 rw [Lib.extract_data, show i + 1 - i = 1 by omega, fB s i h]; rfl
theorem rA (s : ByteArray) (i : Nat) (h : i < s.size) : (s.extract i (i + 1)).size = 1 := by
 rw [← kK, yK s i h]; rfl
theorem Ml (s : Tx.Bs) (h : Sx.dH true s = none) : Sx.cZ s = false := by simp [Sx.cZ, h, Sx.few]

theorem Dz (s : ByteArray) (w : World) (hs : s.size ≤ maxLen) :
  Calls Tryz.prog 167 #[.string s] w fun e w' => e = .returned (.bool (Sx.cZ s.data.toList)) ∧ w' = w := by
 unfold maxLen at hs
 obtain ⟨G, hG⟩ : ∃ G, Sx.cZ s.data.toList = G := ⟨_, rfl⟩
 rw [hG]
 have NO : Hid (Sx.dH true s.data.toList = none → false = G) := by intro h; rw [← hG, Ml _ h]
 have HG : Hid ((!s.data.toList.isEmpty && decide (s.size ≤ 24) && Sx.few (Sx.dH true s.data.toList)) = G) := by show _ = _; rw [← hG, ← kK]; rfl
 clear hG
 go_enter Tryz.func167, Tryz.ntmps167
 go_wp2_with fail
 go_loop [3, 4] (fun m a => ∃ k j : Nat, k ≤ s.size ∧ j ≤ k ∧ m = .int .i64 j ∧ a = .int .i64 k ∧ Hid (tF j (Sx.dH (decide (k = 0)) (s.data.toList.drop k)) = Sx.dH true s.data.toList)) (fun _ a => s.size - (intOf a).toNat)
 case atStart => exact ⟨0, 0, by omega, by omega, rfl, rfl, by show _ = _; rw [LD]; rfl⟩
 case round =>
  obtain ⟨k, j, hk, hj, rfl, rfl, HA⟩ := hrel
  by_cases hlt : k < s.size
  ·obtain ⟨c, hc⟩ : ∃ c, s[k] = c := ⟨_, rfl⟩
   have HA1 : Hid (tF j (Sx.dH (decide (k = 0)) (c :: s.data.toList.drop (k + 1))) = Sx.dH true s.data.toList) := by
    show _ = _; rw [← HA.out, fB s k hlt, hc]
   have HX := hid (yK s k hlt)
   rw [hc] at HX
   have hx1 := rA s k hlt
   clear HA
   by_cases c47 : c = 47
   ·have e47 : ((c.toNat : Int) == 47) = true := by rw [c47]; rfl
    have HC := hid c47
    clear c47
    by_cases hz : k = 0
    ·have N2 := hid (NO.out (by rw [← HA1.out, HC.out, ug _ _ (.inl (by simp [hz]))]; rfl))
     subst hz
     clear HA1
     go_wp2
     go_ret
     exact ⟨az N2.out, rfl⟩
    ·by_cases hl : k + 1 = s.size
     ·have N2 := hid (NO.out (by rw [← HA1.out, HC.out, ug _ _ (.inr (lJ s _ (by omega)))]; rfl))
      have e1 : ((k : Int) == 0) = false := by simp; omega
      have e2 : ((k : Int) == (s.size : Int) - 1) = true := by simp; omega
      clear HA1 hz hl
      go_wp2
      go_ret
      exact ⟨az N2.out, rfl⟩
     ·have HR : Hid (tF (j + 1) (Sx.dH (decide (k + 1 = 0)) (s.data.toList.drop (k + 1))) = Sx.dH true s.data.toList) := by
       show _ = _
       rw [← HA1.out, HC.out, Mh _ _ _ (by
        rintro (q | q)
        ·simp at q; exact hz q
        ·have := congrArg List.length q; simp at this; omega)]
       rw [show decide (k + 1 = 0) = false by simp]
      have e1 : ((k : Int) == 0) = false := by simp; omega
      have e2 : ((k : Int) == (s.size : Int) - 1) = false := by simp; omega
      clear HA1 hz
      go_wp2
      go_round
      case rel => exact ⟨k + 1, j + 1, by omega, by omega, by go_num, by go_num, HR⟩
      case measure => simp [intOf]; omega
   have C47 := hid c47
   have e47 : ((c.toNat : Int) == 47) = false := by have := iy c 47; simp at this; simp [this, c47]
   clear c47
   by_cases c37 : c = 37
   ·have e37 : ((c.toNat : Int) == 37) = true := by rw [c37]; rfl
    have HC := hid c37
    clear c37
    by_cases hl : k + 1 = s.size
    ·have N2 := hid (NO.out (by rw [← HA1.out, HC.out, wM _ _ (by rw [lJ s _ (by omega)]; simp)]; rfl))
     have e2 : ((k : Int) == (s.size : Int) - 1) = true := by simp; omega
     clear HA1 hl
     go_wp2
     go_ret
     exact ⟨az N2.out, rfl⟩
    ·have hn : k + 1 < s.size := by omega
     have e2 : ((k : Int) == (s.size : Int) - 1) = false := by simp; omega
     obtain ⟨d, hd⟩ : ∃ d, s[k + 1] = d := ⟨_, rfl⟩
     have HD : Hid ((s.data.toList.drop (k + 1)).head? = some d) := by show _ = _; rw [fB s (k + 1) hn, hd]; rfl
     by_cases d115 : d = 115
     ·have e3 : ((d.toNat : Int) != 115) = false := by rw [d115]; rfl
      have HR : Hid (tF (j + 1) (Sx.dH (decide (k + 1 = 0)) (s.data.toList.drop (k + 1))) = Sx.dH true s.data.toList) := by
       show _ = _
       rw [← HA1.out, HC.out, Ph _ _ _ (by rw [HD.out, d115])]
       rw [show decide (k + 1 = 0) = false by simp]
      clear HA1 d115
      go_wp2
      go_round
      case rel => exact ⟨k + 1, j + 1, by omega, by omega, by go_num, by go_num, HR⟩
      case measure => simp [intOf]; omega
     ·have e3 : ((d.toNat : Int) != 115) = true := by have := iy d 115; simp at this; simp [bne, this, d115]
      have N2 := hid (NO.out (by rw [← HA1.out, HC.out, wM _ _ (by rw [HD.out]; simpa using d115)]; rfl))
      clear HA1 d115
      go_wp2
      go_ret
      exact ⟨az N2.out, rfl⟩
   have C37 := hid c37
   have e37 : ((c.toNat : Int) == 37) = false := by have := iy c 37; simp at this; simp [this, c37]
   clear c37
   cases hp : Sx.dK c
   ·have N2 := hid (NO.out (by rw [← HA1.out, Mf _ _ _ C47.out C37.out hp]; rfl))
    have HP := hid hp
    clear HA1 hp
    go_wp2_with (go_at_call 138; refine (wR _ c _ hx1 HX.out HP.out).mono ?_; rintro e w1 ⟨rfl, rfl⟩)
    go_ret
    exact ⟨az N2.out, rfl⟩
   ·have HR : Hid (tF j (Sx.dH (decide (k + 1 = 0)) (s.data.toList.drop (k + 1))) = Sx.dH true s.data.toList) := by
     show _ = _
     rw [← HA1.out, Mg _ _ _ C47.out C37.out hp]
     rw [show decide (k + 1 = 0) = false by simp]
    have HP := hid hp
    clear HA1 hp
    go_wp2_with (go_at_call 138; refine (wR _ c _ hx1 HX.out HP.out).mono ?_; rintro e w1 ⟨rfl, rfl⟩)
    go_round
    case rel => exact ⟨k + 1, j, by omega, by omega, rfl, by go_num, HR⟩
    case measure => simp [intOf]; omega
  ·have HE : Hid ((!s.data.toList.isEmpty && decide (s.size ≤ 24) && decide (j ≤ 1)) = G) := by
    show _ = _; rw [← HG.out, ← HA.out, lJ s k (by omega)]; simp [Sx.dH, tF, Sx.few]
   have hE : s.toList.isEmpty = s.data.toList.isEmpty := by rw [Lib.toList_data]
   cases he : s.data.toList.isEmpty
   ·rw [he] at hE
    have HE2 := hid he
    clear he HA
    by_cases h24 : s.size ≤ 24 <;> by_cases h1 : j ≤ 1
    all_goals
     go_wp2
     go_ret
     exact ⟨az (by rw [← HE.out, HE2.out]; simp [h24, h1]; try omega), rfl⟩
   ·rw [he] at hE
    have HE2 := hid he
    clear he HA
    go_wp2
    go_ret
    exact ⟨az (by rw [← HE.out, HE2.out]; rfl), rfl⟩
theorem wQ (s : ByteArray) (w : World) (hs : s.size ≤ maxLen) {b : Bool} (h : Sx.cZ s.data.toList = b) :
  Calls Tryz.prog 167 #[.string s] w fun e w' => e = .returned (.bool b) ∧ w' = w := by subst h; exact Dz s w hs
end
section
open Go.RowKit

namespace Sx
/- what is left of the fields; none: it has failed -/
abbrev O := Option (List Tx.Bs)
def nxS : O → Tx.Bs
 | some (f :: _) => f
 | _ => []
def nxO : O → O
 | some (_ :: r) => some r
 | _ => none
def keep (b : Bool) (o : O) : O := if b = true then o else none
theorem dG (b : Bool) : keep b none = none := by cases b <;> rfl
end Sx

structure TkS (w : World) (b lim : Nat) (bad : Bool) (fs : List Tx.Bs) : Prop where
 lt : b < lim
 le : lim ≤ w.heap.size
 c0 : ∃ a cap, w.cell? ⟨b, 0, none⟩ = some (.slice a fs.length cap) ∧ fs.length ≤ cap ∧ (fs ≠ [] → ∃ g o, a = some ⟨g, o, none⟩ ∧ g < lim ∧ g ≠ b ∧ ∀ i f, fs[i]? = some f → w.cell? ⟨g, o + i, none⟩ = some (af f))
 c1 : w.cell? ⟨b, 1, none⟩ = some (.bool bad)
 z0 : w.frozen? ⟨b, 0, none⟩ = false
 z1 : w.frozen? ⟨b, 1, none⟩ = false
 few : fs.length ≤ 12
 short : ∀ f ∈ fs, f.length ≤ 24
def TkR (w : World) (b lim : Nat) : Sx.O → Prop
 | none => ∃ fs, TkS w b lim true fs
 | some fs => TkS w b lim false fs
structure TkO (w : World) (b lim : Nat) (o : Sx.O) : Prop where
 out : TkR w b lim o
theorem Ae {w : World} {b lim : Nat} {o : Sx.O} (h : TkO w b lim o) : b < w.heap.size := by
 cases o with
 | none => obtain ⟨fs, h⟩ := h.out; exact q4N h.lt h.le
 | some fs => exact q4N (TkS.lt h.out) (TkS.le h.out)
theorem je {w : World} {b lim : Nat} {o : Sx.O} (h : TkO w b lim o) : (Sx.nxS o).length ≤ 24 := by
 match o, h with
 | none, _ => simp [Sx.nxS]
 | some [], _ => simp [Sx.nxS]
 | some (f :: r), h => exact TkS.short h.out f (by simp)

/- worlds that differ in one block alone -/
section
variable {w w1 w2 : World} {b lim : Nat}
theorem pK (h : w.grownBy w1 (some b)) (o : Obj) : w.grownBy (w1.alloc o) (some b) :=
 ⟨h.os, h.tape, h.output, by have := h.size; simp; omega, fun k hk hn => by rw [Below.heap_alloc _ _ _ (by have := h.size; omega)]; exact h.block k hk hn⟩
theorem cO (h : w.grownBy w1 (some b)) {p : Addr} (hp : p.block = b ∨ w.heap.size ≤ p.block) (u : Value) : w.grownBy (w1.setCell p u) (some b) :=
 ⟨h.os, h.tape, h.output, by have := h.size; simp; omega, fun k hk hn => by
  rw [Below.heap_setCell _ _ _ _ (by
   intro q
   rcases hp with hp | hp
   ·exact hn (by rw [q, hp])
   ·omega)]
  exact h.block k hk hn⟩
theorem Fy (h : w.grownBy w1 (some b)) (n : Nat) : w.grownBy (w1.drewN n) (some b) := by
 have e : (w1.drewN n).heap = w1.heap := by simp
 exact ⟨by rw [← h.os]; simp [World.drewN], by rw [← h.tape]; simp [World.drewN], by rw [← h.output]; simp [World.drewN], by rw [e]; exact h.size, fun k hk hn => by rw [e]; exact h.block k hk hn⟩
theorem jc (w : World) (b : Nat) : w.grownBy w (some b) := World.grownBy.refl _ _
theorem aP (h : w.grownBy w1 (some b)) (k : w1.grownBy w2 (some b)) : w.grownBy w2 (some b) := h.trans k
theorem Pn (h : w.grownBy w1 (some b)) (k : Below w1.heap.size w1 w2) : w.grownBy w2 (some b) :=
 ⟨k.os.trans h.os, k.tape.trans h.tape, k.output.trans h.output, Nat.le_trans h.size k.size, fun i hi hn => by rw [k.block i (by have := h.size; omega)]; exact h.block i hi hn⟩
theorem Lt {bad : Bool} {fs : List Tx.Bs} {r : Nat} (h : TkS w b lim bad fs) (hg : ∀ k, k < w.heap.size → w1.heap[k]? = w.heap[k]?) (hs : w.heap.size ≤ w1.heap.size) : TkS w1 b lim bad fs := by
 obtain ⟨lt', le, ⟨a, cap, c0, hc, hr⟩, c1, z0, z1, few, short⟩ := h
 have lt := q4N lt' le
 refine ⟨lt', by omega, ⟨a, cap, ?_, hc, ?_⟩, ?_, ?_, ?_, few, short⟩
 ·rw [World.cell?_of_block (w := w) (hg b lt)]; exact c0
 ·intro hn
  obtain ⟨g, o, e, hl, hne, hcell⟩ := hr hn
  exact ⟨g, o, e, hl, hne, fun i f hf => by rw [World.cell?_of_block (w := w) (hg g (by omega))]; exact hcell i f hf⟩
 ·rw [World.cell?_of_block (w := w) (hg b lt)]; exact c1
 ·rw [World.frozen?_of_block (w := w) (hg b lt)]; exact z0
 ·rw [World.frozen?_of_block (w := w) (hg b lt)]; exact z1
theorem xS {o : Sx.O} (h : TkO w b lim o) (hg : ∀ k, k < w.heap.size → w1.heap[k]? = w.heap[k]?) (hs : w.heap.size ≤ w1.heap.size) : TkO w1 b lim o := by
 cases o with
 | none => obtain ⟨fs, h⟩ := h.out; exact ⟨fs, Lt (r := 0) h hg hs⟩
 | some fs => exact ⟨Lt (r := 0) h.out hg hs⟩
theorem CO {o : Sx.O} (h : TkO w b lim o) (k : Below w.heap.size w w1) : TkO w1 b lim o := xS h (fun i hi => k.block i hi) k.size
theorem bJ {o : Sx.O} (h : TkO w b lim o) (x : Obj) : TkO (w.alloc x) b lim o := xS h (fun i hi => Below.heap_alloc _ _ _ hi) (by simp)
theorem vY {o : Sx.O} (h : TkO w b lim o) (n : Nat) : TkO (w.drewN n) b lim o := xS h (fun i hi => by simp) (by simp)
/- a cell of another block is written -/
theorem xU {bad : Bool} {fs : List Tx.Bs} (h : TkS w b lim bad fs) : TkS (w.setCell ⟨b, 1, none⟩ (.bool true)) b lim true fs := by
 obtain ⟨lt', le, ⟨a, cap, c0, hc, hr⟩, c1, z0, z1, few, short⟩ := h
 have lt := q4N lt' le
 refine ⟨lt', by simpa using le, ⟨a, cap, by simp [go_sem, c0, lt], hc, ?_⟩, by simp [go_sem, c1, lt], by simp [go_sem, z0, lt], by simp [go_sem, z1, lt], few, short⟩
 intro hn
 obtain ⟨g, o, e, hl, hne, hcell⟩ := hr hn
 exact ⟨g, o, e, hl, hne, fun i f hf => by rw [World.cell?_of_block (w := w) (Below.heap_setCell _ _ _ _ hne)]; exact hcell i f hf⟩
theorem fK {o : Sx.O} (h : TkO w b lim o) : TkO (w.setCell ⟨b, 1, none⟩ (.bool true)) b lim none := by
 cases o with
 | none => obtain ⟨fs, h⟩ := h.out; exact ⟨fs, xU h⟩
 | some fs => exact ⟨fs, xU h.out⟩
theorem Lu {bad : Bool} {fs : List Tx.Bs} (h : TkS w b lim bad fs) {p : Addr} (hp : lim ≤ p.block) (u : Value) : TkS (w.setCell p u) b lim bad fs := by
 obtain ⟨lt', le, ⟨a, cap, c0, hc, hr⟩, c1, z0, z1, few, short⟩ := h
 have hk : ∀ k, k < lim → (w.setCell p u).heap[k]? = w.heap[k]? := fun k hk => Below.heap_setCell _ _ _ _ (by omega)
 refine ⟨lt', by simpa using le, ⟨a, cap, ?_, hc, ?_⟩, ?_, ?_, ?_, few, short⟩
 ·rw [World.cell?_of_block (w := w) (hk b lt')]; exact c0
 ·intro hn
  obtain ⟨g, o, e, hl, hne, hcell⟩ := hr hn
  exact ⟨g, o, e, hl, hne, fun i f hf => by rw [World.cell?_of_block (w := w) (hk g hl)]; exact hcell i f hf⟩
 ·rw [World.cell?_of_block (w := w) (hk b lt')]; exact c1
 ·rw [World.frozen?_of_block (w := w) (hk b lt')]; exact z0
 ·rw [World.frozen?_of_block (w := w) (hk b lt')]; exact z1
theorem fG {o : Sx.O} (h : TkO w b lim o) {p : Addr} (hp : lim ≤ p.block) (u : Value) : TkO (w.setCell p u) b lim o := by
 cases o with
 | none => obtain ⟨fs, h⟩ := h.out; exact ⟨fs, Lu h hp u⟩
 | some fs => exact ⟨Lu h.out hp u⟩
theorem qp {o : Sx.O} (h : TkO w b lim o) : b < lim ∧ lim ≤ w.heap.size := by
 cases o with
 | none => obtain ⟨fs, h⟩ := h.out; exact ⟨h.lt, h.le⟩
 | some fs => exact ⟨TkS.lt h.out, TkS.le h.out⟩
theorem gI (h : w.grownBy w1 (some b)) : (∀ x o, x < w.heap.size → ¬ x = b → w1.cell? ⟨x, o, none⟩ = w.cell? ⟨x, o, none⟩) ∧ (∀ x o, x < w.heap.size → ¬ x = b → w1.frozen? ⟨x, o, none⟩ = w.frozen? ⟨x, o, none⟩) :=
 ⟨fun x o hx hn => World.cell?_of_block (w := w) (a := ⟨x, o, none⟩) (h.block x hx (by simpa using hn)), fun x o hx hn => World.frozen?_of_block (w := w) (a := ⟨x, o, none⟩) (h.block x hx (by simpa using hn))⟩
end

theorem fe {lim : Nat} (b : Nat) (o : Sx.O) (w : World) (h : TkO w b lim o) :
  Calls Tryz.prog 146 #[.pointer (some ⟨b, 0, none⟩)] w fun e w' => e = .returned (af (Sx.nxS o)) ∧ w.grownBy w' (some b) ∧ TkO w' b lim (Sx.nxO o) := by
 match o, h with
 | none, ⟨fs, h⟩ =>
   have H := hid h
   obtain ⟨lt', le, ⟨a, cap, c0, hc, hr⟩, c1, z0, z1, few, short⟩ := h
   have lt := q4N lt' le
   clear hr short
   go_enter Tryz.func146, Tryz.ntmps146
   go_wp2
   go_ret
   exact ⟨rfl, cO (jc _ _) (.inl rfl) _, ⟨fs, xU H.out⟩⟩
 | some [], h =>
   have H : Hid (TkS w b lim false []) := h.out
   obtain ⟨lt', le, ⟨a, cap, c0, hc, hr⟩, c1, z0, z1, few, short⟩ := H.out
   have lt := q4N lt' le
   clear hr short
   go_enter Tryz.func146, Tryz.ntmps146
   go_wp2
   go_ret
   exact ⟨rfl, cO (jc _ _) (.inl rfl) _, ⟨[], xU H.out⟩⟩
 | some (f :: r), h =>
   have H : TkS w b lim false (f :: r) := h.out
   obtain ⟨lt', le, ⟨a, cap, c0, hc, hr⟩, c1, z0, z1, few, short⟩ := H
   have lt := q4N lt' le
   obtain ⟨g, o, rfl, hl, hne, hcell⟩ := hr (by simp)
   have g0 : w.cell? ⟨g, o, none⟩ = some (af f) := by simpa using hcell 0 f (by simp)
   have hz : ((r.length : Int) + 1 == 0) = false := by simp; omega
   have HC := hid hcell
   have SH := hid short
   have F := hid few
   have hrl : r.length + 1 ≤ cap := by simpa using hc
   have hfew : r.length + 1 ≤ 12 := by simpa using few
   have c0' : w.cell? ⟨b, 0, none⟩ = some (.slice (some ⟨g, o, none⟩) (r.length + 1) cap) := by simpa using c0
   have HC0 := hid c0'
   have HC1 := hid c1
   have HZ0 := hid z0
   have HZ1 := hid z1
   clear hr hcell short few hc c0
   go_enter Tryz.func146, Tryz.ntmps146
   go_wp2
   ·go_ret
    have hr0 : r = [] := List.length_eq_zero_iff.1 (by omega)
    refine ⟨rfl, cO (jc _ _) (.inl rfl) _, ?_⟩
    refine ⟨show TkS _ _ _ _ _ from ?_⟩
    refine ⟨lt', by simpa using le, ⟨some ⟨g, o, none⟩, 0, ?_, by omega, fun hn => absurd hr0 hn⟩, ?_, ?_, ?_, by omega, fun x hx => SH.out x (by simp [hx])⟩
    ·simp [go_sem, HC0.out, lt]
    ·simp [go_sem, HC1.out, lt]
    ·simp [go_sem, HZ0.out, lt]
    ·simp [go_sem, HZ1.out, lt]
   ·go_ret
    refine ⟨rfl, cO (jc _ _) (.inl rfl) _, ?_⟩
    refine ⟨show TkS _ _ _ _ _ from ?_⟩
    refine ⟨lt', by simpa using le, ⟨some ⟨g, o + 1, none⟩, cap - 1, ?_, by omega, ?_⟩, ?_, ?_, ?_, by omega, fun x hx => SH.out x (by simp [hx])⟩
    ·simp [go_sem, HC0.out, lt]
    ·intro _
     exact ⟨g, o + 1, rfl, hl, hne, fun i x hx => by
      rw [World.cell?_of_block (w := w) (Below.heap_setCell _ _ _ _ hne)]
      have := HC.out (i + 1) x (by simpa using hx)
      rw [show o + 1 + i = o + (i + 1) by omega]; exact this⟩
    ·simp [go_sem, HC1.out, lt]
    ·simp [go_sem, HZ0.out, lt]
    ·simp [go_sem, HZ1.out, lt]
end
section
open Go.RowKit

namespace Sx
theorem Il : ∀ (l : Tx.Bs) (n : Int) (c : UInt8), val n (l ++ [c]) = 10 * val n l + (c.toNat : Int) - 48
 | [], n, c => rfl
 | d :: r, n, c => by simp only [List.cons_append, val]; exact Il r _ c
theorem Tw {c : UInt8} (h : fZ c = true) : 48 ≤ (c.toNat : Int) ∧ (c.toNat : Int) ≤ 57 := by
 simp [fZ] at h; omega
theorem Lx : ∀ (l : Tx.Bs) (n : Int), 0 ≤ n → l.all fZ = true → 0 ≤ val n l ∧ val n l < (n + 1) * 10 ^ l.length
 | [], n, hn, _ => by simp [val]; omega
 | c :: r, n, hn, h => by
   simp at h
   have hc := Tw h.1
   have := Lx r (10 * n + (c.toNat : Int) - 48) (by omega) (by simpa using h.2)
   simp only [val]
   refine ⟨this.1, Int.lt_of_lt_of_le this.2 ?_⟩
   rw [List.length_cons, Int.pow_succ, Int.mul_comm (10 ^ r.length) 10, ← Int.mul_assoc]
   exact Int.mul_le_mul_of_nonneg_right (by omega) (Int.le_of_lt (Int.pow_pos (by omega)))
theorem pow4 (k : Nat) (h : k ≤ 4) : (10 : Int) ^ k ≤ 10000 := by
 match k, h with
 | 0, _ => decide
 | 1, _ => decide
 | 2, _ => decide
 | 3, _ => decide
 | 4, _ => decide
theorem Q7 (l : Tx.Bs) (h : l.all fZ = true) (hl : l.length ≤ 4) : 0 ≤ val 0 l ∧ val 0 l ≤ 9999 := by
 have := Lx l 0 (by omega) h
 have := pow4 _ hl
 omega
theorem jC (a b : Nat) (s : Tx.Bs) (hb : b ≤ 4) : 0 ≤ (num a b s).getD 0 ∧ (num a b s).getD 0 ≤ 9999 := by
 unfold num
 split
 ·rename_i h; exact Q7 s h.2.2 (by omega)
 ·simp
end Sx

theorem fq {w : World} {b lim : Nat} {o : Sx.O} (h : TkO w b lim o) : ∃ x bad, w.cell? ⟨b, 0, none⟩ = some x ∧ w.cell? ⟨b, 1, none⟩ = some (.bool bad) ∧ w.frozen? ⟨b, 0, none⟩ = false ∧ w.frozen? ⟨b, 1, none⟩ = false ∧ b < w.heap.size := by
 cases o with
 | none => obtain ⟨fs, lt', le, ⟨a, cap, c0, _⟩, c1, z0, z1, _⟩ := h.out; exact ⟨_, _, c0, c1, z0, z1, q4N lt' le⟩
 | some fs => obtain ⟨lt', le, ⟨a, cap, c0, _⟩, c1, z0, z1, _⟩ := (show TkS _ _ _ _ _ from h.out); exact ⟨_, _, c0, c1, z0, z1, q4N lt' le⟩

theorem Jy {lim : Nat} (b : Nat) (o : Sx.O) (s : ByteArray) (least most : Nat) (w : World) (h : TkO w b lim o) (hm : most ≤ 4) (hs : s.size ≤ 24) :
  Calls Tryz.prog 187 #[.pointer (some ⟨b, 0, none⟩), .string s, .int .i64 least, .int .i64 most] w fun e w' =>
   e = .returned (.int .i64 ((Sx.num least most s.data.toList).getD 0)) ∧ w.grownBy w' (some b) ∧ TkO w' b lim (Sx.keep (Sx.num least most s.data.toList).isSome o) := by
 obtain ⟨x0, bad, c0, c1, z0, z1, lt⟩ := fq h
 have H := hid h
 obtain ⟨G, hG⟩ : ∃ G, Sx.num least most s.data.toList = G := ⟨_, rfl⟩
 rw [hG]
 have HG : Hid (G = if least ≤ s.size ∧ s.size ≤ most ∧ s.data.toList.all Sx.fZ = true then some (Sx.val 0 s.data.toList) else none) := by
  show _ = _; rw [← hG, Sx.num, kK]
 clear hG h c0 z0
 by_cases hr : least ≤ s.size ∧ s.size ≤ most
 ·have HB : Hid (decide ((least : Int) ≤ (s.size : Int) ∧ (s.size : Int) ≤ (most : Int)) = true) := by show _ = _; simp; omega
  obtain ⟨hr1, hr2⟩ := hr
  go_enter Tryz.func187, Tryz.ntmps187
  go_wp2_with (go_at_call 77; refine (ak _ _ _ _ HB.out).mono ?_; rintro e w1 ⟨rfl, rfl⟩)
  go_loop [9, 10] (fun n a => ∃ k : Nat, k ≤ s.size ∧ a = .int .i64 k ∧ n = .int .i64 (Sx.val 0 (s.data.toList.take k)) ∧ Hid ((s.data.toList.take k).all Sx.fZ = true)) (fun _ a => s.size - (intOf a).toNat)
  case atStart => exact ⟨0, by omega, rfl, rfl, by show _ = _; simp⟩
  case round =>
   obtain ⟨k, hk, rfl, rfl, HA⟩ := hrel
   have hv := Sx.Q7 _ HA.out (by simp; omega)
   obtain ⟨V, hV⟩ : ∃ V, Sx.val 0 (s.data.toList.take k) = V := ⟨_, rfl⟩
   rw [hV] at hv ⊢
   have HV := hid hV
   obtain ⟨v1, v2⟩ := hv
   clear hV
   by_cases hlt : k < s.size
   ·obtain ⟨c, hc⟩ : ∃ c, s[k] = c := ⟨_, rfl⟩
    have HC := hid hc
    have hcb : (c.toNat : Int) < 256 := by have := c.toNat_lt; omega
    cases h1 : Sx.fZ c
    ·have H1 := hid h1
     have N2 : Hid (G = none) := by show _ = _; rw [HG.out, if_neg (by rw [rU s _ k hlt (by rw [HC.out]; exact H1.out)]; simp)]
     clear h1
     go_wp2_with (go_at_call 166; refine (bH _ _ H1.out).mono ?_; rintro e w1 ⟨rfl, rfl⟩)
     go_ret
     rw [N2.out]
     exact ⟨rfl, cO (jc _ _) (.inl rfl) _, fK H.out⟩
    ·have H1 := hid h1
     clear h1
     go_wp2_with (go_at_call 166; refine (bH _ _ H1.out).mono ?_; rintro e w1 ⟨rfl, rfl⟩)
     go_round
     case rel => exact ⟨k + 1, by omega, by go_num, by rw [dQ s k hlt, Sx.Il, HV.out, HC.out], eP s _ k hlt HA.out (by rw [HC.out]; exact H1.out)⟩
     case measure => simp [intOf]; omega
   ·have N2 : Hid (G = some V) := by
     show _ = _
     rw [HG.out, if_pos ⟨hr1, hr2, nJ s _ k (by omega) HA.out⟩, ← HV.out, List.take_of_length_le (by simp; omega)]
    go_wp2
    go_ret
    rw [N2.out]
    exact ⟨rfl, jc _ _, H.out⟩
 ·have HB : Hid (decide ((least : Int) ≤ (s.size : Int) ∧ (s.size : Int) ≤ (most : Int)) = false) := by show _ = _; simp; omega
  have N2 : Hid (G = none) := by show _ = _; rw [HG.out, if_neg (by rintro ⟨q1, q2, _⟩; exact hr ⟨q1, q2⟩)]
  clear hr
  go_enter Tryz.func187, Tryz.ntmps187
  go_wp2_with (go_at_call 77; refine (ak _ _ _ _ HB.out).mono ?_; rintro e w1 ⟨rfl, rfl⟩)
  go_ret
  rw [N2.out]
  exact ⟨rfl, cO (jc _ _) (.inl rfl) _, fK H.out⟩

theorem cK (l : Tx.Bs) : (⟨l.toArray⟩ : ByteArray).size = l.length := by simp [ByteArray.size]
theorem fD (l : Tx.Bs) : (⟨l.toArray⟩ : ByteArray).data.toList = l := by simp
theorem gq (l : Tx.Bs) (w : World) {b : Bool} (h : Sx.aW l = b) : Calls Tryz.prog 120 #[af l] w fun e w' => e = .returned (.bool b) ∧ w' = w :=
 Mq _ w (by rw [fD]; exact h)
theorem uG (l : Tx.Bs) (w : World) (hs : l.length ≤ 24) {b : Bool} (h : Sx.dV l = b) : Calls Tryz.prog 164 #[af l] w fun e w' => e = .returned (.bool b) ∧ w' = w :=
 wZ _ w (by rw [cK]; unfold maxLen; omega) (by rw [fD]; exact h)
theorem DF (l : Tx.Bs) (w : World) (hs : l.length ≤ 24) {b : Bool} (h : Sx.cZ l = b) : Calls Tryz.prog 167 #[af l] w fun e w' => e = .returned (.bool b) ∧ w' = w :=
 wQ _ w (by rw [cK]; unfold maxLen; omega) (by rw [fD]; exact h)
theorem il {lim : Nat} (b : Nat) (o : Sx.O) (l : Tx.Bs) (least most : Nat) (w : World) (h : TkO w b lim o) (hm : most ≤ 4) (hs : l.length ≤ 24) :
  Calls Tryz.prog 187 #[.pointer (some ⟨b, 0, none⟩), af l, .int .i64 least, .int .i64 most] w fun e w' =>
   e = .returned (.int .i64 ((Sx.num least most l).getD 0)) ∧ w.grownBy w' (some b) ∧ TkO w' b lim (Sx.keep (Sx.num least most l).isSome o) := by
 have := Jy b o ⟨l.toArray⟩ least most w h hm (by rw [cK]; exact hs)
 rw [fD] at this; exact this

theorem uw {lim : Nat} (b : Nat) (o : Sx.O) (w : World) (h : TkO w b lim o) :
  Calls Tryz.prog 149 #[.pointer (some ⟨b, 0, none⟩)] w fun e w' =>
   e = .returned (af (Sx.nxS o)) ∧ w.grownBy w' (some b) ∧ TkO w' b lim (Sx.keep (Sx.aW (Sx.nxS o)) (Sx.nxO o)) := by
 have H := hid h
 clear h
 cases hn : Sx.aW (Sx.nxS o)
 all_goals
  have HN := hid hn
  clear hn
  go_enter Tryz.func149, Tryz.ntmps149
  go_wp2_with fail
  refine (fe b o _ H.out).mono ?_
  rintro e w1 ⟨rfl, hg, ht⟩
  obtain ⟨x0, bad, c0, c1, z0, z1, lt⟩ := fq ht
  go_wp2_with (go_at_call 120; refine (gq _ _ HN.out).mono ?_; rintro e w2 ⟨rfl, rfl⟩)
  go_ret
 ·exact ⟨rfl, cO hg (.inl rfl) _, fK ht⟩
 ·exact ⟨rfl, hg, ht⟩

def RN : ByteArray := ⟨#[74, 97, 110, 70, 101, 98, 77, 97, 114, 65, 112, 114, 77, 97, 121, 74, 117, 110, 74, 117, 108, 65, 117, 103, 83, 101, 112, 79, 99, 116, 78, 111, 118, 68, 101, 99]⟩
def Og : ByteArray := ⟨#[83, 117, 110, 77, 111, 110, 84, 117, 101, 87, 101, 100, 84, 104, 117, 70, 114, 105, 83, 97, 116]⟩
theorem zt (l : Tx.Bs) (w : World) (hs : l.length ≤ 24) {n : Int} (hn : Sx.th l 0 Sx.vH = n) :
  Calls Tryz.prog 208 #[.string ⟨#[74, 97, 110, 70, 101, 98, 77, 97, 114, 65, 112, 114, 77, 97, 121, 74, 117, 110, 74, 117, 108, 65, 117, 103, 83, 101, 112, 79, 99, 116, 78, 111, 118, 68, 101, 99]⟩, af l] w fun e w' => e = .returned (.int .i64 n) ∧ w' = w := by
 subst hn
 have := Ac RN ⟨l.toArray⟩ w (by decide) (by rw [cK]; unfold maxLen; omega)
 rw [fD] at this; exact this
theorem uU (l : Tx.Bs) (w : World) (hs : l.length ≤ 24) {n : Int} (hn : Sx.th l 0 Sx.qw = n) :
  Calls Tryz.prog 208 #[.string ⟨#[83, 117, 110, 77, 111, 110, 84, 117, 101, 87, 101, 100, 84, 104, 117, 70, 114, 105, 83, 97, 116]⟩, af l] w fun e w' => e = .returned (.int .i64 n) ∧ w' = w := by
 subst hn
 have := Ac Og ⟨l.toArray⟩ w (by decide) (by rw [cK]; unfold maxLen; omega)
 rw [fD] at this; exact this

theorem Cf {lim : Nat} (b : Nat) (o : Sx.O) (w : World) (h : TkO w b lim o) :
  Calls Tryz.prog 188 #[.pointer (some ⟨b, 0, none⟩)] w fun e w' =>
   e = .returned (.int .i64 ((Sx.dE (Sx.nxS o)).getD 0)) ∧ w.grownBy w' (some b) ∧ TkO w' b lim (Sx.keep (Sx.dE (Sx.nxS o)).isSome (Sx.nxO o)) := by
 have H := hid h
 have hl := je h
 clear h
 obtain ⟨n, hn⟩ : ∃ n, Sx.th (Sx.nxS o) 0 Sx.vH = n := ⟨_, rfl⟩
 have hb := QU (Sx.nxS o) 36 0 Sx.vH (by decide)
 rw [hn] at hb
 obtain ⟨b1, b2⟩ := hb
 have HO : Hid (Sx.dE (Sx.nxS o) = if n < 0 then none else some (n + 1)) := by show _ = _; rw [Sx.dE, hn]
 have HN := hid hn
 clear hn
 by_cases h0 : n < 0
 ·have hn1 : n = -1 := by omega
  have HO2 : Hid (Sx.dE (Sx.nxS o) = none) := by show _ = _; rw [HO.out, if_pos h0]
  subst hn1
  clear HO
  go_enter Tryz.func188, Tryz.ntmps188
  go_wp2_with fail
  refine (fe b o _ H.out).mono ?_
  rintro e w1 ⟨rfl, hg, ht⟩
  obtain ⟨x0, bad, c0, c1, z0, z1, lt⟩ := fq ht
  go_wp2_with (go_at_call 208; refine (zt _ _ hl HN.out).mono ?_; rintro e w2 ⟨rfl, rfl⟩)
  go_ret
  rw [HO2.out]
  exact ⟨rfl, cO hg (.inl rfl) _, fK ht⟩
 ·have HO2 : Hid (Sx.dE (Sx.nxS o) = some (n + 1)) := by show _ = _; rw [HO.out, if_neg h0]
  clear HO
  go_enter Tryz.func188, Tryz.ntmps188
  go_wp2_with fail
  refine (fe b o _ H.out).mono ?_
  rintro e w1 ⟨rfl, hg, ht⟩
  obtain ⟨x0, bad, c0, c1, z0, z1, lt⟩ := fq ht
  go_wp2_with (go_at_call 208; refine (zt _ _ hl HN.out).mono ?_; rintro e w2 ⟨rfl, rfl⟩)
  go_ret
  rw [HO2.out]
  exact ⟨rfl, hg, ht⟩
theorem Ec {lim : Nat} (b : Nat) (o : Sx.O) (l : Tx.Bs) (w : World) (h : TkO w b lim o) (hl : l.length ≤ 24) :
  Calls Tryz.prog 209 #[.pointer (some ⟨b, 0, none⟩), af l] w fun e w' =>
   e = .returned (.int .i64 ((Sx.wkO l).getD 0)) ∧ w.grownBy w' (some b) ∧ TkO w' b lim (Sx.keep (Sx.wkO l).isSome o) := by
 have H := hid h
 obtain ⟨x0, bad, c0, c1, z0, z1, lt⟩ := fq h
 clear h
 obtain ⟨n, hn⟩ : ∃ n, Sx.th l 0 Sx.qw = n := ⟨_, rfl⟩
 have HO : Hid (Sx.wkO l = if n < 0 then none else some n) := by show _ = _; rw [Sx.wkO, hn]
 have HN := hid hn
 clear hn
 by_cases h0 : n < 0
 ·have HO2 : Hid (Sx.wkO l = none) := by show _ = _; rw [HO.out, if_pos h0]
  clear HO
  go_enter Tryz.func209, Tryz.ntmps209
  go_wp2_with (go_at_call 208; refine (uU _ _ hl HN.out).mono ?_; rintro e w2 ⟨rfl, rfl⟩)
  go_ret
  rw [HO2.out]
  exact ⟨rfl, cO (jc _ _) (.inl rfl) _, fK H.out⟩
 ·have HO2 : Hid (Sx.wkO l = some n) := by show _ = _; rw [HO.out, if_neg h0]
  clear HO
  go_enter Tryz.func209, Tryz.ntmps209
  go_wp2_with (go_at_call 208; refine (uU _ _ hl HN.out).mono ?_; rintro e w2 ⟨rfl, rfl⟩)
  go_ret
  rw [HO2.out]
  exact ⟨rfl, jc _ _, H.out⟩
/- Sixty answers its digits' number even where it fails -/
def qY (l : Tx.Bs) : Int := (Sx.num 2 2 l).getD 0
theorem qL (l : Tx.Bs) : 0 ≤ qY l ∧ qY l ≤ 9999 := Sx.jC 2 2 l (by omega)
theorem Ee {l : Tx.Bs} {n : Int} (h : Sx.mK l = some n) : qY l = n := by
 unfold Sx.mK at h; unfold qY
 cases hq : Sx.num 2 2 l with
 | none => rw [hq] at h; cases h
 | some k =>
   rw [hq] at h
   simp only [Option.bind_some] at h
   split at h
   ·cases h
   ·simpa using h
theorem vT {lim : Nat} (b : Nat) (o : Sx.O) (l : Tx.Bs) (w : World) (h : TkO w b lim o) (hl : l.length ≤ 24) :
  Calls Tryz.prog 207 #[.pointer (some ⟨b, 0, none⟩), af l] w fun e w' =>
   e = .returned (.int .i64 (qY l)) ∧ w.grownBy w' (some b) ∧ TkO w' b lim (Sx.keep (Sx.mK l).isSome o) := by
 have H := hid h
 clear h
 obtain ⟨G, hG⟩ : ∃ G, Sx.num 2 2 l = G := ⟨_, rfl⟩
 have hb := Sx.jC 2 2 l (by omega)
 have HV : Hid (qY l = G.getD 0) := by show _ = _; rw [qY, hG]
 have HO : Hid (Sx.mK l = G.bind fun n => if 59 < n then none else some n) := by show _ = _; rw [Sx.mK, hG]
 have HN := hid (il (lim := lim) b o l 2 2)
 rw [hG] at hb HN
 clear hG
 by_cases h59 : 59 < G.getD 0
 ·have HK : Hid ((Sx.mK l).isSome = false) := by
   show _ = _
   rw [HO.out]
   cases G with
   | none => rfl
   | some n => simp at h59; simp; omega
  obtain ⟨V, hV⟩ : ∃ V, G.getD 0 = V := ⟨_, rfl⟩
  rw [hV] at HV hb HN h59
  obtain ⟨b1, b2⟩ := hb
  go_enter Tryz.func207, Tryz.ntmps207
  go_wp2_with fail
  refine (HN.out _ H.out (by omega) hl).mono ?_
  rintro e w1 ⟨rfl, hg, ht⟩
  obtain ⟨x0, bad, c0, c1, z0, z1, lt⟩ := fq ht
  clear hV
  go_wp2
  go_ret
  rw [HV.out, HK.out]
  exact ⟨rfl, cO hg (.inl rfl) _, fK ht⟩
 ·have HK : Hid ((Sx.mK l).isSome = G.isSome) := by
   show _ = _
   rw [HO.out]
   cases G with
   | none => rfl
   | some n => simp at h59; simp; omega
  obtain ⟨V, hV⟩ : ∃ V, G.getD 0 = V := ⟨_, rfl⟩
  rw [hV] at HV hb HN h59
  obtain ⟨b1, b2⟩ := hb
  go_enter Tryz.func207, Tryz.ntmps207
  go_wp2_with fail
  refine (HN.out _ H.out (by omega) hl).mono ?_
  rintro e w1 ⟨rfl, hg, ht⟩
  obtain ⟨x0, bad, c0, c1, z0, z1, lt⟩ := fq ht
  clear hV
  go_wp2
  go_ret
  rw [HV.out, HK.out]
  exact ⟨rfl, hg, ht⟩
end
section
open Go.RowKit

theorem Gr (c : UInt8) (w : World) :
  Calls Tryz.prog 191 #[.int .u8 (c.toNat : Int)] w fun e w' => e = .returned (.bool (Sx.gP c)) ∧ w' = w := by
 have hh : Hid (Sx.gP c = (decide ((97 : Int) ≤ (c.toNat : Int) ∧ (c.toNat : Int) ≤ 122) || decide ((65 : Int) ≤ (c.toNat : Int) ∧ (c.toNat : Int) ≤ 90))) := PW c
 have hb : (c.toNat : Int) < 256 := by have := c.toNat_lt; omega
 have hb0 : 0 ≤ (c.toNat : Int) := by omega
 generalize (c.toNat : Int) = n at *
 have h5 : n < 65 ∨ (65 ≤ n ∧ n ≤ 90 ∧ n < 97) ∨ (65 ≤ n ∧ 90 < n ∧ n < 97) ∨ (97 ≤ n ∧ n ≤ 122 ∧ 90 < n) ∨ (122 < n) := by omega
 rcases h5 with h1 | ⟨h1, h2, h3⟩ | ⟨h1, h2, h3⟩ | ⟨h1, h2, h3⟩ | h1
 all_goals
  go_enter Tryz.func191, Tryz.ntmps191
  go_wp2
  go_ret
  exact ⟨az (by rw [hh.out, Bool.eq_iff_iff]; simp only [Bool.or_eq_true, Bool.and_eq_true, decide_eq_true_eq, Bool.false_eq_true, iff_false, false_iff, iff_true, true_iff]; omega), rfl⟩
theorem fo (c : UInt8) (w : World) {b : Bool} (h : Sx.gP c = b) :
  Calls Tryz.prog 191 #[.int .u8 (c.toNat : Int)] w fun e w' => e = .returned (.bool b) ∧ w' = w := by subst h; exact Gr c w
theorem JF (c : UInt8) (w : World) :
  Calls Tryz.prog 194 #[.int .u8 (c.toNat : Int)] w fun e w' => e = .returned (.bool (Sx.fZ c)) ∧ w' = w := by
 have hh : Hid (Sx.fZ c = decide ((48 : Int) ≤ (c.toNat : Int) ∧ (c.toNat : Int) ≤ 57)) := IX c
 have hb : (c.toNat : Int) < 256 := by have := c.toNat_lt; omega
 have hb0 : 0 ≤ (c.toNat : Int) := by omega
 generalize (c.toNat : Int) = n at *
 have h5 : n < 48 ∨ (48 ≤ n ∧ n ≤ 57) ∨ (48 ≤ n ∧ 57 < n) := by omega
 rcases h5 with h1 | ⟨h1, h2⟩ | ⟨h1, h2⟩
 all_goals
  go_enter Tryz.func194, Tryz.ntmps194
  go_wp2
  go_ret
  exact ⟨az (by rw [hh.out]; simp; omega), rfl⟩
theorem ny (c : UInt8) (w : World) {b : Bool} (h : Sx.fZ c = b) :
  Calls Tryz.prog 194 #[.int .u8 (c.toNat : Int)] w fun e w' => e = .returned (.bool b) ∧ w' = w := by subst h; exact JF c w


theorem sJ (s : ByteArray) (c : UInt8) (w : World) :
  Calls Tryz.prog 211 #[.string s, .int .u8 (c.toNat : Int)] w fun e w' => e = .returned (.int .i64 (Lib.indexByte s.data.toList c)) ∧ w' = w := by
 go_enter Tryz.func211, Tryz.ntmps211
 go_wp2
 rw [run_callFunc_extern Tryz.func232 (by kernel_rfl) (by kernel_rfl) (by kernel_rfl) (e := Extern.BytealgIndexByte.indexByte) (by kernel_rfl), Lib.run_indexByteString]
 simp only [Result.andThen]
 rw [Oper.upon_value]
 go_wp2
 go_ret
 exact ⟨rfl, rfl⟩
theorem zK (s : ByteArray) (c : UInt8) (w : World) :
  Calls Tryz.prog 195 #[.string s, .int .u8 (c.toNat : Int)] w fun e w' => e = .returned (.int .i64 (Lib.indexByte s.data.toList c)) ∧ w' = w := by
 go_enter Tryz.func195, Tryz.ntmps195
 go_wp2_with (go_at_call 211; refine (sJ _ _ _).mono ?_; rintro e w1 ⟨rfl, rfl⟩)
 go_ret
 exact ⟨rfl, rfl⟩
theorem Rp (c : UInt8) : decide (0 ≤ Lib.indexByte [95, 45, 47, 43] c) = (c == 95 || c == 45 || c == 47 || c == 43) := by
 rw [← Lib.contains_iff_indexByte]
 simp only [List.contains_cons, List.contains_nil, Bool.or_false, Bool.or_assoc]
theorem MU (c : UInt8) (w : World) :
  Calls Tryz.prog 193 #[.int .u8 (c.toNat : Int)] w fun e w' => e = .returned (.bool (Sx.kG c)) ∧ w' = w := by
 have HN : Hid (Sx.kG c = (Sx.gP c || Sx.fZ c || decide (0 ≤ Lib.indexByte [95, 45, 47, 43] c))) := by show _ = _; rw [Rp]; simp [Sx.kG, Bool.or_assoc]
 have PI := hid (zK ⟨#[95, 45, 47, 43]⟩ c)
 obtain ⟨n, hn⟩ : ∃ n, Lib.indexByte [95, 45, 47, 43] c = n := ⟨_, rfl⟩
 have PI2 : Hid (∀ w, Calls Tryz.prog 195 #[.string ⟨#[95, 45, 47, 43]⟩, .int .u8 (c.toNat : Int)] w fun e w' => e = .returned (.int .i64 n) ∧ w' = w) := by rw [← hn]; exact PI.out
 rw [hn] at HN
 clear hn PI
 cases h1 : Sx.gP c
 case true =>
  have H1 := hid h1
  clear h1
  go_enter Tryz.func193, Tryz.ntmps193
  go_wp2_with (go_at_call 191; refine (fo _ _ H1.out).mono ?_; rintro e w1 ⟨rfl, rfl⟩)
  go_ret
  exact ⟨az (by rw [HN.out, H1.out]; rfl), rfl⟩
 case false =>
  have H1 := hid h1
  clear h1
  cases h2 : Sx.fZ c
  case true =>
   have H2 := hid h2
   clear h2
   go_enter Tryz.func193, Tryz.ntmps193
   go_wp2_with (first | (go_at_call 191; refine (fo _ _ H1.out).mono ?_; rintro e w1 ⟨rfl, rfl⟩) | (go_at_call 194; refine (ny _ _ H2.out).mono ?_; rintro e w1 ⟨rfl, rfl⟩))
   go_ret
   exact ⟨az (by rw [HN.out, H1.out, H2.out]; rfl), rfl⟩
  case false =>
   have H2 := hid h2
   clear h2
   by_cases h3 : 0 ≤ n
   all_goals
    go_enter Tryz.func193, Tryz.ntmps193
    go_wp2_with (first | (go_at_call 191; refine (fo _ _ H1.out).mono ?_; rintro e w1 ⟨rfl, rfl⟩) | (go_at_call 194; refine (ny _ _ H2.out).mono ?_; rintro e w1 ⟨rfl, rfl⟩) | (go_at_call 195; refine (PI2.out _).mono ?_; rintro e w1 ⟨rfl, rfl⟩))
    go_ret
    exact ⟨az (by rw [HN.out, H1.out, H2.out]; simp [h3]), rfl⟩
theorem Gb (c : UInt8) (w : World) {b : Bool} (h : Sx.kG c = b) :
  Calls Tryz.prog 193 #[.int .u8 (c.toNat : Int)] w fun e w' => e = .returned (.bool b) ∧ w' = w := by subst h; exact MU c w

theorem Eg (s : ByteArray) (w : World) (hs : s.size ≤ maxLen) :
  Calls Tryz.prog 210 #[.string s, .func (.func 193) #[] #[]] w fun e w' => (∃ n : Int, e = .returned (.int .i64 n) ∧ (n == (s.size : Int)) = s.data.toList.all Sx.kG) ∧ w' = w := by
 unfold maxLen at hs
 obtain ⟨G, hG⟩ : ∃ G, s.data.toList.all Sx.kG = G := ⟨_, rfl⟩
 rw [hG]
 have HG : Hid (G = s.data.toList.all Sx.kG) := hG.symm
 clear hG
 have eg : ∀ args w, (callFunc 193 args).run Tryz.prog w = .ok (.enter 193 args) w := enters_of Tryz.func193 (by kernel_rfl) rfl
 go_enter Tryz.func210, Tryz.ntmps210
 go_wp2_with fail
 go_loop [8] (fun a => ∃ k : Nat, k ≤ s.size ∧ a = .int .i64 k ∧ Hid ((s.data.toList.take k).all Sx.kG = true)) (fun a => s.size - (intOf a).toNat)
 case atStart => exact ⟨0, by omega, rfl, by show _ = _; simp⟩
 case round =>
  obtain ⟨k, hk, rfl, HA⟩ := hrel
  by_cases hlt : k < s.size
  ·obtain ⟨c, hc⟩ : ∃ c, s[k] = c := ⟨_, rfl⟩
   have HC := hid hc
   cases h1 : Sx.kG c
   case true =>
    have H1 := hid h1
    clear h1
    go_wp2_with (go_at_call 193; refine (Gb _ _ H1.out).mono ?_; rintro e w1 ⟨rfl, rfl⟩)
    go_round
    case rel => exact ⟨k + 1, by omega, by go_num, eP s _ k hlt HA.out (by rw [HC.out, H1.out])⟩
    case measure => simp [intOf]; omega
   case false =>
    have H1 := hid h1
    clear h1
    go_wp2_with (go_at_call 193; refine (Gb _ _ H1.out).mono ?_; rintro e w1 ⟨rfl, rfl⟩)
    go_ret
    exact ⟨⟨_, rfl, by rw [HG.out, rU s _ k hlt (by rw [HC.out, H1.out])]; simp; omega⟩, rfl⟩
  ·go_wp2
   go_ret
   exact ⟨⟨_, rfl, by rw [HG.out, nJ s _ k (by omega) HA.out]; simp⟩, rfl⟩
theorem AP (s : ByteArray) (w : World) (hs : s.size ≤ maxLen) :
  Calls Tryz.prog 192 #[.string s, .func (.func 193) #[] #[]] w fun e w' => e = .returned (.bool (decide (s.size ≤ 24) && s.data.toList.all Sx.kG)) ∧ w' = w := by
 have HS := hid (Eg s w hs)
 clear hs
 obtain ⟨b, hb⟩ : ∃ b, s.data.toList.all Sx.kG = b := ⟨_, rfl⟩
 rw [hb] at HS ⊢
 clear hb
 by_cases h : s.size ≤ 24
 ·go_enter Tryz.func192, Tryz.ntmps192
  go_wp2_with (go_at_call 210; refine HS.out.mono ?_; rintro e w1 ⟨⟨n, rfl, hn⟩, rfl⟩)
  go_ret
  exact ⟨az (by simp [h]), rfl⟩
 ·go_enter Tryz.func192, Tryz.ntmps192
  go_wp2_with fail
  go_ret
  exact ⟨az (by simp [h]), rfl⟩

theorem zX (s : ByteArray) (w : World) (hs : s.size ≤ maxLen) :
  Calls Tryz.prog 210 #[.string s, .func (.func 191) #[] #[]] w fun e w' => (∃ n : Int, e = .returned (.int .i64 n) ∧ (n == (s.size : Int)) = s.data.toList.all Sx.gP) ∧ w' = w := by
 unfold maxLen at hs
 obtain ⟨G, hG⟩ : ∃ G, s.data.toList.all Sx.gP = G := ⟨_, rfl⟩
 rw [hG]
 have HG : Hid (G = s.data.toList.all Sx.gP) := hG.symm
 clear hG
 have eg : ∀ args w, (callFunc 191 args).run Tryz.prog w = .ok (.enter 191 args) w := enters_of Tryz.func191 (by kernel_rfl) rfl
 go_enter Tryz.func210, Tryz.ntmps210
 go_wp2_with fail
 go_loop [8] (fun a => ∃ k : Nat, k ≤ s.size ∧ a = .int .i64 k ∧ Hid ((s.data.toList.take k).all Sx.gP = true)) (fun a => s.size - (intOf a).toNat)
 case atStart => exact ⟨0, by omega, rfl, by show _ = _; simp⟩
 case round =>
  obtain ⟨k, hk, rfl, HA⟩ := hrel
  by_cases hlt : k < s.size
  ·obtain ⟨c, hc⟩ : ∃ c, s[k] = c := ⟨_, rfl⟩
   have HC := hid hc
   cases h1 : Sx.gP c
   case true =>
    have H1 := hid h1
    clear h1
    go_wp2_with (go_at_call 191; refine (fo _ _ H1.out).mono ?_; rintro e w1 ⟨rfl, rfl⟩)
    go_round
    case rel => exact ⟨k + 1, by omega, by go_num, eP s _ k hlt HA.out (by rw [HC.out, H1.out])⟩
    case measure => simp [intOf]; omega
   case false =>
    have H1 := hid h1
    clear h1
    go_wp2_with (go_at_call 191; refine (fo _ _ H1.out).mono ?_; rintro e w1 ⟨rfl, rfl⟩)
    go_ret
    exact ⟨⟨_, rfl, by rw [HG.out, rU s _ k hlt (by rw [HC.out, H1.out])]; simp; omega⟩, rfl⟩
  ·go_wp2
   go_ret
   exact ⟨⟨_, rfl, by rw [HG.out, nJ s _ k (by omega) HA.out]; simp⟩, rfl⟩
theorem xB (s : ByteArray) (w : World) (hs : s.size ≤ maxLen) :
  Calls Tryz.prog 192 #[.string s, .func (.func 191) #[] #[]] w fun e w' => e = .returned (.bool (decide (s.size ≤ 24) && s.data.toList.all Sx.gP)) ∧ w' = w := by
 have HS := hid (zX s w hs)
 clear hs
 obtain ⟨b, hb⟩ : ∃ b, s.data.toList.all Sx.gP = b := ⟨_, rfl⟩
 rw [hb] at HS ⊢
 clear hb
 by_cases h : s.size ≤ 24
 ·go_enter Tryz.func192, Tryz.ntmps192
  go_wp2_with (go_at_call 210; refine HS.out.mono ?_; rintro e w1 ⟨⟨n, rfl, hn⟩, rfl⟩)
  go_ret
  exact ⟨az (by simp [h]), rfl⟩
 ·go_enter Tryz.func192, Tryz.ntmps192
  go_wp2_with fail
  go_ret
  exact ⟨az (by simp [h]), rfl⟩

theorem uD (l : Tx.Bs) (w : World) (hs : l.length ≤ maxLen) {b : Bool} (h : Sx.dV l = b) :
  Calls Tryz.prog 152 #[af l] w fun e w' => e = .returned (.bool b) ∧ w' = w := by
 have HS := hid (xB ⟨l.toArray⟩ w (by rw [cK]; exact hs))
 have HB : Hid ((decide ((⟨l.toArray⟩ : ByteArray).size ≤ 24) && (⟨l.toArray⟩ : ByteArray).data.toList.all Sx.gP) = b) := by show _ = _; rw [← h, cK, fD, Sx.dV, Bool.and_comm]
 clear h hs
 rw [HB.out] at HS
 clear HB
 go_enter Tryz.func152, Tryz.ntmps152
 go_wp2_with (go_at_call 192; refine HS.out.mono ?_; rintro e w1 ⟨rfl, rfl⟩)
 go_ret
 exact ⟨rfl, rfl⟩
theorem fO (l : Tx.Bs) (w : World) (hs : l.length ≤ maxLen) {b : Bool} (h : Sx.aW l = b) :
  Calls Tryz.prog 151 #[af l] w fun e w' => e = .returned (.bool b) ∧ w' = w := by
 have HS := hid (AP ⟨l.toArray⟩ w (by rw [cK]; exact hs))
 cases l with
 | nil =>
   have HB : Hid (false = b) := by show _ = _; rw [← h]; rfl
   clear h hs HS
   go_enter Tryz.func151, Tryz.ntmps151
   go_wp2_with fail
   go_ret
   exact ⟨az HB.out, rfl⟩
 | cons c r =>
   have h0 : (⟨(c :: r).toArray⟩ : ByteArray)[0]'(by rw [cK]; simp) = c := rfl
   have hs0 : 0 < (⟨(c :: r).toArray⟩ : ByteArray).size := by rw [cK]; simp
   obtain ⟨A, hA⟩ : ∃ A, (decide ((⟨(c :: r).toArray⟩ : ByteArray).size ≤ 24) && (⟨(c :: r).toArray⟩ : ByteArray).data.toList.all Sx.kG) = A := ⟨_, rfl⟩
   have HB : Hid ((Sx.gP c && A) = b) := by show _ = _; rw [← h, ← hA, cK, fD, Sx.aW, Sx.Ld, Bool.and_assoc]
   rw [hA] at HS
   clear h hs hA
   cases h1 : Sx.gP c
   ·have H1 := hid h1
    have HB2 : Hid (false = b) := by show _ = _; rw [← HB.out, h1]; rfl
    clear h1 HB
    go_enter Tryz.func151, Tryz.ntmps151
    go_wp2_with (go_at_call 191; refine (fo _ _ H1.out).mono ?_; rintro e w1 ⟨rfl, rfl⟩)
    go_ret
    exact ⟨az HB2.out, rfl⟩
   ·have H1 := hid h1
    have HB2 : Hid (A = b) := by show _ = _; rw [← HB.out, h1]; rfl
    clear h1 HB
    go_enter Tryz.func151, Tryz.ntmps151
    go_wp2_with (first | (go_at_call 191; refine (fo _ _ H1.out).mono ?_; rintro e w1 ⟨rfl, rfl⟩) | (go_at_call 192; refine HS.out.mono ?_; rintro e w1 ⟨rfl, rfl⟩))
    go_ret
    exact ⟨az HB2.out, rfl⟩
end
section
open Go.RowKit


theorem Jg (y : Int) (w : World) (h1 : 0 ≤ y) (h2 : y ≤ 20000) :
  Calls Tryz.prog 144 #[.int .i64 y] w fun e w' => e = .returned (.bool (Cv.lpB y)) ∧ w' = w := by
 by_cases a : y % 4 = 0 <;> by_cases b : y % 100 = 0 <;> by_cases c : y % 400 = 0
 all_goals
  have hh : Hid (Cv.lpB y = decide (y % 4 = 0 ∧ (y % 100 ≠ 0 ∨ y % 400 = 0))) := rfl
  go_enter Tryz.func144, Tryz.ntmps144
  go_wp2
  go_ret
  exact ⟨az (by rw [hh.out]; simp [a, b, c]), rfl⟩

theorem dU (y m : Int) (w : World) (h1 : 0 ≤ y) (h2 : y ≤ 20000) :
  Calls Tryz.prog 85 #[.int .i64 y, .int .i64 m] w fun e w' => e = .returned (.int .i64 (Cv.dim y m)) ∧ w' = w := by
 have hh : Hid (Cv.dim y m = if m = 4 ∨ m = 6 ∨ m = 9 ∨ m = 11 then 30 else if m = 2 then (if Cv.lpB y = true then 29 else 28) else 31) := rfl
 by_cases a : m = 4
 ·have e : (m == 4) = true := by simp [a]
  go_enter Tryz.func85, Tryz.ntmps85
  go_wp2
  go_ret
  exact ⟨ai (by rw [hh.out]; simp [a]), rfl⟩
 by_cases b : m = 6
 ·go_enter Tryz.func85, Tryz.ntmps85
  go_wp2
  go_ret
  exact ⟨ai (by rw [hh.out]; simp [b]), rfl⟩
 by_cases c : m = 9
 ·go_enter Tryz.func85, Tryz.ntmps85
  go_wp2
  go_ret
  exact ⟨ai (by rw [hh.out]; simp [c]), rfl⟩
 by_cases d : m = 11
 ·go_enter Tryz.func85, Tryz.ntmps85
  go_wp2
  go_ret
  exact ⟨ai (by rw [hh.out]; simp [d]), rfl⟩
 by_cases g : m = 2
 ·cases hl : Cv.lpB y
  all_goals
   have hl' := hid hl
   clear hl
   go_enter Tryz.func85, Tryz.ntmps85
   go_wp2_with (go_at_call 144; refine (Jg y _ h1 h2).mono ?_; rintro e w' ⟨rfl, rfl⟩; rw [hl'.out])
   go_ret
   exact ⟨ai (by rw [hh.out]; simp [g, hl'.out]), rfl⟩
 ·go_enter Tryz.func85, Tryz.ntmps85
  go_wp2
  go_ret
  exact ⟨ai (by rw [hh.out]; simp [a, b, c, d, g]), rfl⟩

theorem ku (y : Int) (w : World) (h1 : 1 ≤ y) (h2 : y ≤ 20000) :
  Calls Tryz.prog 141 #[.int .i64 y] w fun e w' => e = .returned (.int .i64 (Cv.dby y)) ∧ w' = w := by
 have hh : Hid (Cv.dby y = (y - 1) * 365 + (y - 1) / 4 - (y - 1) / 100 + (y - 1) / 400) := rfl
 go_enter Tryz.func141, Tryz.ntmps141
 go_wp2
 go_ret
 exact ⟨ai (by rw [hh.out]), rfl⟩

theorem FJ (y m : Int) (w : World) :
  Calls Tryz.prog 84 #[.int .i64 y, .int .i64 m] w fun e w' => e = .returned (.bool (Cv.jB y m)) ∧ w' = w := by
 have hh : Hid (Cv.jB y m = decide (1 ≤ y ∧ y ≤ 9999 ∧ 1 ≤ m ∧ m ≤ 12)) := rfl
 by_cases a : 1 ≤ y <;> by_cases b : y ≤ 9999 <;> by_cases c : 1 ≤ m <;> by_cases d : m ≤ 12
 all_goals
  go_enter Tryz.func84, Tryz.ntmps84
  go_wp2
  go_ret
  exact ⟨az (by rw [hh.out]; simp [a, b, c, d]), rfl⟩

theorem gp (y m : Int) (w : World) {b : Bool} (h : Cv.jB y m = b) :
  Calls Tryz.prog 84 #[.int .i64 y, .int .i64 m] w fun e w' => e = .returned (.bool b) ∧ w' = w := by
 subst h; exact FJ y m w

end
section
open Go.RowKit

theorem xw (n : Int) (w : World) :
  Calls Tryz.prog 82 #[.int .i64 n] w fun e w' => e = .returned (.int .i64 (Cv.wd n)) ∧ w' = w := by
 obtain ⟨t1, t2, t3⟩ := Tg n
 have hh : Hid (Cv.wd n = (n.tmod 7 + 7 + 4) % 7) := t1.symm
 clear t1
 go_enter Tryz.func82, Tryz.ntmps82
 go_wp2
 go_ret
 exact ⟨ai (by rw [hh.out]), rfl⟩
end
end Go.Proofs.YtkhlkohlccndgaaGreat
