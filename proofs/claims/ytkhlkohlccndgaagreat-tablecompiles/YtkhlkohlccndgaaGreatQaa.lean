/- Lines of fields in plain lists of bytes: what parts fields, what a field is, the fields of a line. · Lines of a text in plain lists: rows, lines with fields, and what is wrong with them. · The calendar in plain numbers: leap years, lengths of months, how many days a date is behind the first of January 1970, and that days stand in order as dates do. · Days of forms in plain numbers: what a form asks for, and which day it is. · Sources in plain terms: names, letters, formats; rules, eras, zones, links; what is wrong with them. · What is wrong with a source, thing by thing: in plain terms. · Times of rules in plain terms: turns, in order; how far apart; times by a shift. They rise, are as many as there are years, and are no later further to the east. · A rule of which nothing is wrong has its day in each of its years: in plain terms. · The document's turns: year by year, each put in from the end. Plain. · Small laws for all walks: worlds, texts, rows of a call's own, lists that can be read. · Sources in memory: lists whose elements lie cell by cell (Rd), rules, eras, zones, links, whole sources. · The contract of the document's between. · Signs as numbers: letters, digits, signs of names and of formats. · Contracts of the document's IsName, isLetters, IsPlain. · Contracts of the document's isLetters, IsPlain, isFormat, threes. · The contract of the document's isFormat. · The document's Taker of fields: how it lies in memory, and its Next. · Contracts of the document's Taker: Number, Name, Month, Weekday, Sixty. · Contracts of the program's signs: letters, digits, names. · Contracts of package civil's calls: each function answers what the plain calendar says. · The contract of civil.Weekday. -/
import Derived.Test.YtkhlkohlccndgaaGreatQz
import Derived.Test.YtkhlkohlccndgaaGreatRows
import Derived.WalkKit
import Derived.WalkSpells
import Derived.WalkLawsBesides
import Derived.WalkSmall
import Derived.Deep.QuietTactic
import Derived.BigQuiet
import Derived.Deep.LoopGhost
import Derived.Lib.Strings
import Derived.Shelf.Abstract
import Derived.Lib.Bytealg
import Derived.Lib.IndexAny
set_option linter.unusedVariables false
set_option linter.unusedSimpArgs false
set_option maxRecDepth 100000
set_option maxHeartbeats 16000000
namespace Go.Proofs.YtkhlkohlccndgaaGreat
namespace Tx

abbrev Bs := List UInt8
def gap (c : UInt8) : Bool := c == 32 || c == 9
def txt (c : UInt8) : Bool := decide (32 ≤ c.toNat ∧ c.toNat ≤ 126) || c == 9

/- what stands between two quotes, and what is behind the second one -/
def tq : Bs → Option (Bs × Bs)
 | [] => none
 | c :: r => if c = 34 then some ([], r) else if txt c = false then none else (tq r).map fun p => (c :: p.1, p.2)
/- a field without quotes around it, and what is behind it -/
def tu : Bs → Option (Bs × Bs)
 | [] => some ([], [])
 | c :: r => if gap c = true ∨ c = 35 then some ([], c :: r) else if txt c = false ∨ c = 34 then none else (tu r).map fun p => (c :: p.1, p.2)
/- does a field end here? -/
def ends : Bs → Bool
 | [] => true
 | c :: _ => gap c || c == 35
def skip : Bs → Bs
 | [] => []
 | c :: r => if gap c = true then skip r else c :: r
def field : Bs → Option (Bs × Bs)
 | [] => none
 | c :: r => if c = 34 then (match tq r with | none => none | some p => if ends p.2 = true then some p else none) else tu (c :: r)
/- the fields of a line from here on, n fields being ahead: those fields and 0, or none and what is wrong -/
def fields : Nat → Nat → Bs → List Bs × Int
 | 0, _, _ => ([], 0)
 | m + 1, n, l =>
   match skip l with
   | [] => ([], 0)
   | c :: r => if c = 35 then ([], 0) else
     match field (c :: r) with
     | none => ([], 1)
     | some p => if 24 < p.1.length ∨ 12 < n + 1 then ([], 2) else
       if (fields m (n + 1) p.2).2 = 0 then (p.1 :: (fields m (n + 1) p.2).1, 0) else ([], (fields m (n + 1) p.2).2)

theorem tq_len : ∀ (l : Bs) (p : Bs × Bs), tq l = some p → p.2.length < l.length ∧ p.1.length < l.length
 | [], p, h => by simp [tq] at h
 | c :: r, p, h => by
   unfold tq at h
   split at h
   ·simp at h; subst h; simp
   ·split at h
    ·simp at h
    ·cases hr : tq r with
     | none => simp [hr] at h
     | some q =>
       simp [hr] at h; subst h
       have := tq_len r q hr
       simp; omega
theorem tu_len : ∀ (l : Bs) (p : Bs × Bs), tu l = some p → p.1.length + p.2.length = l.length
 | [], p, h => by simp [tu] at h; subst h; simp
 | c :: r, p, h => by
   unfold tu at h
   split at h
   ·simp at h; subst h; simp
   ·split at h
    ·simp at h
    ·cases hr : tu r with
     | none => simp [hr] at h
     | some q =>
       simp [hr] at h; subst h
       have := tu_len r q hr
       simp; omega
theorem skip_len : ∀ (l : Bs), (skip l).length ≤ l.length
 | [] => by simp [skip]
 | c :: r => by
   unfold skip; split
   ·have := skip_len r; simp; omega
   ·simp
theorem skip_head : ∀ (l : Bs) (c : UInt8) (r : Bs), skip l = c :: r → gap c = false
 | [], c, r, h => by simp [skip] at h
 | d :: t, c, r, h => by
   unfold skip at h; split at h
   ·exact skip_head t c r h
   ·rename_i g; simp at h; obtain ⟨rfl, _⟩ := h; simpa using g
theorem field_q (r : Bs) : field (34 :: r) = match tq r with | none => none | some p => if ends p.2 = true then some p else none := by simp [field]
theorem field_u (c : UInt8) (r : Bs) (h : c ≠ 34) : field (c :: r) = tu (c :: r) := by simp [field, h]
theorem tu_go (c : UInt8) (r : Bs) (h1 : gap c = false) (h2 : c ≠ 35) (h3 : txt c = true) (h4 : c ≠ 34) : tu (c :: r) = (tu r).map fun p => (c :: p.1, p.2) := by
 conv => lhs; unfold tu
 rw [if_neg (by simp [h1, h2]), if_neg (by simp [h3, h4])]
theorem tu_bad (c : UInt8) (r : Bs) (h1 : gap c = false) (h2 : c ≠ 35) (h3 : txt c = false ∨ c = 34) : tu (c :: r) = none := by
 conv => lhs; unfold tu
 rw [if_neg (by simp [h1, h2]), if_pos h3]
theorem tu_end (c : UInt8) (r : Bs) (h : gap c = true ∨ c = 35) : tu (c :: r) = some ([], c :: r) := by
 conv => lhs; unfold tu
 rw [if_pos h]
theorem tq_go (c : UInt8) (r : Bs) (h1 : c ≠ 34) (h2 : txt c = true) : tq (c :: r) = (tq r).map fun p => (c :: p.1, p.2) := by
 conv => lhs; unfold tq
 rw [if_neg h1, if_neg (by simp [h2])]
theorem tq_bad (c : UInt8) (r : Bs) (h1 : c ≠ 34) (h2 : txt c = false) : tq (c :: r) = none := by
 conv => lhs; unfold tq
 rw [if_neg h1, if_pos h2]
theorem tq_end (r : Bs) : tq (34 :: r) = some ([], r) := by simp [tq]
theorem field_len (c : UInt8) (r : Bs) (p : Bs × Bs) (hg : gap c = false) (h35 : c ≠ 35) (h : field (c :: r) = some p) : p.2.length < (c :: r).length := by
 by_cases h34 : c = 34
 ·subst h34
  rw [field_q] at h
  cases hq : tq r with
  | none => rw [hq] at h; cases h
  | some q =>
    rw [hq] at h
    by_cases he : ends q.2 = true
    ·simp [he] at h; subst h
     have := tq_len r q hq; simp; omega
    ·simp [he] at h
 ·rw [field_u c r h34] at h
  by_cases ht : txt c = false
  ·rw [tu_bad c r hg h35 (.inl ht)] at h; cases h
  ·rw [tu_go c r hg h35 (by simpa using ht) h34] at h
   cases hr : tu r with
   | none => rw [hr] at h; cases h
   | some q =>
     rw [hr] at h; simp at h; subst h
     have := tu_len r q hr
     simp; omega
/- enough is enough -/
theorem fields_more : ∀ (m k n : Nat) (l : Bs), l.length < m → l.length < k → fields m n l = fields k n l
 | 0, _, _, l, h, _ => by omega
 | _, 0, _, l, _, h => by omega
 | m + 1, k + 1, n, l, h1, h2 => by
   unfold fields
   have hs := skip_len l
   cases hk : skip l with
   | nil => rfl
   | cons c r =>
     simp only
     split
     ·rfl
     ·rename_i h35
      cases hf : field (c :: r) with
      | none => rfl
      | some p =>
        simp only
        have hl := field_len c r p (skip_head l c r hk) h35 hf
        rw [hk] at hs
        rw [fields_more m k (n + 1) p.2 (by simp at hl hs; omega) (by simp at hl hs; omega)]
theorem fields_step (M n : Nat) (l : Bs) (h : l.length < M) : fields M n l = (match skip l with
  | [] => ([], 0)
  | c :: r => if c = 35 then ([], 0) else
    match field (c :: r) with
    | none => ([], 1)
    | some p => if 24 < p.1.length ∨ 12 < n + 1 then ([], 2) else
      if (fields M (n + 1) p.2).2 = 0 then (p.1 :: (fields M (n + 1) p.2).1, 0) else ([], (fields M (n + 1) p.2).2)) := by
 cases M with
 | zero => omega
 | succ M =>
   conv => lhs; unfold fields
   have hs := skip_len l
   cases hk : skip l with
   | nil => rfl
   | cons c r =>
     simp only
     by_cases h35 : c = 35
     ·rw [if_pos h35, if_pos h35]
     ·rw [if_neg h35, if_neg h35]
      cases hf : field (c :: r) with
      | none => rfl
      | some p =>
        have hl := field_len c r p (skip_head l c r hk) h35 hf
        rw [hk] at hs
        simp only
        rw [fields_more M (M + 1) (n + 1) p.2 (by simp at hl hs; omega) (by simp at hl hs; omega)]
/- what is gathered so far, and what is to come, make the whole -/
def Rel (G : List Bs × Int) (out : List Bs) (R : List Bs × Int) : Prop := if R.2 = 0 then G = (out ++ R.1, 0) else G = ([], R.2)
theorem rel_start (G : List Bs × Int) (h : G.2 ≠ 0 → G.1 = []) : Rel G [] G := by
 unfold Rel
 obtain ⟨a, b⟩ := G
 by_cases hb : b = 0
 ·simp [hb]
 ·simp [hb]; exact h hb
theorem fields_err : ∀ (m n : Nat) (l : Bs), (fields m n l).2 ≠ 0 → (fields m n l).1 = []
 | 0, n, l => by simp [fields]
 | m + 1, n, l => by
   unfold fields
   cases hk : skip l with
   | nil => simp
   | cons c r =>
     simp only
     by_cases h35 : c = 35
     ·rw [if_pos h35]; simp
     ·rw [if_neg h35]
      cases hf : field (c :: r) with
      | none => simp
      | some p =>
        simp only
        split
        ·simp
        ·split <;> simp
section
variable {M n : Nat} {l : Bs} {G : List Bs × Int} {out : List Bs}
theorem rel_end (h : Rel G out (fields M n l)) (hl : l.length < M) (he : skip l = [] ∨ ∃ r, skip l = 35 :: r) : G = (out, 0) := by
 rw [fields_step M n l hl] at h
 rcases he with he | ⟨r, he⟩
 ·rw [he] at h; simpa [Rel] using h
 ·rw [he] at h; simpa [Rel] using h
theorem rel_form {c : UInt8} {r : Bs} (h : Rel G out (fields M n l)) (hl : l.length < M) (hs : skip l = c :: r) (hc : c ≠ 35) (hf : field (c :: r) = none) : G = ([], 1) := by
 rw [fields_step M n l hl, hs] at h
 simpa [Rel, hc, hf] using h
theorem rel_many {c : UInt8} {r : Bs} {p : Bs × Bs} (h : Rel G out (fields M n l)) (hl : l.length < M) (hs : skip l = c :: r) (hc : c ≠ 35) (hf : field (c :: r) = some p) (hm : 24 < p.1.length ∨ 12 < n + 1) : G = ([], 2) := by
 rw [fields_step M n l hl, hs] at h
 simp only [hf] at h
 rw [if_neg hc, if_pos hm] at h
 simpa [Rel] using h
theorem rel_next {c : UInt8} {r : Bs} {p : Bs × Bs} (h : Rel G out (fields M n l)) (hl : l.length < M) (hs : skip l = c :: r) (hc : c ≠ 35) (hf : field (c :: r) = some p) (hm : ¬ (24 < p.1.length ∨ 12 < n + 1)) : Rel G (out ++ [p.1]) (fields M (n + 1) p.2) := by
 rw [fields_step M n l hl, hs] at h
 simp only [hf] at h
 rw [if_neg hc, if_neg hm] at h
 unfold Rel at h ⊢
 by_cases h0 : (fields M (n + 1) p.2).2 = 0
 ·rw [if_pos h0] at h ⊢
  simpa using h
 ·rw [if_neg h0] at h ⊢
  simpa [h0] using h
end
end Tx
namespace Tx

structure Ln where
 number : Int
 inner : Bool
 fields : List Bs

structure Res where
 lines : List Ln
 number : Int
 err : Int

def rows : Bs → List Bs
 | [] => [[]]
 | c :: r => if c = 10 then [] :: rows r else (match rows r with | [] => [[c]] | x :: xs => (c :: x) :: xs)
def inner : Bs → Bool
 | [] => false
 | c :: _ => gap c
def rowF (r : Bs) : List Bs × Int := fields (r.length + 1) 0 r
def go : Int → List Bs → Res
 | _, [] => ⟨[], 0, 0⟩
 | n, r :: rs => if (rowF r).2 ≠ 0 then ⟨[], n, (rowF r).2⟩ else if (go (n + 1) rs).err ≠ 0 then ⟨[], (go (n + 1) rs).number, (go (n + 1) rs).err⟩ else
   ⟨if (rowF r).1 = [] then (go (n + 1) rs).lines else ⟨n, inner r, (rowF r).1⟩ :: (go (n + 1) rs).lines, 0, 0⟩
def split (s : Bs) : Res := if 8000 < s.length then ⟨[], 0, 2⟩ else if (go 1 (rows s)).err ≠ 0 then ⟨[], (go 1 (rows s)).number, (go 1 (rows s)).err⟩ else if 200 < (go 1 (rows s)).lines.length then ⟨[], 0, 2⟩ else ⟨(go 1 (rows s)).lines, 0, 0⟩

/- what is gathered so far, and what is to come, make the whole -/
def RelL (T : Res) (out : List Ln) (R : Res) : Prop := if R.err = 0 then T = ⟨out ++ R.lines, 0, 0⟩ else T = ⟨[], R.number, R.err⟩
def Tidy (R : Res) : Prop := if R.err = 0 then R.number = 0 else R.lines = []
theorem go_tidy (n : Int) (l : List Bs) : Tidy (go n l) := by
 cases l with
 | nil => simp [go, Tidy]
 | cons r rs =>
   unfold go
   split
   ·rename_i h; simp [Tidy, h]
   ·split
    ·rename_i h; simp [Tidy, h]
    ·simp [Tidy]
theorem relL_start (R : Res) (h : Tidy R) : RelL R [] R := by
 unfold RelL; unfold Tidy at h
 obtain ⟨a, b, c⟩ := R
 by_cases hc : c = 0
 ·simp [hc] at h ⊢; exact h
 ·simp [hc] at h ⊢; exact h
section
variable {T : Res} {out : List Ln} {n : Int} {r : Bs} {rs : List Bs}
theorem relL_err (h : RelL T out (go n (r :: rs))) (he : (rowF r).2 ≠ 0) : T = ⟨[], n, (rowF r).2⟩ := by
 unfold go at h
 rw [if_pos he] at h
 simpa [RelL, he] using h
theorem relL_none (h : RelL T out (go n (r :: rs))) (he : (rowF r).2 = 0) (h0 : (rowF r).1 = []) : RelL T out (go (n + 1) rs) := by
 unfold go at h
 rw [if_neg (by simp [he])] at h
 by_cases hr : (go (n + 1) rs).err = 0
 ·rw [if_neg (by simp [hr])] at h
  simpa [RelL, h0, hr] using h
 ·rw [if_pos hr] at h
  simpa [RelL, hr] using h
theorem relL_some (h : RelL T out (go n (r :: rs))) (he : (rowF r).2 = 0) (h0 : (rowF r).1 ≠ []) : RelL T (out ++ [⟨n, inner r, (rowF r).1⟩]) (go (n + 1) rs) := by
 unfold go at h
 rw [if_neg (by simp [he])] at h
 by_cases hr : (go (n + 1) rs).err = 0
 ·rw [if_neg (by simp [hr])] at h
  simpa [RelL, h0, hr] using h
 ·rw [if_pos hr] at h
  simpa [RelL, hr] using h
theorem relL_end (h : RelL T out (go n [])) : T = ⟨out, 0, 0⟩ := by simpa [RelL, go] using h
end
/- a row that ends at a line feed, and one that ends with the text -/
theorem rows_feed : ∀ (a b : Bs), (∀ c ∈ a, c ≠ 10) → rows (a ++ 10 :: b) = a :: rows b
 | [], b, _ => by simp [rows]
 | c :: a, b, h => by
   have hc : c ≠ 10 := h c (by simp)
   have := rows_feed a b (fun d hd => h d (by simp [hd]))
   simp only [List.cons_append]
   conv => lhs; unfold rows
   rw [if_neg hc, this]
theorem rows_last : ∀ (a : Bs), (∀ c ∈ a, c ≠ 10) → rows a = [a]
 | [], _ => by simp [rows]
 | c :: a, h => by
   have hc : c ≠ 10 := h c (by simp)
   have := rows_last a (fun d hd => h d (by simp [hd]))
   unfold rows
   rw [if_neg hc, this]
theorem rowF_nil : rowF [] = ([], 0) := by simp [rowF, fields, skip]
theorem split_many {s : Bs} (h : 8000 < s.length) : split s = ⟨[], 0, 2⟩ := by unfold split; rw [if_pos h]
theorem split_err {s : Bs} (h : ¬ 8000 < s.length) {n e : Int} (hT : go 1 (rows s) = ⟨[], n, e⟩) (he : e ≠ 0) : split s = ⟨[], n, e⟩ := by unfold split; rw [if_neg h, hT]; simp [he]
theorem split_over {s : Bs} (h : ¬ 8000 < s.length) {o : List Ln} (hT : go 1 (rows s) = ⟨o, 0, 0⟩) (ho : 200 < o.length) : split s = ⟨[], 0, 2⟩ := by unfold split; rw [if_neg h, hT]; simp [ho]
theorem split_ok {s : Bs} (h : ¬ 8000 < s.length) {o : List Ln} (hT : go 1 (rows s) = ⟨o, 0, 0⟩) (ho : ¬ 200 < o.length) : split s = ⟨o, 0, 0⟩ := by unfold split; rw [if_neg h, hT]; simp [ho]
end Tx
namespace Cv

def lpB (y : Int) : Bool := decide (y % 4 = 0 ∧ (y % 100 ≠ 0 ∨ y % 400 = 0))
def dim (y m : Int) : Int := if m = 4 ∨ m = 6 ∨ m = 9 ∨ m = 11 then 30 else if m = 2 then (if lpB y = true then 29 else 28) else 31
def dby (y : Int) : Int := (y - 1) * 365 + (y - 1) / 4 - (y - 1) / 100 + (y - 1) / 400
def cum (y m : Int) : Int := (367 * m - 362) / 12 + (if m ≤ 2 then 0 else if lpB y = true then -1 else -2)
def num (y m d : Int) : Int := dby y + cum y m + d - 1 - 719162
def vldB (y m d : Int) : Bool := decide (1 ≤ y ∧ y ≤ 9999 ∧ 1 ≤ m ∧ m ≤ 12 ∧ 1 ≤ d ∧ d ≤ dim y m)
def monB (y m : Int) : Bool := decide (1 ≤ y ∧ y ≤ 9999 ∧ 1 ≤ m ∧ m ≤ 12)
def wd (n : Int) : Int := (n + 4) % 7
def lp (y : Int) : Int := if lpB y = true then 1 else 0

theorem lpB_iff (y : Int) : lpB y = true ↔ (y % 4 = 0 ∧ (y % 100 ≠ 0 ∨ y % 400 = 0)) := by simp [lpB]
theorem vld_iff {y m d : Int} : vldB y m d = true ↔ (1 ≤ y ∧ y ≤ 9999 ∧ 1 ≤ m ∧ m ≤ 12 ∧ 1 ≤ d ∧ d ≤ dim y m) := by simp [vldB]
theorem mon_iff {y m : Int} : monB y m = true ↔ (1 ≤ y ∧ y ≤ 9999 ∧ 1 ≤ m ∧ m ≤ 12) := by simp [monB]
theorem dim_bd (y m : Int) : 28 ≤ dim y m ∧ dim y m ≤ 31 := by unfold dim; split <;> (try split) <;> (try split) <;> omega

theorem twelve {m : Int} (h1 : 1 ≤ m) (h2 : m ≤ 12) : m = 1 ∨ m = 2 ∨ m = 3 ∨ m = 4 ∨ m = 5 ∨ m = 6 ∨ m = 7 ∨ m = 8 ∨ m = 9 ∨ m = 10 ∨ m = 11 ∨ m = 12 := by omega

theorem cum_succ (y m : Int) (h1 : 1 ≤ m) (h2 : m ≤ 12) : cum y (m + 1) = cum y m + dim y m := by
 cases hl : lpB y <;> rcases twelve h1 h2 with rfl | rfl | rfl | rfl | rfl | rfl | rfl | rfl | rfl | rfl | rfl | rfl <;> simp [cum, dim, hl]
theorem cum_one (y : Int) : cum y 1 = 0 := by simp [cum]
theorem cum_13 (y : Int) : cum y 13 = 365 + lp y := by cases hl : lpB y <;> simp [cum, lp, hl]
theorem cum_bd (y m : Int) (h1 : 1 ≤ m) (h2 : m ≤ 13) : 0 ≤ cum y m ∧ cum y m ≤ 366 := by
 unfold cum; split
 ·omega
 ·split <;> omega
theorem cum_lt (y m k : Int) (h1 : 1 ≤ m) (h : m < k) (h2 : k ≤ 13) : cum y m + dim y m ≤ cum y k := by
 have h3 : m ≤ 12 := by omega
 cases hl : lpB y <;> rcases twelve h1 h3 with rfl | rfl | rfl | rfl | rfl | rfl | rfl | rfl | rfl | rfl | rfl | rfl <;> simp [cum, dim, hl] <;> (try split) <;> omega
theorem dby_succ (y : Int) : dby (y + 1) = dby y + 365 + lp y := by
 unfold dby lp
 have h := lpB_iff y
 by_cases hl : lpB y = true
 ·rw [if_pos hl]; have := h.1 hl; omega
 ·rw [if_neg hl]
  have : ¬ (y % 4 = 0 ∧ (y % 100 ≠ 0 ∨ y % 400 = 0)) := fun k => hl (h.2 k)
  omega
theorem dby_le (a b : Int) (h : a ≤ b) : dby a ≤ dby b := by unfold dby; omega
theorem dby_one : dby 1 = 0 := by decide
theorem dby_max : dby 10000 = 3652059 := by decide
theorem dby_bd (y : Int) (h1 : 1 ≤ y) (h2 : y ≤ 10000) : 0 ≤ dby y ∧ dby y ≤ 3652059 := by
 have a := dby_le 1 y h1; have b := dby_le y 10000 h2
 rw [dby_one] at a; rw [dby_max] at b; exact ⟨a, b⟩
theorem dby_lt (a b : Int) (h : a < b) : dby a + 365 + lp a ≤ dby b := by
 have := dby_le (a + 1) b (by omega); rw [dby_succ] at this; exact this

theorem yday {y m d : Int} (h : vldB y m d = true) : 0 ≤ cum y m + d - 1 ∧ cum y m + d - 1 < 365 + lp y := by
 have h := vld_iff.1 h
 have a := cum_bd y m (by omega) (by omega)
 have b := cum_lt y m 13 (by omega) (by omega) (by omega)
 rw [cum_13] at b
 omega
theorem num_bd {y m d : Int} (h : vldB y m d = true) : -719162 ≤ num y m d ∧ num y m d ≤ 2932896 := by
 have hy := yday h
 have h' := vld_iff.1 h
 have a := dby_bd y (by omega) (by omega)
 have b := dby_lt y 10000 (by omega)
 rw [dby_max] at b
 unfold num; omega
theorem wd_bd (n : Int) : 0 ≤ wd n ∧ wd n ≤ 6 := by unfold wd; omega
/- the guess of a year -/
theorem guess_le (n : Int) (h0 : 0 ≤ n) (h1 : n < 3652059) : 1 ≤ n * 400 / 146097 + 1 ∧ n * 400 / 146097 + 1 ≤ 9999 ∧ dby (n * 400 / 146097 + 1) ≤ n := by
 unfold dby; omega
theorem year_lt {n y : Int} (h1 : n < 3652059) (h : dby y ≤ n) : y ≤ 9999 := by
 rcases Int.lt_or_le y 10000 with k | k
 ·omega
 ·have := dby_le 10000 y k; rw [dby_max] at this; omega

end Cv
namespace Cv

def fitB (k wk n len : Int) : Bool := decide (0 ≤ wk ∧ wk ≤ 6 ∧ (k = 2 ∧ n = 0 ∨ k ≠ 2 ∧ ¬ (k = 1 ∧ wk ≠ 0) ∧ 1 ≤ n ∧ n ≤ len))
def upto (x wk : Int) : Int := x - (wd x - wk + 7) % 7
def frm (x wk : Int) : Int := x + (wk - wd x + 7) % 7
def tgt (y m k wk n : Int) : Int :=
 if k = 2 then upto (num y m 1 + dim y m - 1) wk else if k = 3 then frm (num y m 1 + n - 1) wk else if k = 4 then upto (num y m 1 + n - 1) wk else num y m 1 + n - 1
def onE (y m k wk n : Int) : Int :=
 if monB y m = false then 3 else if k < 1 ∨ 4 < k then 7 else if fitB k wk n (dim y m) = false then 3 else if tgt y m k wk n < -719162 ∨ 2932896 < tgt y m k wk n then 3 else 0

theorem fit_iff {k wk n len : Int} : fitB k wk n len = true ↔ (0 ≤ wk ∧ wk ≤ 6 ∧ (k = 2 ∧ n = 0 ∨ k ≠ 2 ∧ ¬ (k = 1 ∧ wk ≠ 0) ∧ 1 ≤ n ∧ n ≤ len)) := by unfold fitB; exact decide_eq_true_iff
theorem vld_one {y m : Int} (h : monB y m = true) : vldB y m 1 = true := by
 have a := mon_iff.1 h
 have b := dim_bd y m
 exact vld_iff.2 (by omega)
theorem upto_bd (x wk : Int) (h : 0 ≤ wk) (h' : wk ≤ 6) : x - 6 ≤ upto x wk ∧ upto x wk ≤ x ∧ wd (upto x wk) = wk := by unfold upto wd; omega
theorem frm_bd (x wk : Int) (h : 0 ≤ wk) (h' : wk ≤ 6) : x ≤ frm x wk ∧ frm x wk ≤ x + 6 ∧ wd (frm x wk) = wk := by unfold frm wd; omega
theorem onE_zero {y m k wk n : Int} (h : onE y m k wk n = 0) : monB y m = true ∧ 1 ≤ k ∧ k ≤ 4 ∧ fitB k wk n (dim y m) = true ∧ -719162 ≤ tgt y m k wk n ∧ tgt y m k wk n ≤ 2932896 := by
 unfold onE at h
 split at h
 ·omega
 rename_i h1
 split at h
 ·omega
 rename_i h2
 split at h
 ·omega
 rename_i h3
 split at h
 ·omega
 rename_i h4
 refine ⟨by simpa using h1, by omega, by omega, by simpa using h3, by omega, by omega⟩
end Cv
namespace Sx
open Tx (Bs)

def letB (c : UInt8) : Bool := decide (97 ≤ c.toNat ∧ c.toNat ≤ 122) || decide (65 ≤ c.toNat ∧ c.toNat ≤ 90)
def digB (c : UInt8) : Bool := decide (48 ≤ c.toNat ∧ c.toNat ≤ 57)
def nameC (c : UInt8) : Bool := letB c || digB c || c == 95 || c == 45 || c == 47 || c == 43
def plainC (c : UInt8) : Bool := letB c || digB c || c == 43 || c == 45
def headL : Bs → Bool
 | [] => false
 | c :: _ => letB c
def nameB (s : Bs) : Bool := headL s && decide (s.length ≤ 24) && s.all nameC
def lettersB (s : Bs) : Bool := s.all letB && decide (s.length ≤ 24)
def plainB (s : Bs) : Bool := s.all plainC
/- how many marks a format has; none: a sign that may not stand there. (first: nothing is ahead) -/
def fmtM : Bool → Bs → Option Nat
 | _, [] => some 0
 | f, c :: r =>
   if c = 47 then (if f = true ∨ r = [] then none else (fmtM false r).map (· + 1))
   else if c = 37 then (if r.head? = some 115 then (fmtM false r).map (· + 1) else none)
   else if plainC c = true then fmtM false r else none
def few : Option Nat → Bool
 | none => false
 | some m => decide (m ≤ 1)
def formatB (s : Bs) : Bool := !s.isEmpty && decide (s.length ≤ 24) && few (fmtM true s)

structure Rl where
 name : Bs
 frm : Int
 to : Int
 month : Int
 kind : Int
 wk : Int
 n : Int
 at_ : Int
 clock : Int
 save : Int
 letter : Bs
structure Er where
 shift : Int
 rules : Bs
 save : Int
 format : Bs
 opn : Bool
 uy : Int
 um : Int
 ud : Int
 uat : Int
 uclock : Int
structure Zn where
 name : Bs
 eras : List Er
structure Lk where
 to : Bs
 name : Bs
structure Sr where
 rules : List Rl
 zones : List Zn
 links : List Lk

def inB (n a b : Int) : Bool := decide (a ≤ n ∧ n ≤ b)
def ruleE (r : Rl) : Int :=
 if (nameB r.name && lettersB r.letter) = false then 1
 else if (inB r.frm 1900 r.to && decide (r.to ≤ 2100)) = false then 3
 else if inB r.month 1 12 = false then 3
 else if Cv.onE 2001 r.month r.kind r.wk r.n ≠ 0 then Cv.onE 2001 r.month r.kind r.wk r.n
 else if inB r.at_ 0 172800 = false then 3
 else if inB r.clock 1 3 = false then 7
 else if inB r.save 0 10800 = false then 3 else 0
def untilZ (x : Er) : Bool := decide (x.uy = 0 ∧ x.um = 0 ∧ x.ud = 0 ∧ x.uat = 0 ∧ x.uclock = 0)
def endE (x : Er) : Int :=
 if x.opn = true then (if untilZ x = true then 0 else 1)
 else if Cv.vldB x.uy x.um x.ud = false then 3
 else if inB x.uat 0 172800 = false then 3
 else if x.uclock = 2 ∨ x.uclock = 3 then 0 else 7
def eraE (x : Er) (last : Bool) : Int :=
 if ((x.rules.isEmpty || nameB x.rules) && formatB x.format) = false then 1
 else if inB x.shift (-64800) 64800 = false then 3
 else if inB x.save 0 10800 = false then 3
 else if (x.rules.isEmpty || decide (x.save = 0)) = false then 1
 else if x.opn ≠ last then 4
 else endE x
def erasE : List Er → Int
 | [] => 0
 | [x] => eraE x true
 | x :: y :: r => if eraE x false ≠ 0 then eraE x false else erasE (y :: r)
def zoneE (z : Zn) : Int := if (nameB z.name && !z.eras.isEmpty) = false then 1 else erasE z.eras
def linkE (l : Lk) : Int := if (nameB l.to && nameB l.name) = false then 1 else 0
def firstE {α : Type} (f : α → Int) : List α → Int
 | [] => 0
 | x :: r => if f x ≠ 0 then f x else firstE f r
def manyB (s : Sr) : Bool := decide (40 < s.rules.length) || decide (20 < s.zones.length) || decide (20 < s.links.length) || s.zones.any fun z => decide (8 < z.eras.length)
def orE (a b : Int) : Int := if a ≠ 0 then a else b
def srcE (s : Sr) : Int := if manyB s = true then 2 else orE (firstE ruleE s.rules) (orE (firstE zoneE s.zones) (firstE linkE s.links))

/- what fields say -/
def val : Int → Bs → Int
 | n, [] => n
 | n, c :: r => val (10 * n + (c.toNat : Int) - 48) r
def num (least most : Nat) (s : Bs) : Option Int := if least ≤ s.length ∧ s.length ≤ most ∧ s.all digB = true then some (val 0 s) else none
/- which of texts of three signs each it is -/
def th (s : Bs) : Nat → Bs → Int
 | k, a :: b :: c :: r => if [a, b, c] = s then k else th s (k + 1) r
 | _, _ => -1
def months : Bs := [74, 97, 110, 70, 101, 98, 77, 97, 114, 65, 112, 114, 77, 97, 121, 74, 117, 110, 74, 117, 108, 65, 117, 103, 83, 101, 112, 79, 99, 116, 78, 111, 118, 68, 101, 99]
def weekdays : Bs := [83, 117, 110, 77, 111, 110, 84, 117, 101, 87, 101, 100, 84, 104, 117, 70, 114, 105, 83, 97, 116]
def monthO (s : Bs) : Option Int := if th s 0 months < 0 then none else some (th s 0 months + 1)
def wkO (s : Bs) : Option Int := if th s 0 weekdays < 0 then none else some (th s 0 weekdays)
structure Fm where
 kind : Int
 wk : Int
 n : Int
def lastW : Bs := [108, 97, 115, 116]
def formC (s : Bs) : Prop := 5 < s.length ∧ s[4]? = some 61 ∧ (s[3]? = some 62 ∨ s[3]? = some 60)
instance (s : Bs) : Decidable (formC s) := by unfold formC; infer_instance
def formO (s : Bs) : Option Fm :=
 if s.take 4 = lastW then (wkO (s.drop 4)).map fun w => ⟨2, w, 0⟩
 else if formC s then
  (wkO (s.take 3)).bind fun w => (num 1 2 (s.drop 5)).map fun n => ⟨if s[3]? = some 60 then 4 else 3, w, n⟩
 else (num 1 2 s).map fun n => ⟨1, 0, n⟩
def colons : Bs → List Bs
 | [] => [[]]
 | c :: r => if c = 58 then [] :: colons r else (match colons r with | [] => [[c]] | x :: xs => (c :: x) :: xs)
def sixO (s : Bs) : Option Int := (num 2 2 s).bind fun n => if 59 < n then none else some n
def spanO (s : Bs) : Option Int :=
 if s = [48] then some 0 else
 match colons s with
 | [h, m] => (num 1 2 h).bind fun a => (sixO m).map fun b => 3600 * a + 60 * b
 | [h, m, t] => (num 1 2 h).bind fun a => (sixO m).bind fun b => (sixO t).map fun c => 3600 * a + 60 * b + c
 | _ => none
def kindO (none_ : Int) (c : UInt8) : Int := if c = 117 then 3 else if c = 115 then 2 else if c = 119 then 1 else none_
def clockO (none_ : Int) (s : Bs) : Option (Int × Int) :=
 match s.getLast? with
 | none => none
 | some c => if digB c = true then (spanO s).map fun n => (n, none_)
   else if c = 117 ∨ c = 115 ∨ c = 119 then (spanO s.dropLast).map fun n => (n, kindO none_ c) else none
def only : Bs := [111, 110, 108, 121]
def maxW : Bs := [109, 97, 120]
def toO (from_ : Int) (s : Bs) : Option Int := if s = only then some from_ else if s = maxW then some 2100 else num 4 4 s
def letterO (s : Bs) : Option Bs := if s = [45] then some [] else if s ≠ [] ∧ lettersB s = true then some s else none
def nameO (s : Bs) : Option Bs := if nameB s = true then some s else none
def shiftO (s : Bs) : Option Int := if s.head? = some 45 then (spanO s.tail).map fun n => -n else spanO s
def rulesO (s : Bs) : Option (Bs × Int) :=
 if s = [45] then some ([], 0)
 else if (match s with | [] => false | c :: _ => digB c) = true then (if s = [48] then none else (spanO s).map fun n => ([], n))
 else if nameB s = true then some (s, 0) else none
def formatO (s : Bs) : Option Bs := if formatB s = true then some s else none
def ruleO : List Bs → Option (Rl × List Bs)
 | a :: b :: c :: d :: e :: f :: g :: h :: rest =>
   (nameO a).bind fun name => (num 4 4 b).bind fun frm => (toO frm c).bind fun to => (monthO d).bind fun month => (formO e).bind fun fm =>
   (clockO 1 f).bind fun ac => (spanO g).bind fun save => (letterO h).map fun letter => (⟨name, frm, to, month, fm.kind, fm.wk, fm.n, ac.1, ac.2, save, letter⟩, rest)
 | _ => none
def eraO : List Bs → Option (Er × List Bs)
 | a :: b :: c :: rest =>
   (shiftO a).bind fun shift => (rulesO b).bind fun rs => (formatO c).bind fun format =>
   match rest with
   | [] => some (⟨shift, rs.1, rs.2, format, true, 0, 0, 0, 0, 0⟩, [])
   | y :: m :: d :: t :: more =>
     (num 4 4 y).bind fun uy => (monthO m).bind fun um => (num 1 2 d).bind fun ud => (clockO 2 t).bind fun ac =>
     if ac.2 = 1 then none else some (⟨shift, rs.1, rs.2, format, false, uy, um, ud, ac.1, ac.2⟩, more)
   | _ => none
 | _ => none
def linkO : List Bs → Option (Lk × List Bs)
 | a :: b :: rest => (nameO a).bind fun to => (nameO b).map fun name => (⟨to, name⟩, rest)
 | _ => none
/- what lines say, one behind the other -/
structure St where
 src : Sr
 must : Bool
def addEra (x : Er) : List Zn → List Zn
 | [] => []
 | [z] => [⟨z.name, z.eras ++ [x]⟩]
 | z :: y :: r => z :: addEra x (y :: r)
def ruleW : Bs := [82, 117, 108, 101]
def zoneW : Bs := [90, 111, 110, 101]
def linkW : Bs := [76, 105, 110, 107]
def whole {α : Type} : Option (α × List Bs) → Option α
 | some (a, []) => some a
 | _ => none
def zoneO : List Bs → Option ((Bs × Er) × List Bs)
 | n :: fs => (nameO n).bind fun name => (eraO fs).map fun p => ((name, p.1), p.2)
 | [] => none
def wordO (st : Sr) : List Bs → Option St
 | [] => none
 | w :: fs =>
   if w = ruleW then (whole (ruleO fs)).map fun r => ⟨⟨st.rules ++ [r], st.zones, st.links⟩, false⟩
   else if w = zoneW then (whole (zoneO fs)).map fun p => ⟨⟨st.rules, st.zones ++ [⟨p.1, [p.2]⟩], st.links⟩, !p.2.opn⟩
   else if w = linkW then (whole (linkO fs)).map fun l => ⟨⟨st.rules, st.zones, st.links ++ [l]⟩, false⟩
   else none
def lineO (st : St) (l : Tx.Ln) : Option St :=
 if l.inner ≠ st.must then none
 else if st.must = true then (whole (eraO l.fields)).map fun x => ⟨⟨st.src.rules, addEra x st.src.zones, st.src.links⟩, !x.opn⟩
 else wordO st.src l.fields
def linesO : St → List Tx.Ln → Except Int St
 | st, [] => .ok st
 | st, l :: ls => match lineO st l with
   | none => .error l.number
   | some st' => linesO st' ls
structure Pr where
 src : Sr
 number : Int
 err : Int
def noSr : Sr := ⟨[], [], []⟩
def parse (s : Bs) : Pr :=
 if (Tx.split s).err ≠ 0 then ⟨noSr, (Tx.split s).number, (Tx.split s).err⟩ else
 match linesO ⟨noSr, false⟩ (Tx.split s).lines with
 | .error n => ⟨noSr, n, 1⟩
 | .ok st => if st.must = true then ⟨noSr, 0, 1⟩ else if srcE st.src ≠ 0 then ⟨noSr, 0, srcE st.src⟩ else ⟨st.src, 0, 0⟩
end Sx
namespace Sx

theorem drop_get {α : Type} {l : List α} {i : Nat} {x : α} (h : l[i]? = some x) : l.drop i = x :: l.drop (i + 1) := by
 obtain ⟨hi, rfl⟩ := List.getElem?_eq_some_iff.1 h
 exact List.drop_eq_getElem_cons hi
theorem firstE_drop {α : Type} (f : α → Int) {l : List α} {i : Nat} {x : α} (h : l[i]? = some x) : firstE f (l.drop i) = if f x ≠ 0 then f x else firstE f (l.drop (i + 1)) := by
 rw [drop_get h]; rfl
theorem firstE_end {α : Type} (f : α → Int) {l : List α} {i : Nat} (h : ¬ i < l.length) : firstE f (l.drop i) = 0 := by
 rw [List.drop_eq_nil_of_le (by omega)]; rfl
theorem firstE_at {α : Type} (f : α → Int) {l : List α} {i : Nat} {x : α} {E : Int} (h : l[i]? = some x) (hE : E = firstE f (l.drop i)) (hx : f x ≠ 0) : E = f x := by
 rw [hE, firstE_drop f h, if_pos hx]
theorem firstE_next {α : Type} (f : α → Int) {l : List α} {i : Nat} {x : α} {E : Int} (h : l[i]? = some x) (hE : E = firstE f (l.drop i)) (hx : f x = 0) : E = firstE f (l.drop (i + 1)) := by
 rw [hE, firstE_drop f h, if_neg (by simp [hx])]
theorem erasE_end {l : List Er} {i : Nat} (h : ¬ i < l.length) : erasE (l.drop i) = 0 := by
 rw [List.drop_eq_nil_of_le (by omega)]; rfl
theorem erasE_drop {l : List Er} {i : Nat} {x : Er} (h : l[i]? = some x) : erasE (l.drop i) = if eraE x (decide (i + 1 = l.length)) ≠ 0 then eraE x (decide (i + 1 = l.length)) else erasE (l.drop (i + 1)) := by
 have hi := (List.getElem?_eq_some_iff.1 h).1
 rw [drop_get h]
 by_cases q : i + 1 = l.length
 ·rw [List.drop_eq_nil_of_le (by omega)]
  simp only [q, decide_true, erasE]
  split
  ·rfl
  ·rename_i q; simpa using q
 ·simp only [q, decide_false]
  obtain ⟨y, hy⟩ : ∃ y, l[i + 1]? = some y := ⟨_, List.getElem?_eq_getElem (by omega)⟩
  rw [drop_get hy]
  rfl
theorem erasE_at {l : List Er} {i : Nat} {x : Er} {E : Int} {b : Bool} (h : l[i]? = some x) (hb : decide (i + 1 = l.length) = b) (hE : E = erasE (l.drop i)) (hx : eraE x b ≠ 0) : E = eraE x b := by
 rw [hE, erasE_drop h, hb, if_pos hx]
theorem erasE_next {l : List Er} {i : Nat} {x : Er} {E : Int} {b : Bool} (h : l[i]? = some x) (hb : decide (i + 1 = l.length) = b) (hE : E = erasE (l.drop i)) (hx : eraE x b = 0) : E = erasE (l.drop (i + 1)) := by
 rw [hE, erasE_drop h, hb, if_neg (by simp [hx])]
theorem many_zone {s : Sr} {i : Nat} {z : Zn} (h : s.zones[i]? = some z) (hz : 8 < z.eras.length) : manyB s = true := by
 have : s.zones.any (fun z => decide (8 < z.eras.length)) = true := List.any_eq_true.2 ⟨z, List.mem_of_getElem? h, by simpa using hz⟩
 simp [manyB, this]
theorem many_no {s : Sr} (h1 : ¬ 40 < s.rules.length) (h2 : ¬ 20 < s.zones.length) (h3 : ¬ 20 < s.links.length) (h : ∀ (j : Nat) (z : Zn), j < s.zones.length → s.zones[j]? = some z → ¬ 8 < z.eras.length) : manyB s = false := by
 have : s.zones.any (fun z => decide (8 < z.eras.length)) = false := by
  rw [List.any_eq_false]
  intro z hz
  obtain ⟨j, hj⟩ := List.mem_iff_getElem?.1 hz
  simpa using h j z (List.getElem?_eq_some_iff.1 hj).1 hj
 simp [manyB, this, h1, h2, h3]
theorem src_many {s : Sr} (h : manyB s = true) : srcE s = 2 := by unfold srcE; rw [if_pos h]
theorem src_few {s : Sr} (h : manyB s = false) : srcE s = orE (firstE ruleE s.rules) (orE (firstE zoneE s.zones) (firstE linkE s.links)) := by unfold srcE; rw [if_neg (by simp [h])]
theorem orE_left {a b : Int} (h : a ≠ 0) : orE a b = a := if_pos h
theorem orE_right {a b : Int} (h : a = 0) : orE a b = b := if_neg (by simp [h])
end Sx
namespace Sx

structure Tn where
 stands : Int
 clock : Int
 save : Int
 letter : Tx.Bs
structure Tm where
 at_ : Int
 save : Int
 letter : Tx.Bs
def turnIn (r : Rl) (y : Int) : Tn := ⟨Cv.tgt y r.month r.kind r.wk r.n * 86400 + r.at_, r.clock, r.save, r.letter⟩
def many (r : Rl) : Nat := (r.to - r.frm + 1).toNat
def turnsR (r : Rl) : List Tn := (List.range (many r)).map fun (k : Nat) => turnIn r (r.frm + (k : Int))
def turnsOf (rs : List Rl) (name : Tx.Bs) : List Tn := (rs.filter fun r => r.name == name).flatMap turnsR
/- in order -/
def ins (t : Tn) : List Tn → List Tn
 | [] => [t]
 | u :: r => if t.stands < u.stands then t :: u :: r else u :: ins t r
def isort : List Tn → List Tn
 | [] => []
 | t :: r => ins t (isort r)
def apartFrom (p : Int) : List Tn → Bool
 | [] => true
 | u :: r => decide (172800 ≤ u.stands - p) && apartFrom u.stands r
def apart : List Tn → Bool
 | [] => true
 | t :: r => apartFrom t.stands r
def timeOf (shift s : Int) (t : Tn) : Tm := ⟨(if t.clock = 3 then t.stands else t.stands - shift) - (if t.clock = 1 then s else 0), t.save, t.letter⟩
def timesFrom (shift : Int) : Int → List Tn → List Tm
 | _, [] => []
 | s, t :: r => timeOf shift s t :: timesFrom shift t.save r
def timesE (rs : List Rl) (name : Tx.Bs) (shift : Int) : Int :=
 if srcE ⟨rs, [], []⟩ ≠ 0 then srcE ⟨rs, [], []⟩ else if inB shift (-64800) 64800 = false then 3
 else if (turnsOf rs name).isEmpty = true then 5 else if apart (isort (turnsOf rs name)) = false then 4 else if 1000 < (turnsOf rs name).length then 2 else 0
def times (rs : List Rl) (name : Tx.Bs) (shift : Int) : List Tm := if timesE rs name shift = 0 then timesFrom shift 0 (isort (turnsOf rs name)) else []

/- what is in order is so in one way alone, but for what stands alike -/
def SortedT (l : List Tn) : Prop := l.Pairwise fun a b => a.stands ≤ b.stands
theorem ins_perm (t : Tn) : ∀ l, (ins t l).Perm (t :: l)
 | [] => .refl _
 | u :: r => by
   unfold ins
   split
   ·exact .refl _
   ·exact ((ins_perm t r).cons u).trans (.swap t u r)
theorem isort_perm : ∀ l, (isort l).Perm l
 | [] => .refl _
 | t :: r => (ins_perm t (isort r)).trans ((isort_perm r).cons t)
theorem ins_sorted (t : Tn) : ∀ l, SortedT l → SortedT (ins t l)
 | [], _ => by simp [ins, SortedT]
 | u :: r, h => by
   have h' := List.pairwise_cons.1 h
   unfold ins
   split
   ·rename_i q
    refine List.pairwise_cons.2 ⟨fun x hx => ?_, h⟩
    rcases List.mem_cons.1 hx with rfl | hx
    ·omega
    ·have := h'.1 x hx; omega
   ·rename_i q
    refine List.pairwise_cons.2 ⟨fun x hx => ?_, ins_sorted t r h'.2⟩
    rcases List.mem_cons.1 ((ins_perm t r).mem_iff.1 hx) with rfl | hx
    ·omega
    ·exact h'.1 x hx
theorem isort_sorted : ∀ l, SortedT (isort l)
 | [] => by simp [isort, SortedT]
 | t :: r => ins_sorted t _ (isort_sorted r)
theorem sorted_keys {a b : List Tn} (h : a.Perm b) (ha : SortedT a) (hb : SortedT b) : a.map Tn.stands = b.map Tn.stands := by
 have hk : (a.map Tn.stands).Perm (b.map Tn.stands) := h.map _
 have pa : (a.map Tn.stands).Pairwise (· ≤ ·) := List.pairwise_map.2 ha
 have pb : (b.map Tn.stands).Pairwise (· ≤ ·) := List.pairwise_map.2 hb
 exact List.Perm.eq_of_pairwise (fun x y _ _ h1 h2 => Int.le_antisymm h1 h2) pa pb hk
theorem apartFrom_keys : ∀ (a b : List Tn) (p : Int), a.map Tn.stands = b.map Tn.stands → apartFrom p a = apartFrom p b
 | [], [], _, _ => rfl
 | x :: a, y :: b, p, h => by
   simp at h
   simp only [apartFrom, h.1]
   rw [apartFrom_keys a b _ h.2]
 | [], y :: b, _, h => by simp at h
 | x :: a, [], _, h => by simp at h
theorem apart_keys {a b : List Tn} (h : a.map Tn.stands = b.map Tn.stands) : apart a = apart b := by
 match a, b, h with
 | [], [], _ => rfl
 | x :: a, y :: b, h =>
   simp at h
   show apartFrom _ _ = apartFrom _ _
   rw [h.1]; exact apartFrom_keys a b _ h.2
 | [], y :: b, h => simp at h
 | x :: a, [], h => simp at h
theorem apartFrom_lt : ∀ (l : List Tn) (p : Int), apartFrom p l = true → ∀ x ∈ l, p < x.stands
 | [], _, _ => by simp
 | u :: r, p, h => by
   simp [apartFrom] at h
   intro x hx
   rcases List.mem_cons.1 hx with rfl | hx
   ·omega
   ·have := apartFrom_lt r _ h.2 x hx; omega
theorem apartFrom_pw : ∀ (l : List Tn) (p : Int), apartFrom p l = true → l.Pairwise fun a b => a.stands < b.stands
 | [], _, _ => by simp
 | u :: r, p, h => by
   simp [apartFrom] at h
   exact List.pairwise_cons.2 ⟨apartFrom_lt r _ h.2, apartFrom_pw r _ h.2⟩
theorem apart_pw {l : List Tn} (h : apart l = true) : l.Pairwise fun a b => a.stands < b.stands := by
 match l, h with
 | [], _ => simp
 | u :: r, h => exact List.pairwise_cons.2 ⟨apartFrom_lt r _ h, apartFrom_pw r _ h⟩
/- two lists of the same things, both with strictly rising keys, are one -/
theorem strict_eq {a b : List Tn} (h : a.Perm b) (ha : a.Pairwise fun x y => x.stands < y.stands) (hb : b.Pairwise fun x y => x.stands < y.stands) : a = b :=
 List.Perm.eq_of_pairwise (fun x y _ _ h1 h2 => absurd h1 (by omega)) ha hb h
theorem ordered {o ts : List Tn} (h : o.Perm ts) (hs : SortedT o) : apart o = apart (isort ts) ∧ (apart o = true → o = isort ts) := by
 have hp : o.Perm (isort ts) := h.trans (isort_perm ts).symm
 have hk := apart_keys (sorted_keys hp hs (isort_sorted ts))
 exact ⟨hk, fun q => strict_eq hp (apart_pw q) (apart_pw (hk ▸ q))⟩

/- times, one by one -/
theorem timesFrom_len (shift : Int) : ∀ (l : List Tn) (s : Int), (timesFrom shift s l).length = l.length
 | [], _ => rfl
 | t :: r, s => by simp [timesFrom, timesFrom_len shift r]
def prev (s : Int) (l : List Tn) : Nat → Int
 | 0 => s
 | i + 1 => ((l[i]?).map Tn.save).getD 0
theorem timesFrom_get (shift : Int) : ∀ (l : List Tn) (s : Int) (i : Nat) (t : Tn), l[i]? = some t → (timesFrom shift s l)[i]? = some (timeOf shift (prev s l i) t)
 | u :: r, s, 0, t, h => by simp at h; subst h; rfl
 | u :: r, s, i + 1, t, h => by
   have := timesFrom_get shift r u.save i t (by simpa using h)
   simp only [timesFrom, List.getElem?_cons_succ]
   rw [this]
   cases i with
   | zero => simp [prev]
   | succ i => simp [prev]
 | [], s, i, t, h => by simp at h
theorem apartFrom_adj : ∀ (l : List Tn) (p : Int) (i : Nat) (a b : Tn), apartFrom p l = true → l[i]? = some a → l[i + 1]? = some b → 172800 ≤ b.stands - a.stands
 | u :: v :: r, p, 0, a, b, h, ha, hb => by
   simp at ha hb; subst ha hb
   simp [apartFrom] at h; omega
 | u :: r, p, i + 1, a, b, h, ha, hb => by
   simp [apartFrom] at h
   exact apartFrom_adj r u.stands i a b h.2 (by simpa using ha) (by simpa using hb)
 | [], p, i, a, b, h, ha, hb => by simp at ha
 | [u], p, 0, a, b, h, ha, hb => by simp at hb
theorem apart_adj {l : List Tn} {i : Nat} {a b : Tn} (h : apart l = true) (ha : l[i]? = some a) (hb : l[i + 1]? = some b) : 172800 ≤ b.stands - a.stands := by
 match l, i, h, ha, hb with
 | u :: v :: r, 0, h, ha, hb =>
   simp at ha hb; subst ha hb
   simp [apart, apartFrom] at h; omega
 | u :: r, i + 1, h, ha, hb => exact apartFrom_adj r u.stands i a b h (by simpa using ha) (by simpa using hb)
 | [], i, h, ha, hb => simp at ha
 | [u], 0, h, ha, hb => simp at hb
theorem prev_bd {l : List Tn} (h : ∀ t ∈ l, 0 ≤ t.save ∧ t.save ≤ 10800) (i : Nat) : 0 ≤ prev 0 l i ∧ prev 0 l i ≤ 10800 := by
 cases i with
 | zero => simp [prev]
 | succ i =>
   simp only [prev]
   cases hi : l[i]? with
   | none => simp
   | some t => simpa using h t (List.mem_of_getElem? hi)
theorem time_bd {shift s : Int} {t : Tn} (h1 : -64800 ≤ shift) (h2 : shift ≤ 64800) (s1 : 0 ≤ s) (s2 : s ≤ 10800) : t.stands - 75600 ≤ (timeOf shift s t).at_ ∧ (timeOf shift s t).at_ ≤ t.stands + 64800 := by
 simp only [timeOf]
 split <;> split <;> omega
theorem times_rise {l : List Tn} {shift : Int} {i : Nat} {x y : Tm} (h1 : -64800 ≤ shift) (h2 : shift ≤ 64800) (h : ∀ t ∈ l, 0 ≤ t.save ∧ t.save ≤ 10800) (ha : apart l = true)
  (hx : (timesFrom shift 0 l)[i]? = some x) (hy : (timesFrom shift 0 l)[i + 1]? = some y) : x.at_ < y.at_ := by
 have hl : i + 1 < l.length := by rw [← timesFrom_len shift l 0]; exact (List.getElem?_eq_some_iff.1 hy).1
 obtain ⟨a, qa⟩ : ∃ a, l[i]? = some a := ⟨_, List.getElem?_eq_getElem (by omega)⟩
 obtain ⟨b, qb⟩ : ∃ b, l[i + 1]? = some b := ⟨_, List.getElem?_eq_getElem hl⟩
 rw [timesFrom_get shift l 0 i a qa] at hx
 rw [timesFrom_get shift l 0 (i + 1) b qb] at hy
 simp at hx hy
 subst hx hy
 have d := apart_adj ha qa qb
 have p1 := prev_bd h i
 have p2 := prev_bd h (i + 1)
 have b1 := time_bd (t := a) h1 h2 p1.1 p1.2
 have b2 := time_bd (t := b) h1 h2 p2.1 p2.2
 omega
theorem turns_save {rs : List Rl} {name : Tx.Bs} (h : ∀ r ∈ rs, 0 ≤ r.save ∧ r.save ≤ 10800) : ∀ t ∈ turnsOf rs name, 0 ≤ t.save ∧ t.save ≤ 10800 := by
 intro t ht
 simp only [turnsOf, List.mem_flatMap, List.mem_filter, turnsR, List.mem_map] at ht
 obtain ⟨r, ⟨hr, _⟩, k, _, rfl⟩ := ht
 exact h r hr
theorem isort_save {l : List Tn} (h : ∀ t ∈ l, 0 ≤ t.save ∧ t.save ≤ 10800) : ∀ t ∈ isort l, 0 ≤ t.save ∧ t.save ≤ 10800 := fun t ht => h t ((isort_perm l).mem_iff.1 ht)
end Sx
namespace Sx

structure RuleOk (r : Rl) : Prop where
 frm : 1900 ≤ r.frm
 le : r.frm ≤ r.to
 «to» : r.to ≤ 2100
 month : 1 ≤ r.month ∧ r.month ≤ 12
 on : Cv.onE 2001 r.month r.kind r.wk r.n = 0
 at_ : 0 ≤ r.at_ ∧ r.at_ ≤ 172800
 clock : 1 ≤ r.clock ∧ r.clock ≤ 3
 save : 0 ≤ r.save ∧ r.save ≤ 10800
theorem rule_ok {r : Rl} (h : ruleE r = 0) : RuleOk r := by
 unfold ruleE at h
 split at h
 ·omega
 split at h
 ·omega
 rename_i h2
 split at h
 ·omega
 rename_i h3
 split at h
 ·rename_i h4; exact absurd h h4
 rename_i h4
 split at h
 ·omega
 rename_i h5
 split at h
 ·omega
 rename_i h6
 split at h
 ·omega
 rename_i h7
 simp [inB] at h2 h3 h5 h6 h7 h4
 exact ⟨by omega, by omega, by omega, by omega, h4, by omega, by omega, by omega⟩
theorem dim_common (y m : Int) : Cv.dim 2001 m ≤ Cv.dim y m := by
 have h : Cv.lpB 2001 = false := by decide
 unfold Cv.dim
 split
 ·omega
 ·split
  ·rw [h, if_neg (by decide)]; split <;> omega
  ·omega
theorem dby_rule {y : Int} (h1 : 1900 ≤ y) (h2 : y ≤ 2100) : 693000 ≤ Cv.dby y ∧ Cv.dby y ≤ 767000 := by
 have a := Cv.dby_le 1900 y h1
 have b := Cv.dby_le y 2100 h2
 have e1 : Cv.dby 1900 = 693595 := by decide
 have e2 : Cv.dby 2100 = 766644 := by decide
 omega
theorem num_rule {y m : Int} (h1 : 1900 ≤ y) (h2 : y ≤ 2100) (m1 : 1 ≤ m) (m2 : m ≤ 12) : -30000 ≤ Cv.num y m 1 ∧ Cv.num y m 1 ≤ 50000 := by
 have a := dby_rule h1 h2
 have b := Cv.cum_bd y m m1 (by omega)
 unfold Cv.num
 omega
theorem tgt_rule {y m k wk n : Int} (h1 : 1900 ≤ y) (h2 : y ≤ 2100) (m1 : 1 ≤ m) (m2 : m ≤ 12) (hf : Cv.fitB k wk n (Cv.dim y m) = true) : -40000 ≤ Cv.tgt y m k wk n ∧ Cv.tgt y m k wk n ≤ 60000 := by
 have a := num_rule h1 h2 m1 m2
 have d := Cv.dim_bd y m
 obtain ⟨w1, w2, f⟩ := Cv.fit_iff.1 hf
 unfold Cv.tgt
 split
 ·have := Cv.upto_bd (Cv.num y m 1 + Cv.dim y m - 1) wk w1 w2; omega
 split
 ·have := Cv.frm_bd (Cv.num y m 1 + n - 1) wk w1 w2; omega
 split
 ·have := Cv.upto_bd (Cv.num y m 1 + n - 1) wk w1 w2; omega
 ·omega
theorem on_year {r : Rl} (h : RuleOk r) {y : Int} (h1 : 1900 ≤ y) (h2 : y ≤ 2100) : Cv.onE y r.month r.kind r.wk r.n = 0 ∧ -40000 ≤ Cv.tgt y r.month r.kind r.wk r.n ∧ Cv.tgt y r.month r.kind r.wk r.n ≤ 60000 := by
 obtain ⟨_, k1, k2, f, _, _⟩ := Cv.onE_zero h.on
 have m := h.month
 have hd := dim_common y r.month
 obtain ⟨w1, w2, f⟩ := Cv.fit_iff.1 f
 have f' : Cv.fitB r.kind r.wk r.n (Cv.dim y r.month) = true := Cv.fit_iff.2 ⟨w1, w2, by rcases f with f | ⟨a, b, c, d⟩
                                                                                         ·exact .inl f
                                                                                         ·exact .inr ⟨a, b, c, by omega⟩⟩
 have t := tgt_rule h1 h2 m.1 m.2 f'
 refine ⟨?_, t⟩
 unfold Cv.onE
 rw [if_neg (by rw [Cv.mon_iff.2 (by omega)]; decide), if_neg (by omega), if_neg (by rw [f']; decide), if_neg (by omega)]
theorem firstE_zero {α : Type} (f : α → Int) : ∀ {l : List α}, firstE f l = 0 → ∀ x ∈ l, f x = 0
 | [], _ => by simp
 | a :: r, h => by
   unfold firstE at h
   split at h
   ·rename_i q; exact absurd h q
   ·rename_i q
    intro x hx
    rcases List.mem_cons.1 hx with rfl | hx
    ·simpa using q
    ·exact firstE_zero f h x hx
/- what was turned rule by rule -/
theorem turnsOf_snoc (rs : List Rl) (r : Rl) (name : Tx.Bs) : turnsOf (rs ++ [r]) name = turnsOf rs name ++ (if (r.name == name) = true then turnsR r else []) := by
 unfold turnsOf
 rw [List.filter_append, List.flatMap_append]
 congr 1
 cases q : (r.name == name) <;> simp [q]
theorem turnsOf_take {rs : List Rl} {name : Tx.Bs} {i : Nat} {r : Rl} (h : rs[i]? = some r) : turnsOf (rs.take (i + 1)) name = turnsOf (rs.take i) name ++ (if (r.name == name) = true then turnsR r else []) := by
 have hi := (List.getElem?_eq_some_iff.1 h).1
 rw [List.take_succ_eq_append_getElem hi, (List.getElem?_eq_some_iff.1 h).2]
 exact turnsOf_snoc _ _ _
def turnsTo (r : Rl) (k : Nat) : List Tn := (List.range k).map fun (j : Nat) => turnIn r (r.frm + (j : Int))
theorem turnsTo_succ (r : Rl) (k : Nat) : turnsTo r (k + 1) = turnsTo r k ++ [turnIn r (r.frm + (k : Int))] := by simp [turnsTo, List.range_succ]
theorem turnsTo_all (r : Rl) : turnsTo r (many r) = turnsR r := rfl
end Sx
namespace Sx
abbrev Trn := Int × Rl
def tnOf (p : Trn) : Tn := ⟨p.1, p.2.clock, p.2.save, p.2.letter⟩
def trnIn (y : Int) (r : Rl) : Trn := (Cv.tgt y r.month r.kind r.wk r.n * 86400 + r.at_, r)
def isIn (name : Tx.Bs) (y : Int) (r : Rl) : Bool := r.name == name && inB y r.frm r.to
def yearT (rs : List Rl) (name : Tx.Bs) (y : Int) : List Trn := (rs.filter (isIn name y)).map (trnIn y)
def yearsT (rs : List Rl) (name : Tx.Bs) (k : Nat) : List Trn := (List.range k).flatMap fun (j : Nat) => yearT rs name (1900 + (j : Int))
def thereB (rs : List Rl) (name : Tx.Bs) (k i : Nat) : Bool := if k = 0 then (rs.take i).any (fun r => r.name == name) else rs.any fun r => r.name == name
theorem flat_app {α β : Type} (f g : α → List β) : ∀ l : List α, (l.flatMap fun x => f x ++ g x).Perm (l.flatMap f ++ l.flatMap g)
 | [] => .refl _
 | a :: r => by
   simp only [List.flatMap_cons]
   refine ((List.Perm.append_left _ (flat_app f g r))).trans ?_
   rw [List.append_assoc, List.append_assoc]
   refine List.Perm.append_left _ ?_
   rw [← List.append_assoc, ← List.append_assoc]
   exact List.Perm.append_right _ List.perm_append_comm
theorem flat_swap {α β γ : Type} (f : α → γ → List β) (l : List α) : ∀ m : List γ, (l.flatMap fun a => m.flatMap (f a)).Perm (m.flatMap fun c => l.flatMap fun a => f a c)
 | [] => by
   have : (l.flatMap fun a => ([] : List γ).flatMap (f a)) = [] := by
    induction l with
    | nil => rfl
    | cons a r ih => simp only [List.flatMap_cons, List.flatMap_nil, List.nil_append] at ih ⊢; exact ih
   rw [this]; exact .refl _
 | c :: r => by
   simp only [List.flatMap_cons]
   exact (flat_app _ _ l).trans ((flat_swap f l r).append_left _)
theorem flat_perm {α β : Type} {f g : α → List β} : ∀ l : List α, (∀ a ∈ l, (f a).Perm (g a)) → (l.flatMap f).Perm (l.flatMap g)
 | [], _ => .refl _
 | a :: r, h => by
   simp only [List.flatMap_cons]
   exact (h a (by simp)).append (flat_perm r fun b hb => h b (List.mem_cons_of_mem _ hb))
theorem filter_flat {α β : Type} (p : α → Bool) (f : α → β) : ∀ l : List α, (l.filter p).map f = l.flatMap fun a => if p a = true then [f a] else []
 | [] => rfl
 | a :: r => by
   rw [List.flatMap_cons, List.filter_cons]
   cases h : p a
   ·simp only [Bool.false_eq_true, ↓reduceIte, List.nil_append]; exact filter_flat p f r
   ·simp only [↓reduceIte, List.map_cons, List.singleton_append]; rw [filter_flat p f r]
/- the years of a rule among all years -/
theorem years_of {r : Rl} (h : RuleOk r) : ((List.range 201).filter fun (j : Nat) => inB (1900 + (j : Int)) r.frm r.to).Perm ((List.range (many r)).map fun (k : Nat) => k + (r.frm - 1900).toNat) := by
 have h1 := h.frm; have h2 := h.le; have h3 := h.to
 refine (List.perm_ext_iff_of_nodup (List.nodup_range.filter _) ?_).2 fun j => ?_
 ·refine List.Pairwise.map _ (fun a b hab => ?_) List.nodup_range
  omega
 ·simp only [List.mem_filter, List.mem_range, List.mem_map, inB, decide_eq_true_eq, many]
  constructor
  ·rintro ⟨a, b, c⟩; exact ⟨j - (r.frm - 1900).toNat, by omega, by omega⟩
  ·rintro ⟨k, a, rfl⟩; omega
theorem turnsR_years {r : Rl} (h : RuleOk r) : ((List.range 201).flatMap fun (j : Nat) => if inB (1900 + (j : Int)) r.frm r.to = true then [turnIn r (1900 + (j : Int))] else []).Perm (turnsR r) := by
 rw [← filter_flat (fun j : Nat => inB (1900 + (j : Int)) r.frm r.to) (fun j : Nat => turnIn r (1900 + (j : Int)))]
 refine ((years_of h).map _).trans ?_
 rw [List.map_map]
 unfold turnsR
 have : ((fun j : Nat => turnIn r (1900 + (j : Int))) ∘ fun k : Nat => k + (r.frm - 1900).toNat) = fun k : Nat => turnIn r (r.frm + (k : Int)) := by
  funext k
  have := h.frm
  show turnIn r (1900 + ((k + (r.frm - 1900).toNat : Nat) : Int)) = _
  rw [show (1900 + ((k + (r.frm - 1900).toNat : Nat) : Int)) = r.frm + (k : Int) by omega]
 rw [this]
/- all years of all rules -/
theorem years_perm {rs : List Rl} (name : Tx.Bs) (h : ∀ r ∈ rs, RuleOk r) : ((yearsT rs name 201).map tnOf).Perm (turnsOf rs name) := by
 have e1 : (yearsT rs name 201).map tnOf = (List.range 201).flatMap fun (j : Nat) => (rs.filter fun r => r.name == name).flatMap fun r => if inB (1900 + (j : Int)) r.frm r.to = true then [turnIn r (1900 + (j : Int))] else [] := by
  unfold yearsT
  rw [List.map_flatMap]
  congr 1
  funext j
  unfold yearT
  rw [List.map_map, filter_flat]
  clear h
  induction rs with
  | nil => rfl
  | cons r l ih =>
    rw [List.flatMap_cons, List.filter_cons]
    cases q : r.name == name
    ·simp only [isIn, q, Bool.false_and, Bool.false_eq_true, ↓reduceIte, List.nil_append]
     exact ih
    ·simp only [isIn, q, Bool.true_and, ↓reduceIte, List.flatMap_cons]
     rw [← ih]; rfl
 rw [e1]
 refine (flat_swap (fun (j : Nat) (r : Rl) => if inB (1900 + (j : Int)) r.frm r.to = true then [turnIn r (1900 + (j : Int))] else []) (List.range 201) _).trans ?_
 exact flat_perm _ fun r hr => turnsR_years (h r (List.mem_filter.1 hr).1)
theorem years_there {rs : List Rl} (name : Tx.Bs) (h : ∀ r ∈ rs, RuleOk r) : (turnsOf rs name).isEmpty = !(rs.any fun r => r.name == name) := by
 cases q : rs.any fun r => r.name == name
 ·have : (rs.filter fun r => r.name == name) = [] := by
   rw [List.filter_eq_nil_iff]
   intro r hr w
   have := List.any_eq_false.1 q r hr
   exact this w
  unfold turnsOf
  rw [this]; rfl
 ·obtain ⟨r, hr, w⟩ := List.any_eq_true.1 q
  have ok := h r hr
  have h1 := ok.le
  have hm : turnIn r (r.frm + ((0 : Nat) : Int)) ∈ turnsOf rs name := by
   simp only [turnsOf, List.mem_flatMap, List.mem_filter, turnsR, List.mem_map, List.mem_range]
   exact ⟨r, ⟨hr, w⟩, 0, by simp only [many]; omega, rfl⟩
  cases c : turnsOf rs name with
  | nil => rw [c] at hm; cases hm
  | cons a l => rfl
/- putting in from the end -/
def SortP (l : List Trn) : Prop := l.Pairwise fun a b => a.1 ≤ b.1
def putAt (l : List Trn) (k : Nat) (t : Trn) : List Trn := l.take k ++ t :: l.drop k
theorem putAt_len (l : List Trn) (k : Nat) (t : Trn) : (putAt l k t).length = l.length + 1 := by
 unfold putAt
 rw [List.length_append, List.length_cons, ← Nat.add_assoc, ← List.length_append, List.take_append_drop]
theorem putAt_end (l : List Trn) (t : Trn) : putAt l l.length t = l ++ [t] := by unfold putAt; rw [List.take_length, List.drop_length]
theorem putAt_perm (l : List Trn) (k : Nat) (t : Trn) : (putAt l k t).Perm (l ++ [t]) := by
 unfold putAt
 refine List.perm_middle.trans ?_
 rw [List.take_append_drop]
 exact (List.perm_append_singleton t l).symm
theorem putAt_at {l : List Trn} {k : Nat} (t : Trn) (h : k ≤ l.length) : (putAt l k t)[k]? = some t := by
 unfold putAt
 rw [List.getElem?_append_right (by rw [List.length_take]; omega), List.length_take, Nat.min_eq_left h, Nat.sub_self]
 rfl
theorem putAt_ahead {l : List Trn} {k : Nat} (t : Trn) (h : k + 1 ≤ l.length) : (putAt l (k + 1) t)[k]? = l[k]? := by
 unfold putAt
 rw [List.getElem?_append_left (by rw [List.length_take]; omega), List.getElem?_take]
 rw [if_pos (by omega)]
theorem putAt_swap {l : List Trn} {k : Nat} {t x : Trn} (h : l[k]? = some x) : ((putAt l (k + 1) t).set (k + 1) x).set k t = putAt l k t := by
 have hk : k < l.length := (List.getElem?_eq_some_iff.1 h).1
 have e1 : l.take (k + 1) = l.take k ++ [x] := by rw [List.take_add_one, h]; rfl
 have e2 : l.drop k = x :: l.drop (k + 1) := by rw [List.drop_eq_getElem_cons hk]; rw [List.getElem?_eq_getElem hk] at h; simp at h; rw [h]
 unfold putAt
 rw [e1, e2]
 have lk : (l.take k).length = k := by rw [List.length_take]; omega
 rw [List.append_assoc, List.set_append_right _ _ (by omega), lk, List.set_append_right _ _ (by omega), lk]
 simp
theorem putAt_sorted {l : List Trn} {k : Nat} {t : Trn} (hs : SortP l) (h1 : ∀ j x, k ≤ j → l[j]? = some x → t.1 < x.1) (h2 : ∀ x, 0 < k → l[k - 1]? = some x → x.1 ≤ t.1) (hk : k ≤ l.length) : SortP (putAt l k t) := by
 unfold putAt SortP
 have hs' : (l.take k ++ l.drop k).Pairwise (fun a b : Trn => a.1 ≤ b.1) := by rw [List.take_append_drop]; exact hs
 obtain ⟨a1, a2, a3⟩ := List.pairwise_append.1 hs'
 refine List.pairwise_append.2 ⟨a1, List.pairwise_cons.2 ⟨fun x hx => ?_, a2⟩, fun x hx y hy => ?_⟩
 ·obtain ⟨j, hj⟩ := List.mem_iff_getElem?.1 hx
  rw [List.getElem?_drop] at hj
  have := h1 (k + j) x (by omega) hj
  omega
 ·rcases List.mem_cons.1 hy with rfl | hy
  ·have hk0 : 0 < k := by
    rcases Nat.eq_zero_or_pos k with q | q
    ·rw [q] at hx; simp at hx
    ·exact q
   obtain ⟨j, hj⟩ := List.mem_iff_getElem?.1 hx
   rw [List.getElem?_take] at hj
   split at hj
   ·rename_i jk
    have hz := List.getElem?_eq_getElem (l := l) (i := k - 1) (by omega)
    have b := h2 _ hk0 hz
    rcases Nat.lt_or_ge j (k - 1) with c | c
    ·have hjl := (List.getElem?_eq_some_iff.1 hj).1
     have := List.pairwise_iff_getElem.1 hs j (k - 1) hjl (by omega) c
     have ej : l[j] = x := (List.getElem?_eq_some_iff.1 hj).2
     rw [ej] at this
     omega
    ·have : j = k - 1 := by omega
     subst this
     rw [hz] at hj
     simp at hj
     rw [← hj]; exact b
   ·cases hj
  ·exact a3 x hx y hy
theorem sortP_keys {l : List Trn} (h : SortP l) : SortedT (l.map tnOf) := List.pairwise_map.2 h
theorem yearT_take {rs : List Rl} {i : Nat} {r : Rl} (name : Tx.Bs) (y : Int) (h : rs[i]? = some r) : yearT (rs.take (i + 1)) name y = yearT (rs.take i) name y ++ (if isIn name y r = true then [trnIn y r] else []) := by
 unfold yearT
 rw [List.take_add_one, h, Option.toList_some, List.filter_append, List.map_append]
 congr 1
 rw [List.filter_cons]
 split <;> rfl
theorem yearsT_next (rs : List Rl) (name : Tx.Bs) (k : Nat) : yearsT rs name (k + 1) = yearsT rs name k ++ yearT rs name (1900 + (k : Int)) := by
 unfold yearsT
 rw [List.range_succ, List.flatMap_append]
 simp
theorem mem_years {rs : List Rl} {name : Tx.Bs} {k : Nat} {p : Trn} (hk : k ≤ 201) (h : p ∈ yearsT rs name k) : p.2 ∈ rs ∧ ∃ y : Int, 1900 ≤ y ∧ y ≤ 2100 ∧ p.1 = Cv.tgt y p.2.month p.2.kind p.2.wk p.2.n * 86400 + p.2.at_ := by
 simp only [yearsT, yearT, List.mem_flatMap, List.mem_range, List.mem_map, List.mem_filter] at h
 obtain ⟨j, hj, r, ⟨hr, _⟩, rfl⟩ := h
 exact ⟨hr, _, by omega, by omega, rfl⟩
theorem thereB_next {rs : List Rl} {i : Nat} {r : Rl} (name : Tx.Bs) (k : Nat) (h : rs[i]? = some r) : thereB rs name k (i + 1) = (thereB rs name k i || r.name == name) := by
 unfold thereB
 split
 ·rw [List.take_add_one, h, Option.toList_some, List.any_append]; simp
 ·have : rs.any (fun r => r.name == name) = (rs.any (fun r => r.name == name) || r.name == name) := by
   cases q : r.name == name
   ·simp
   ·have : rs.any (fun r => r.name == name) = true := List.any_eq_true.2 ⟨r, List.mem_of_getElem? h, q⟩
    rw [this]; rfl
  exact this
theorem thereB_year (rs : List Rl) (name : Tx.Bs) (k : Nat) : thereB rs name k rs.length = thereB rs name (k + 1) 0 := by
 unfold thereB
 rw [List.take_length]
 split <;> rfl
/- the times, one by one, out of what is in order -/
theorem timesFrom_snoc (shift : Int) (t : Tn) : ∀ (l : List Tn) (s : Int), timesFrom shift s (l ++ [t]) = timesFrom shift s l ++ [timeOf shift (prev s (l ++ [t]) l.length) t]
 | [], s => rfl
 | u :: r, s => by
   show timeOf shift s u :: timesFrom shift u.save (r ++ [t]) = timeOf shift s u :: (timesFrom shift u.save r ++ [_])
   rw [timesFrom_snoc shift t r u.save]
   congr 4
   cases r with
   | nil => rfl
   | cons v r => simp only [prev, List.length_cons, List.cons_append, List.getElem?_cons_succ]
theorem timesE_many {rs : List Rl} {name : Tx.Bs} {shift : Int} (h : 40 < rs.length) : timesE rs name shift = 2 := by
 have : srcE ⟨rs, [], []⟩ = 2 := src_many (by simp [manyB, h])
 unfold timesE
 rw [this]; rfl
theorem timesE_src {rs : List Rl} {name : Tx.Bs} {shift E : Int} (h : srcE ⟨rs, [], []⟩ = E) (h0 : E ≠ 0) : timesE rs name shift = E := by
 unfold timesE; rw [h, if_pos h0]
theorem timesE_shift {rs : List Rl} {name : Tx.Bs} {shift : Int} (h : srcE ⟨rs, [], []⟩ = 0) (h2 : inB shift (-64800) 64800 = false) : timesE rs name shift = 3 := by
 unfold timesE; rw [h, if_neg (by simp), if_pos h2]
theorem srcE_rules {rs : List Rl} (h : ¬ 40 < rs.length) : srcE ⟨rs, [], []⟩ = orE (firstE ruleE (rs.drop 0)) (orE 0 0) := by
 unfold srcE
 rw [if_neg (by simp [manyB]; omega)]; rfl
theorem rules_ok {rs : List Rl} (h : srcE ⟨rs, [], []⟩ = 0) : ∀ r ∈ rs, RuleOk r := by
 intro r hr
 unfold srcE at h
 split at h
 ·omega
 ·unfold orE at h
  split at h
  ·rename_i q; exact absurd h q
  ·rename_i q
   simp at q
   exact rule_ok (firstE_zero ruleE q r hr)
/- what is in order, and what it comes to -/
theorem apart_of : ∀ (l : List Tn) (p : Int), (∀ a, l[0]? = some a → 172800 ≤ a.stands - p) → (∀ (j : Nat) a b, l[j]? = some a → l[j + 1]? = some b → 172800 ≤ b.stands - a.stands) → apartFrom p l = true
 | [], _, _, _ => rfl
 | u :: r, p, h0, h => by
   have h1 := h0 u rfl
   show (decide (172800 ≤ u.stands - p) && apartFrom u.stands r) = true
   rw [decide_eq_true h1, apart_of r u.stands (fun a ha => h 0 u a rfl (by simpa using ha)) fun j a b ha hb => h (j + 1) a b (by simpa using ha) (by simpa using hb)]
   rfl
theorem apart_is {l : List Tn} (h : ∀ (j : Nat) a b, l[j]? = some a → l[j + 1]? = some b → 172800 ≤ b.stands - a.stands) : apart l = true := by
 cases l with
 | nil => rfl
 | cons u r => exact apart_of r u.stands (fun a ha => h 0 u a rfl (by simpa using ha)) fun j a b ha hb => h (j + 1) a b (by simpa using ha) (by simpa using hb)
structure InOrder (rs : List Rl) (name : Tx.Bs) (P : List Trn) : Prop where
 perm : (P.map tnOf).Perm (turnsOf rs name)
 sorted : SortedT (P.map tnOf)
theorem timesE_order {rs : List Rl} {name : Tx.Bs} {shift : Int} {P : List Trn} (h : srcE ⟨rs, [], []⟩ = 0) (h2 : inB shift (-64800) 64800 = true) (hp : InOrder rs name P) :
  timesE rs name shift = if (rs.any fun r => r.name == name) = false then 5 else if apart (P.map tnOf) = false then 4 else if 1000 < P.length then 2 else 0 := by
 obtain ⟨o1, _⟩ := ordered hp.perm hp.sorted
 have hl : (turnsOf rs name).length = P.length := by rw [← hp.perm.length_eq, List.length_map]
 unfold timesE
 rw [h, if_neg (by simp), if_neg (by simp [h2]), years_there name (rules_ok h), ← o1, hl]
 cases (rs.any fun r => r.name == name) <;> simp
theorem times_order {rs : List Rl} {name : Tx.Bs} {shift : Int} {P : List Trn} (hp : InOrder rs name P) (ha : apart (P.map tnOf) = true) (h0 : timesE rs name shift = 0) : times rs name shift = timesFrom shift 0 (P.map tnOf) := by
 obtain ⟨_, o2⟩ := ordered hp.perm hp.sorted
 unfold times
 rw [if_pos h0, o2 ha]
end Sx
section
open Go.RowKit

theorem bcell {W w1 : World} (hb : Below W.heap.size W w1) : (∀ b o, b < W.heap.size → w1.cell? ⟨b, o, none⟩ = W.cell? ⟨b, o, none⟩) ∧ (∀ b o, b < W.heap.size → w1.frozen? ⟨b, o, none⟩ = W.frozen? ⟨b, o, none⟩) :=
 ⟨fun b o h => hb.cell (p := ⟨b, o, none⟩) h, fun b o h => hb.frozen (p := ⟨b, o, none⟩) h⟩
theorem hid {p : Prop} (h : p) : Hid p := h
theorem ret_int {k : IntKind} {a b : Int} (h : a = b) : Ending.returned (.int k a) = .returned (.int k b) := by rw [h]
theorem ret_bool {a b : Bool} (h : a = b) : Ending.returned (.bool a) = .returned (.bool b) := by rw [h]

theorem u8_eq (c : UInt8) (k : UInt8) : ((c.toNat : Int) == (k.toNat : Int)) = (c == k) := by
 rw [Bool.eq_iff_iff]; simp
 constructor
 ·intro h; exact UInt8.toNat_inj.1 (by omega)
 ·intro h; rw [h]
theorem gap_eq (c : UInt8) : Tx.gap c = (((c.toNat : Int) == 32) || ((c.toNat : Int) == 9)) := by
 have a := u8_eq c 32
 have b := u8_eq c 9
 simp only [Tx.gap]
 rw [← a, ← b]; rfl
theorem txt_eq (c : UInt8) : Tx.txt c = (decide ((32 : Int) ≤ (c.toNat : Int) ∧ (c.toNat : Int) ≤ 126) || ((c.toNat : Int) == 9)) := by
 have b := u8_eq c 9
 simp only [Tx.txt]
 have e : decide (32 ≤ c.toNat ∧ c.toNat ≤ 126) = decide ((32 : Int) ≤ (c.toNat : Int) ∧ (c.toNat : Int) ≤ 126) := decide_eq_decide.2 (by omega)
 rw [← b, e]; rfl

abbrev strV (l : List UInt8) : Value := .string ⟨l.toArray⟩
theorem drop_cons (s : ByteArray) (k : Nat) (h : k < s.size) : s.data.toList.drop k = s[k] :: s.data.toList.drop (k + 1) := by
 rw [List.drop_eq_getElem_cons (by simpa using h)]; rfl
theorem drop_end (s : ByteArray) (k : Nat) (h : s.size ≤ k) : s.data.toList.drop k = [] := List.drop_eq_nil_of_le (by simpa using h)
theorem drop_lt (s : ByteArray) (k : Nat) : (s.data.toList.drop k).length < s.size + 1 := by simp; omega
theorem bytes_ext {a b : ByteArray} (h : a.data.toList = b.data.toList) : a = b := by
 obtain ⟨⟨x⟩⟩ := a; obtain ⟨⟨y⟩⟩ := b; simp at h; rw [h]
theorem data_app (a b : ByteArray) : (a ++ b).data.toList = a.data.toList ++ b.data.toList := by simp
theorem str_snoc (acc : List UInt8) (s : ByteArray) (i : Nat) (h : i < s.size) : (⟨acc.toArray⟩ : ByteArray) ++ s.extract i (i + 1) = ⟨(acc ++ [s[i]]).toArray⟩ := by
 apply bytes_ext
 rw [data_app, Lib.extract_data, drop_cons s i h, show i + 1 - i = 1 by omega]
 simp

theorem owns_shape {w : World} {B : Nat} {e : TypeId} {z : Nat} {v : Value} {n : Nat} {xs : List Value} (h : w.ownsRow B e z v (n + 1) xs) : ∃ g cap, v = .slice (some ⟨g, 0, none⟩) (n + 1) cap := by
 rcases h.2 with ⟨_, h0⟩ | ⟨g, cap, cur, rfl, _⟩
 ·omega
 ·exact ⟨g, cap, rfl⟩
theorem owns_shape0 {w : World} {B : Nat} {e : TypeId} {z : Nat} {v : Value} {n : Nat} {xs : List Value} (h : w.ownsRow B e z v n xs) : ∃ a cap, v = .slice a n cap := by
 rcases h.2 with ⟨rfl, rfl⟩ | ⟨g, cap, cur, rfl, _⟩
 ·exact ⟨_, _, rfl⟩
 ·exact ⟨_, cap, rfl⟩
theorem one_cell (w : World) (u : Value) {e : TypeId} : ∀ (j : Nat) (x : Value), [u][j]? = some x → (w.alloc (.cells #[u] e)).cell? ((⟨w.heap.size, 0, none⟩ : Addr).add j) = some x := by
 intro j x hj
 match j, hj with
 | 0, hj => simp at hj; subst hj; simp [Addr.add]
theorem below_grown {W w' : World} (h : Below W.heap.size W w') : W.grownBy w' none := ⟨h.os, h.tape, h.output, h.size, fun k hk _ => h.block k hk⟩
theorem owns_below {W w' : World} {B : Nat} {e : TypeId} {z : Nat} {v : Value} {n : Nat} {xs : List Value} (h : W.ownsRow B e z v n xs) (hb : Below W.heap.size W w') : w'.ownsRow B e z v n xs :=
 h.kept (below_grown hb) (by cases v.ownBlock <;> simp)
theorem owns_base {w : World} {B B' : Nat} {e : TypeId} {z : Nat} {v : Value} {n : Nat} {xs : List Value} (h : w.ownsRow B e z v n xs) (hB : B' ≤ B) : w.ownsRow B' e z v n xs := by
 refine ⟨h.1, ?_⟩
 rcases h.2 with hn | ⟨g, cap, cur, rfl, hb, rest⟩
 ·exact .inl hn
 ·exact .inr ⟨g, cap, cur, rfl, by omega, rest⟩
theorem owns_ne {w : World} {B B' : Nat} {e e' : TypeId} {z z' : Nat} {v v' : Value} {n n' : Nat} {xs xs' : List Value} (h : w.ownsRow B e z v n xs) (h' : w.ownsRow B' e' z' v' n' xs') (hne : e ≠ e') : v.ownBlock = none ∨ v.ownBlock ≠ v'.ownBlock := by
 rcases h.2 with ⟨rfl, _⟩ | ⟨g, cap, cur, rfl, _, hg, _⟩
 ·exact .inl rfl
 ·right
  rcases h'.2 with ⟨rfl, _⟩ | ⟨g', cap', cur', rfl, _, hg', _⟩
  ·simp [Value.ownBlock]
  ·simp [Value.ownBlock]
   rintro rfl
   rw [hg] at hg'
   simp at hg'
   exact hne hg'.2
theorem owns_cell {w : World} {B : Nat} {e : TypeId} {z : Nat} {g n cap : Nat} {a : Addr} {xs : List Value} (h : w.ownsRow B e z (.slice (some a) n cap) n xs) : a.off = 0 ∧ a.spot = none ∧ B ≤ a.block ∧ a.block < w.heap.size ∧ ∀ j u, xs[j]? = some u → w.cell? ⟨a.block, j, none⟩ = some u := by
 rcases h.2 with ⟨h0, _⟩ | ⟨g, cap, cur, h1, hb, hg, hc, hm, hs, ht⟩
 ·cases h0
 ·simp at h1
  obtain ⟨rfl, rfl⟩ := h1
  refine ⟨rfl, rfl, hb, (Array.getElem?_eq_some_iff.1 hg).1, ?_⟩
  intro j u hj
  rw [← ht] at hj
  have hlt : j < n * z := by
   have := (List.getElem?_eq_some_iff.1 hj).1
   simp at this; omega
  rw [List.getElem?_take_of_lt hlt] at hj
  simp [World.cell?, hg]
  simpa using hj

def Rd {α : Type} (z : Nat) (cells : α → List Value) (w : World) (v : Value) (xs : List α) : Prop :=
 ∃ a cap, v = .slice a xs.length cap ∧ (xs ≠ [] → ∃ b o, a = some ⟨b, o, none⟩ ∧ b < w.heap.size ∧ ∀ i x, xs[i]? = some x → ∀ k u, (cells x)[k]? = some u → w.cell? ⟨b, o + i * z + k, none⟩ = some u)
section
variable {α : Type} {z : Nat} {cells : α → List Value} {W w' w : World} {v : Value} {xs : List α}
theorem rd_below (h : Rd z cells W v xs) (hb : Below W.heap.size W w') : Rd z cells w' v xs := by
 obtain ⟨a, cap, h1, h2⟩ := h
 refine ⟨a, cap, h1, fun hn => ?_⟩
 obtain ⟨b, o, h3, h4, h5⟩ := h2 hn
 exact ⟨b, o, h3, Nat.lt_of_lt_of_le h4 hb.size, fun i x hx k u hu => (hb.cell (p := ⟨b, o + i * z + k, none⟩) h4).trans (h5 i x hx k u hu)⟩
theorem rd_nil : Rd z cells w (.slice none 0 0) [] := ⟨none, 0, rfl, fun h => absurd rfl h⟩
theorem rd_shape (h : Rd z cells w v xs) : ∃ a cap, v = .slice a xs.length cap := by
 obtain ⟨a, cap, h1, _⟩ := h
 exact ⟨a, cap, h1⟩
theorem flat_get (cells : α → List Value) (hz : ∀ x, (cells x).length = z) : ∀ (xs : List α) (i : Nat) (x : α), xs[i]? = some x → ∀ (k : Nat) (u : Value), (cells x)[k]? = some u → (xs.flatMap cells)[i * z + k]? = some u
 | [], i, x, h, k, u, _ => by simp at h
 | y :: ys, 0, x, h, k, u, hu => by
   simp at h; subst h
   have : k < (cells y).length := (List.getElem?_eq_some_iff.1 hu).1
   simp [List.getElem?_append_left this, hu]
 | y :: ys, i + 1, x, h, k, u, hu => by
   have := flat_get cells hz ys i x (by simpa using h) k u hu
   rw [List.flatMap_cons, show (i + 1) * z + k = (cells y).length + (i * z + k) by rw [hz, Nat.add_mul]; omega, List.getElem?_append_right (by omega)]
   simpa using this
theorem own_rd {B : Nat} {e : TypeId} (hz : ∀ x, (cells x).length = z) (h : w.ownsRow B e z v xs.length (xs.flatMap cells)) : Rd z cells w v xs := by
 obtain ⟨a, cap, rfl⟩ := owns_shape0 h
 refine ⟨a, cap, rfl, fun hn => ?_⟩
 cases a with
 | none =>
   rcases h.2 with ⟨_, h0⟩ | ⟨g, c, cur, h1, _⟩
   ·exact absurd (List.length_eq_zero_iff.1 h0) hn
   ·simp at h1
 | some a =>
   obtain ⟨h1, h2, h3, h4, h5⟩ := owns_cell (g := 0) h
   obtain ⟨ab, ao, ap⟩ := a
   simp at h1 h2 h4 h5
   subst h1 h2
   refine ⟨ab, 0, rfl, h4, fun i x hx k u hu => ?_⟩
   have := h5 _ _ (flat_get cells hz xs i x hx k u hu)
   simpa using this
end

theorem take_snoc (s : ByteArray) (k : Nat) (h : k < s.size) : s.data.toList.take (k + 1) = s.data.toList.take k ++ [s[k]] := by
 rw [List.take_succ_eq_append_getElem (by simpa using h)]; rfl
theorem all_snoc (s : ByteArray) (p : UInt8 → Bool) (k : Nat) (h : k < s.size) (ha : (s.data.toList.take k).all p = true) (hc : p s[k] = true) : (s.data.toList.take (k + 1)).all p = true := by
 rw [take_snoc s k h, List.all_append, ha]; simp [hc]
theorem all_no (s : ByteArray) (p : UInt8 → Bool) (k : Nat) (h : k < s.size) (hc : p s[k] = false) : s.data.toList.all p = false := by
 rw [List.all_eq_false]
 exact ⟨s[k], by simp [ByteArray.getElem_eq_getElem_data], by simp [hc]⟩
theorem all_end (s : ByteArray) (p : UInt8 → Bool) (k : Nat) (h : s.size ≤ k) (ha : (s.data.toList.take k).all p = true) : s.data.toList.all p = true := by
 rwa [List.take_of_length_le (by simpa using h)] at ha
theorem ne_u8 {c k : UInt8} {b : Bool} (h : (c == k) = b) : ((c.toNat : Int) != (k.toNat : Int)) = !b := by
 rw [bne, u8_eq, h]
theorem size_len (s : ByteArray) : s.data.toList.length = s.size := by simp
theorem isEmpty_size (s : ByteArray) : s.toList.isEmpty = decide (s.size = 0) := by
 rw [Lib.toList_data, ← size_len]; cases s.data.toList <;> simp

theorem tmod7 (n : Int) : (n.tmod 7 + 7 + 4) % 7 = (n + 4) % 7 ∧ -6 ≤ n.tmod 7 ∧ n.tmod 7 ≤ 6 := by
 rcases Int.le_total 0 n with h | h
 ·rw [Int.tmod_eq_emod_of_nonneg h]; omega
 ·have e : n.tmod 7 = -((-n) % 7) := by
   have : n = -(-n) := by omega
   rw [this, Int.neg_tmod, Int.tmod_eq_emod_of_nonneg (by omega)]; simp
  rw [e]; omega
/- the cells of a block, from its first on -/
def CellsAt (w : World) (X : Nat) (vs : List Value) : Prop := X < w.heap.size ∧ ∀ k v, vs[k]? = some v → w.cell? ⟨X, k, none⟩ = some v ∧ w.frozen? ⟨X, k, none⟩ = false
section
variable {w w1 : World} {X : Nat} {vs : List Value}
theorem ca_new (w : World) (vs : List Value) (t : TypeId) : CellsAt (w.alloc (.cells vs.toArray t)) w.heap.size vs := by
 refine ⟨by simp, fun k v h => ?_⟩
 have hk : k < vs.length := (List.getElem?_eq_some_iff.1 h).1
 constructor
 ·have e : (w.alloc (.cells vs.toArray t)).heap[w.heap.size]? = some (.cells vs.toArray t) := heap_alloc_new _ _
  simp only [World.cell?, e]
  simpa using h
 ·simp [go_sem]
theorem ca_block (h : CellsAt w X vs) (hs : X < w1.heap.size) (hk : w1.heap[X]? = w.heap[X]?) : CellsAt w1 X vs := by
 refine ⟨hs, fun k v q => ?_⟩
 obtain ⟨a, b⟩ := h.2 k v q
 exact ⟨by rw [World.cell?_of_block (w := w) hk]; exact a, by rw [World.frozen?_of_block (w := w) hk]; exact b⟩
theorem ca_grown {r : Nat} (h : CellsAt w X vs) (hg : w.grownBy w1 (some r)) (hn : ¬ X = r) : CellsAt w1 X vs := ca_block h (Nat.lt_of_lt_of_le h.1 hg.size) (hg.block X h.1 (by simpa using hn))
theorem ca_below (h : CellsAt w X vs) (hb : Below w.heap.size w w1) : CellsAt w1 X vs := ca_block h (Nat.lt_of_lt_of_le h.1 hb.size) (hb.block X h.1)
theorem ca_alloc (h : CellsAt w X vs) (o : Obj) : CellsAt (w.alloc o) X vs := ca_block h (by have := h.1; simp; omega) (Below.heap_alloc _ _ _ h.1)
theorem ca_far (h : CellsAt w X vs) {q o : Nat} {u : Value} (hX : ¬ X = q) : CellsAt (w.setCell ⟨q, o, none⟩ u) X vs := ca_block h (by simpa using h.1) (Below.heap_setCell _ _ _ _ hX)
theorem ca_put (h : CellsAt w X vs) (k : Nat) (u : Value) (hk : k < vs.length) : CellsAt (w.setCell ⟨X, k, none⟩ u) X (vs.set k u) := by
 refine ⟨by simpa using h.1, fun j v q => ?_⟩
 by_cases e : j = k
 ·subst e
  rw [List.getElem?_set_self hk] at q
  obtain ⟨a, b⟩ := h.2 j _ (List.getElem?_eq_getElem hk)
  simp at q; subst q
  have := h.1
  exact ⟨by simp [go_sem, a, this], by simp [go_sem, b, this]⟩
 ·rw [List.getElem?_set_ne (Ne.symm e)] at q
  obtain ⟨a, b⟩ := h.2 j v q
  have := h.1
  have e' : ¬ k = j := fun q => e q.symm
  exact ⟨by simp [go_sem, a, this, e, e'], by simp [go_sem, b, this, e, e']⟩
theorem ca_at (h : CellsAt w X vs) (k : Nat) {v : Value} (q : vs[k]? = some v) : w.cell? ⟨X, k, none⟩ = some v ∧ w.frozen? ⟨X, k, none⟩ = false := h.2 k v q
end
theorem ca_grownO {w w1 : World} {X : Nat} {vs : List Value} {row : Option Nat} (h : CellsAt w X vs) (hg : w.grownBy w1 row) (hn : ∀ k, row = some k → k ≠ X) : CellsAt w1 X vs := ca_block h (Nat.lt_of_lt_of_le h.1 hg.size) (hg.block X h.1 (by intro q; exact hn X q.symm rfl))
/- a write into a block of one's own -/
theorem below_set {B : Nat} {a w : World} (h : Below B a w) {q o : Nat} (hq : B ≤ q) (u : Value) : Below B a (w.setCell ⟨q, o, none⟩ u) :=
 ⟨by rw [← h.os]; rfl, by rw [← h.tape]; rfl, by rw [← h.output]; rfl, by simpa using h.size, fun k hk => by rw [Below.heap_setCell _ _ _ _ (show k ≠ q by omega)]; exact h.block k hk⟩
end
section
open Go.RowKit

def ruleCells (r : Sx.Rl) : List Value := [strV r.name, .int .i64 r.frm, .int .i64 r.to, .int .i64 r.month, .int .i64 r.kind, .int .i64 r.wk, .int .i64 r.n, .int .i64 r.at_, .int .i64 r.clock, .int .i64 r.save, strV r.letter]
def eraCells (x : Sx.Er) : List Value := [.int .i64 x.shift, strV x.rules, .int .i64 x.save, strV x.format, .bool x.opn, .int .i64 x.uy, .int .i64 x.um, .int .i64 x.ud, .int .i64 x.uat, .int .i64 x.uclock]
def linkCells (l : Sx.Lk) : List Value := [strV l.to, strV l.name]
def zoneCells (p : Tx.Bs × Value) : List Value := [strV p.1, p.2]
abbrev ruleV (r : Sx.Rl) : Value := .agg #[strV r.name, .int .i64 r.frm, .int .i64 r.to, .int .i64 r.month, .int .i64 r.kind, .int .i64 r.wk, .int .i64 r.n, .int .i64 r.at_, .int .i64 r.clock, .int .i64 r.save, strV r.letter]
abbrev eraV (x : Sx.Er) : Value := .agg #[.int .i64 x.shift, strV x.rules, .int .i64 x.save, strV x.format, .bool x.opn, .int .i64 x.uy, .int .i64 x.um, .int .i64 x.ud, .int .i64 x.uat, .int .i64 x.uclock]
abbrev linkV (l : Sx.Lk) : Value := .agg #[strV l.to, strV l.name]

def RdRules := Rd 11 ruleCells
def RdEras := Rd 10 eraCells
def RdLinks := Rd 2 linkCells
def RdZones (w : World) (v : Value) (zs : List Sx.Zn) : Prop :=
 ∃ vs : List Value, vs.length = zs.length ∧ Rd 2 zoneCells w v ((zs.zip vs).map fun p => (p.1.name, p.2)) ∧ ∀ (i : Nat) (ev : Value) (x : Sx.Zn), vs[i]? = some ev → zs[i]? = some x → RdEras w ev x.eras
structure RdSrc (w : World) (r z l : Value) (s : Sx.Sr) : Prop where
 rules : RdRules w r s.rules
 zones : RdZones w z s.zones
 links : RdLinks w l s.links
theorem rdZones_below {W w' : World} {v : Value} {zs : List Sx.Zn} (h : RdZones W v zs) (hb : Below W.heap.size W w') : RdZones w' v zs := by
 obtain ⟨vs, h1, h2, h3⟩ := h
 exact ⟨vs, h1, rd_below h2 hb, fun i ev x a b => rd_below (h3 i ev x a b) hb⟩
theorem ruleCells_len (r : Sx.Rl) : (ruleCells r).length = 11 := rfl
theorem eraCells_len (r : Sx.Er) : (eraCells r).length = 10 := rfl
theorem linkCells_len (r : Sx.Lk) : (linkCells r).length = 2 := rfl
theorem zoneCells_len (r : Tx.Bs × Value) : (zoneCells r).length = 2 := rfl
theorem rdZones_shape {w : World} {v : Value} {zs : List Sx.Zn} (h : RdZones w v zs) : ∃ a cap, v = .slice a zs.length cap := by
 obtain ⟨vs, h1, h2, _⟩ := h
 obtain ⟨a, cap, h⟩ := rd_shape h2
 exact ⟨a, cap, by rw [h]; simp [h1]⟩

/- element by element, as the walk reads them -/
section
variable {w : World} {b o i : Nat}
theorem rd_rule {r : Sx.Rl} (h : ∀ k u, (ruleCells r)[k]? = some u → w.cell? ⟨b, o + i * 11 + k, none⟩ = some u) :
  w.cell? ⟨b, o + i * 11, none⟩ = some (strV r.name) ∧ w.cell? ⟨b, o + i * 11 + 1, none⟩ = some (.int .i64 r.frm) ∧ w.cell? ⟨b, o + i * 11 + 2, none⟩ = some (.int .i64 r.to) ∧ w.cell? ⟨b, o + i * 11 + 3, none⟩ = some (.int .i64 r.month) ∧ w.cell? ⟨b, o + i * 11 + 4, none⟩ = some (.int .i64 r.kind) ∧ w.cell? ⟨b, o + i * 11 + 5, none⟩ = some (.int .i64 r.wk) ∧ w.cell? ⟨b, o + i * 11 + 6, none⟩ = some (.int .i64 r.n) ∧ w.cell? ⟨b, o + i * 11 + 7, none⟩ = some (.int .i64 r.at_) ∧ w.cell? ⟨b, o + i * 11 + 8, none⟩ = some (.int .i64 r.clock) ∧ w.cell? ⟨b, o + i * 11 + 9, none⟩ = some (.int .i64 r.save) ∧ w.cell? ⟨b, o + i * 11 + 10, none⟩ = some (strV r.letter) :=
 ⟨h 0 _ rfl, h 1 _ rfl, h 2 _ rfl, h 3 _ rfl, h 4 _ rfl, h 5 _ rfl, h 6 _ rfl, h 7 _ rfl, h 8 _ rfl, h 9 _ rfl, h 10 _ rfl⟩
theorem rd_era {x : Sx.Er} (h : ∀ k u, (eraCells x)[k]? = some u → w.cell? ⟨b, o + i * 10 + k, none⟩ = some u) :
  w.cell? ⟨b, o + i * 10, none⟩ = some (.int .i64 x.shift) ∧ w.cell? ⟨b, o + i * 10 + 1, none⟩ = some (strV x.rules) ∧ w.cell? ⟨b, o + i * 10 + 2, none⟩ = some (.int .i64 x.save) ∧ w.cell? ⟨b, o + i * 10 + 3, none⟩ = some (strV x.format) ∧ w.cell? ⟨b, o + i * 10 + 4, none⟩ = some (.bool x.opn) ∧ w.cell? ⟨b, o + i * 10 + 5, none⟩ = some (.int .i64 x.uy) ∧ w.cell? ⟨b, o + i * 10 + 6, none⟩ = some (.int .i64 x.um) ∧ w.cell? ⟨b, o + i * 10 + 7, none⟩ = some (.int .i64 x.ud) ∧ w.cell? ⟨b, o + i * 10 + 8, none⟩ = some (.int .i64 x.uat) ∧ w.cell? ⟨b, o + i * 10 + 9, none⟩ = some (.int .i64 x.uclock) :=
 ⟨h 0 _ rfl, h 1 _ rfl, h 2 _ rfl, h 3 _ rfl, h 4 _ rfl, h 5 _ rfl, h 6 _ rfl, h 7 _ rfl, h 8 _ rfl, h 9 _ rfl⟩
theorem rd_link {l : Sx.Lk} (h : ∀ k u, (linkCells l)[k]? = some u → w.cell? ⟨b, o + i * 2 + k, none⟩ = some u) :
  w.cell? ⟨b, o + i * 2, none⟩ = some (strV l.to) ∧ w.cell? ⟨b, o + i * 2 + 1, none⟩ = some (strV l.name) := ⟨h 0 _ rfl, h 1 _ rfl⟩
end
/- a zone of a list of zones -/
theorem rd_zone {w : World} {v : Value} {zs : List Sx.Zn} (h : RdZones w v zs) (hn : zs ≠ []) : ∃ b o cap, v = .slice (some ⟨b, o, none⟩) zs.length cap ∧ b < w.heap.size ∧ ∀ i x, zs[i]? = some x → w.cell? ⟨b, o + i * 2, none⟩ = some (strV x.name) ∧ ∃ ev, w.cell? ⟨b, o + i * 2 + 1, none⟩ = some ev ∧ RdEras w ev x.eras := by
 obtain ⟨vs, h1, ⟨a, cap, e, h2⟩, h3⟩ := h
 have hlen : ((zs.zip vs).map fun p => (p.1.name, p.2)).length = zs.length := by simp [h1]
 obtain ⟨b, o, rfl, hb, hc⟩ := h2 (by intro q; rw [← List.length_eq_zero_iff, hlen] at q; exact hn (List.length_eq_zero_iff.1 q))
 refine ⟨b, o, cap, by rw [e, hlen], hb, fun i x hx => ?_⟩
 have hi : i < vs.length := by rw [h1]; exact (List.getElem?_eq_some_iff.1 hx).1
 have hv : vs[i]? = some vs[i] := List.getElem?_eq_getElem hi
 have hg : ((zs.zip vs).map fun p => (p.1.name, p.2))[i]? = some (x.name, vs[i]) := by
  simp [List.getElem?_map, List.getElem?_zip_eq_some, hx, hv]
 exact ⟨hc i _ hg 0 _ rfl, vs[i], hc i _ hg 1 _ rfl, h3 i _ x hv hx⟩
end
section
open Go.RowKit

theorem between_any (n a b : Int) (w : World) :
  Calls Tryz.prog 77 #[.int .i64 n, .int .i64 a, .int .i64 b] w fun e w' => e = .returned (.bool (decide (a ≤ n ∧ n ≤ b))) ∧ w' = w := by
 by_cases h1 : a ≤ n <;> by_cases h2 : n ≤ b
 all_goals
  go_enter Tryz.func77, Tryz.ntmps77
  go_wp2
  go_ret
  exact ⟨ret_bool (by simp [h1, h2]), rfl⟩

end
section
open Go.RowKit

theorem let_eq (c : UInt8) : Sx.letB c = (decide ((97 : Int) ≤ (c.toNat : Int) ∧ (c.toNat : Int) ≤ 122) || decide ((65 : Int) ≤ (c.toNat : Int) ∧ (c.toNat : Int) ≤ 90)) := by
 simp only [Sx.letB]
 have e1 : decide (97 ≤ c.toNat ∧ c.toNat ≤ 122) = decide ((97 : Int) ≤ (c.toNat : Int) ∧ (c.toNat : Int) ≤ 122) := decide_eq_decide.2 (by omega)
 have e2 : decide (65 ≤ c.toNat ∧ c.toNat ≤ 90) = decide ((65 : Int) ≤ (c.toNat : Int) ∧ (c.toNat : Int) ≤ 90) := decide_eq_decide.2 (by omega)
 rw [e1, e2]
theorem dig_eq (c : UInt8) : Sx.digB c = decide ((48 : Int) ≤ (c.toNat : Int) ∧ (c.toNat : Int) ≤ 57) := by
 simp only [Sx.digB]
 exact decide_eq_decide.2 (by omega)
theorem between_is (n a b : Int) (w : World) {r : Bool} (h : decide (a ≤ n ∧ n ≤ b) = r) :
  Calls Tryz.prog 77 #[.int .i64 n, .int .i64 a, .int .i64 b] w fun e w' => e = .returned (.bool r) ∧ w' = w := by
 subst h; exact between_any n a b w

theorem rLetter_any (c : UInt8) (w : World) :
  Calls Tryz.prog 165 #[.int .u8 (c.toNat : Int)] w fun e w' => e = .returned (.bool (Sx.letB c)) ∧ w' = w := by
 have hh : Hid (Sx.letB c = (decide ((97 : Int) ≤ (c.toNat : Int) ∧ (c.toNat : Int) ≤ 122) || decide ((65 : Int) ≤ (c.toNat : Int) ∧ (c.toNat : Int) ≤ 90))) := let_eq c
 have hb : (c.toNat : Int) < 256 := by have := c.toNat_lt; omega
 have hb0 : 0 ≤ (c.toNat : Int) := by omega
 generalize (c.toNat : Int) = n at *
 by_cases h1 : 97 ≤ n ∧ n ≤ 122 <;> by_cases h2 : 65 ≤ n ∧ n ≤ 90
 all_goals
  go_enter Tryz.func165, Tryz.ntmps165
  go_wp2_with (go_at_call 77; refine (between_any _ _ _ _).mono ?_; rintro e w1 ⟨rfl, rfl⟩; simp only [h1, h2])
  go_ret
  exact ⟨ret_bool (by rw [hh.out]; simp [h1, h2]), rfl⟩
theorem rLetter_is (c : UInt8) (w : World) {b : Bool} (h : Sx.letB c = b) :
  Calls Tryz.prog 165 #[.int .u8 (c.toNat : Int)] w fun e w' => e = .returned (.bool b) ∧ w' = w := by subst h; exact rLetter_any c w
theorem rDigit_any (c : UInt8) (w : World) :
  Calls Tryz.prog 166 #[.int .u8 (c.toNat : Int)] w fun e w' => e = .returned (.bool (Sx.digB c)) ∧ w' = w := by
 have hh : Hid (Sx.digB c = decide ((48 : Int) ≤ (c.toNat : Int) ∧ (c.toNat : Int) ≤ 57)) := dig_eq c
 have hb : (c.toNat : Int) < 256 := by have := c.toNat_lt; omega
 have hb0 : 0 ≤ (c.toNat : Int) := by omega
 generalize (c.toNat : Int) = n at *
 by_cases h1 : 48 ≤ n ∧ n ≤ 57
 all_goals
  go_enter Tryz.func166, Tryz.ntmps166
  go_wp2_with (go_at_call 77; refine (between_any _ _ _ _).mono ?_; rintro e w1 ⟨rfl, rfl⟩; simp only [h1])
  go_ret
  exact ⟨ret_bool (by rw [hh.out]; simp [h1]), rfl⟩
theorem rDigit_is (c : UInt8) (w : World) {b : Bool} (h : Sx.digB c = b) :
  Calls Tryz.prog 166 #[.int .u8 (c.toNat : Int)] w fun e w' => e = .returned (.bool b) ∧ w' = w := by subst h; exact rDigit_any c w
end
section
open Go.RowKit

theorem nameB_first (s : ByteArray) (h : 0 < s.size) : Sx.headL s.data.toList = Sx.letB s[0] := by
 have := drop_cons s 0 h
 simp at this; rw [this]; rfl
theorem isName_any (s : ByteArray) (w : World) :
  Calls Tryz.prog 120 #[.string s] w fun e w' => e = .returned (.bool (Sx.nameB s.data.toList)) ∧ w' = w := by
 obtain ⟨G, hG⟩ : ∃ G, Sx.nameB s.data.toList = G := ⟨_, rfl⟩
 rw [hG]
 have HG : Hid (G = (Sx.headL s.data.toList && decide (s.size ≤ 24) && s.data.toList.all Sx.nameC)) := by show _ = _; rw [← hG, ← size_len]; rfl
 clear hG
 by_cases h0 : s.size = 0
 ·have he : s.data.toList = [] := by rw [← List.length_eq_zero_iff]; simpa using h0
  have hG : G = false := by rw [HG.out, he]; rfl
  have he' : s.toList.isEmpty = true := by rw [isEmpty_size]; simp [h0]
  subst hG
  clear he
  go_enter Tryz.func120, Tryz.ntmps120
  go_wp2_with fail
  go_ret
  exact ⟨rfl, rfl⟩
 have he : s.toList.isEmpty = false := by rw [isEmpty_size]; simp [h0]
 have hp : 0 < s.size := by omega
 clear h0
 by_cases h24 : 24 < s.size
 ·have hG : G = false := by rw [HG.out]; simp; omega
  subst hG
  go_enter Tryz.func120, Tryz.ntmps120
  go_wp2_with fail
  go_ret
  exact ⟨rfl, rfl⟩
 have h24' : s.size ≤ 24 := by omega
 clear h24
 have HF := hid (nameB_first s hp)
 cases hl : Sx.letB s[0]
 ·have hG : G = false := by rw [HG.out, HF.out, hl]; rfl
  have HL := hid hl
  subst hG
  clear hl
  go_enter Tryz.func120, Tryz.ntmps120
  go_wp2_with (go_at_call 165; refine (rLetter_is _ _ HL.out).mono ?_; rintro e w1 ⟨rfl, rfl⟩)
  go_ret
  exact ⟨rfl, rfl⟩
 have HL := hid hl
 have HG2 : Hid (G = s.data.toList.all Sx.nameC) := by show _ = _; rw [HG.out, HF.out, hl]; simp [h24']
 clear hl HG HF
 go_enter Tryz.func120, Tryz.ntmps120
 go_wp2_with (go_at_call 165; refine (rLetter_is _ _ HL.out).mono ?_; rintro e w1 ⟨rfl, rfl⟩)
 go_loop [3] (fun a => ∃ k : Nat, k ≤ s.size ∧ a = .int .i64 k ∧ Hid ((s.data.toList.take k).all Sx.nameC = true)) (fun a => s.size - (intOf a).toNat)
 case atStart => exact ⟨0, by omega, rfl, by show _ = _; simp⟩
 case round =>
  obtain ⟨k, hk, rfl, HA⟩ := hrel
  clear HL
  by_cases hlt : k < s.size
  ·obtain ⟨c, hc⟩ : ∃ c, s[k] = c := ⟨_, rfl⟩
   have HN : Hid (Sx.nameC c = (Sx.letB c || Sx.digB c || c == 95 || c == 45 || c == 47 || c == 43)) := rfl
   have HC := hid hc
   cases h1 : Sx.letB c
   case true =>
    have H1 := hid h1
    clear h1
    go_wp2_with (go_at_call 165; refine (rLetter_is _ _ H1.out).mono ?_; rintro e w1 ⟨rfl, rfl⟩)
    go_round
    case rel => exact ⟨k + 1, by omega, by go_num, all_snoc s _ k hlt HA.out (by rw [HC.out, HN.out, H1.out]; rfl)⟩
    case measure => simp [intOf]; omega
   case false =>
    have H1 := hid h1
    clear h1
    cases h2 : Sx.digB c
    case true =>
     have H2 := hid h2
     clear h2
     go_wp2_with (first | (go_at_call 165; refine (rLetter_is _ _ H1.out).mono ?_; rintro e w1 ⟨rfl, rfl⟩) | (go_at_call 166; refine (rDigit_is _ _ H2.out).mono ?_; rintro e w1 ⟨rfl, rfl⟩))
     go_round
     case rel => exact ⟨k + 1, by omega, by go_num, all_snoc s _ k hlt HA.out (by rw [HC.out, HN.out, H1.out, H2.out]; rfl)⟩
     case measure => simp [intOf]; omega
    case false =>
     have H2 := hid h2
     clear h2
     cases h3 : (c == 95)
     case true =>
      have e3 : ((c.toNat : Int) != 95) = false := ne_u8 h3
      have H3 := hid h3
      clear h3
      go_wp2_with (first | (go_at_call 165; refine (rLetter_is _ _ H1.out).mono ?_; rintro e w1 ⟨rfl, rfl⟩) | (go_at_call 166; refine (rDigit_is _ _ H2.out).mono ?_; rintro e w1 ⟨rfl, rfl⟩))
      go_round
      case rel => exact ⟨k + 1, by omega, by go_num, all_snoc s _ k hlt HA.out (by rw [HC.out, HN.out, H1.out, H2.out, H3.out]; simp)⟩
      case measure => simp [intOf]; omega
     case false =>
      have e3 : ((c.toNat : Int) != 95) = true := ne_u8 h3
      have H3 := hid h3
      clear h3
      cases h4 : (c == 45)
      case true =>
       have e4 : ((c.toNat : Int) != 45) = false := ne_u8 h4
       have H4 := hid h4
       clear h4
       go_wp2_with (first | (go_at_call 165; refine (rLetter_is _ _ H1.out).mono ?_; rintro e w1 ⟨rfl, rfl⟩) | (go_at_call 166; refine (rDigit_is _ _ H2.out).mono ?_; rintro e w1 ⟨rfl, rfl⟩))
       go_round
       case rel => exact ⟨k + 1, by omega, by go_num, all_snoc s _ k hlt HA.out (by rw [HC.out, HN.out, H1.out, H2.out, H3.out, H4.out]; simp)⟩
       case measure => simp [intOf]; omega
      case false =>
       have e4 : ((c.toNat : Int) != 45) = true := ne_u8 h4
       have H4 := hid h4
       clear h4
       cases h5 : (c == 47)
       case true =>
        have e5 : ((c.toNat : Int) != 47) = false := ne_u8 h5
        have H5 := hid h5
        clear h5
        go_wp2_with (first | (go_at_call 165; refine (rLetter_is _ _ H1.out).mono ?_; rintro e w1 ⟨rfl, rfl⟩) | (go_at_call 166; refine (rDigit_is _ _ H2.out).mono ?_; rintro e w1 ⟨rfl, rfl⟩))
        go_round
        case rel => exact ⟨k + 1, by omega, by go_num, all_snoc s _ k hlt HA.out (by rw [HC.out, HN.out, H1.out, H2.out, H3.out, H4.out, H5.out]; simp)⟩
        case measure => simp [intOf]; omega
       case false =>
        have e5 : ((c.toNat : Int) != 47) = true := ne_u8 h5
        have H5 := hid h5
        clear h5
        cases h6 : (c == 43)
        case true =>
         have e6 : ((c.toNat : Int) != 43) = false := ne_u8 h6
         have H6 := hid h6
         clear h6
         go_wp2_with (first | (go_at_call 165; refine (rLetter_is _ _ H1.out).mono ?_; rintro e w1 ⟨rfl, rfl⟩) | (go_at_call 166; refine (rDigit_is _ _ H2.out).mono ?_; rintro e w1 ⟨rfl, rfl⟩))
         go_round
         case rel => exact ⟨k + 1, by omega, by go_num, all_snoc s _ k hlt HA.out (by rw [HC.out, HN.out, H1.out, H2.out, H3.out, H4.out, H5.out, H6.out]; simp)⟩
         case measure => simp [intOf]; omega
        case false =>
         have e6 : ((c.toNat : Int) != 43) = true := ne_u8 h6
         have H6 := hid h6
         clear h6
         go_wp2_with (first | (go_at_call 165; refine (rLetter_is _ _ H1.out).mono ?_; rintro e w1 ⟨rfl, rfl⟩) | (go_at_call 166; refine (rDigit_is _ _ H2.out).mono ?_; rintro e w1 ⟨rfl, rfl⟩))
         go_ret
         exact ⟨ret_bool (by rw [HG2.out]; exact (all_no s _ k hlt (by rw [HC.out, HN.out, H1.out, H2.out, H3.out, H4.out, H5.out, H6.out]; rfl)).symm), rfl⟩
  ·go_wp2
   go_ret
   exact ⟨ret_bool (by rw [HG2.out]; exact (all_end s _ k (by omega) HA.out).symm), rfl⟩
end
section
open Go.RowKit

theorem rLetters_any (s : ByteArray) (w : World) (hs : s.size ≤ maxLen) :
  Calls Tryz.prog 164 #[.string s] w fun e w' => e = .returned (.bool (Sx.lettersB s.data.toList)) ∧ w' = w := by
 unfold maxLen at hs
 have HG : Hid (Sx.lettersB s.data.toList = (s.data.toList.all Sx.letB && decide (s.size ≤ 24))) := by show _ = _; rw [Sx.lettersB, size_len]
 go_enter Tryz.func164, Tryz.ntmps164
 go_wp2_with fail
 go_loop [3] (fun a => ∃ k : Nat, k ≤ s.size ∧ a = .int .i64 k ∧ Hid ((s.data.toList.take k).all Sx.letB = true)) (fun a => s.size - (intOf a).toNat)
 case atStart => exact ⟨0, by omega, rfl, by show _ = _; simp⟩
 case round =>
  obtain ⟨k, hk, rfl, HA⟩ := hrel
  by_cases hlt : k < s.size
  ·cases h1 : Sx.letB s[k]
   all_goals
    have H1 := hid h1
    clear h1
    go_wp2_with (go_at_call 165; refine (rLetter_is _ _ H1.out).mono ?_; rintro e w1 ⟨rfl, rfl⟩)
   ·go_ret
    exact ⟨ret_bool (by rw [HG.out, all_no s _ k hlt H1.out]; rfl), rfl⟩
   ·go_round
    case rel => exact ⟨k + 1, by omega, by go_num, all_snoc s _ k hlt HA.out H1.out⟩
    case measure => simp [intOf]; omega
  ·by_cases h24 : s.size ≤ 24
   all_goals
    go_wp2
    go_ret
    exact ⟨ret_bool (by rw [HG.out, all_end s _ k (by omega) HA.out]; simp [h24]; try omega), rfl⟩
theorem rLetters_is (s : ByteArray) (w : World) (hs : s.size ≤ maxLen) {b : Bool} (h : Sx.lettersB s.data.toList = b) :
  Calls Tryz.prog 164 #[.string s] w fun e w' => e = .returned (.bool b) ∧ w' = w := by subst h; exact rLetters_any s w hs
theorem isName_is (s : ByteArray) (w : World) {b : Bool} (h : Sx.nameB s.data.toList = b) :
  Calls Tryz.prog 120 #[.string s] w fun e w' => e = .returned (.bool b) ∧ w' = w := by subst h; exact isName_any s w

/- IsPlain is asked of one sign alone -/
theorem isPlain1_any (s : ByteArray) (c : UInt8) (w : World) (hs : s.size = 1) (hc : s.data.toList = [c]) :
  Calls Tryz.prog 138 #[.string s] w fun e w' => e = .returned (.bool (Sx.plainC c)) ∧ w' = w := by
 have h0 : s[0] = c := by
  have := drop_cons s 0 (by omega)
  simp [hc] at this; exact this.symm
 have HP : Hid (Sx.plainC c = (Sx.letB c || Sx.digB c || c == 43 || c == 45)) := rfl
 clear hc
 go_enter Tryz.func138, Tryz.ntmps138
 go_wp2_with fail
 go_loop [3] (fun a => ∃ k : Nat, k ≤ 1 ∧ a = .int .i64 k ∧ Hid (k = 1 → Sx.plainC c = true)) (fun a => 1 - (intOf a).toNat)
 case atStart => exact ⟨0, by omega, rfl, by intro q; cases q⟩
 case round =>
  obtain ⟨k, hk, rfl, HA⟩ := hrel
  by_cases hlt : k = 0
  ·subst hlt
   cases h1 : Sx.letB c
   case true =>
    have H1 := hid h1
    clear h1
    go_wp2_with (go_at_call 165; refine (rLetter_is _ _ H1.out).mono ?_; rintro e w1 ⟨rfl, rfl⟩)
    go_round
    case rel => exact ⟨1, by omega, by go_num, fun _ => by rw [HP.out, H1.out]; rfl⟩
    case measure => simp [intOf]
   case false =>
    have H1 := hid h1
    clear h1
    cases h2 : Sx.digB c
    case true =>
     have H2 := hid h2
     clear h2
     go_wp2_with (first | (go_at_call 165; refine (rLetter_is _ _ H1.out).mono ?_; rintro e w1 ⟨rfl, rfl⟩) | (go_at_call 166; refine (rDigit_is _ _ H2.out).mono ?_; rintro e w1 ⟨rfl, rfl⟩))
     go_round
     case rel => exact ⟨1, by omega, by go_num, fun _ => by rw [HP.out, H1.out, H2.out]; rfl⟩
     case measure => simp [intOf]
    case false =>
     have H2 := hid h2
     clear h2
     cases h3 : (c == 43)
     case true =>
      have e3 : ((c.toNat : Int) != 43) = false := ne_u8 h3
      have H3 := hid h3
      clear h3
      go_wp2_with (first | (go_at_call 165; refine (rLetter_is _ _ H1.out).mono ?_; rintro e w1 ⟨rfl, rfl⟩) | (go_at_call 166; refine (rDigit_is _ _ H2.out).mono ?_; rintro e w1 ⟨rfl, rfl⟩))
      go_round
      case rel => exact ⟨1, by omega, by go_num, fun _ => by rw [HP.out, H1.out, H2.out, H3.out]; rfl⟩
      case measure => simp [intOf]
     case false =>
      have e3 : ((c.toNat : Int) != 43) = true := ne_u8 h3
      have H3 := hid h3
      clear h3
      cases h4 : (c == 45)
      case true =>
       have e4 : ((c.toNat : Int) != 45) = false := ne_u8 h4
       have H4 := hid h4
       clear h4
       go_wp2_with (first | (go_at_call 165; refine (rLetter_is _ _ H1.out).mono ?_; rintro e w1 ⟨rfl, rfl⟩) | (go_at_call 166; refine (rDigit_is _ _ H2.out).mono ?_; rintro e w1 ⟨rfl, rfl⟩))
       go_round
       case rel => exact ⟨1, by omega, by go_num, fun _ => by rw [HP.out, H1.out, H2.out, H3.out, H4.out]; rfl⟩
       case measure => simp [intOf]
      case false =>
       have e4 : ((c.toNat : Int) != 45) = true := ne_u8 h4
       have H4 := hid h4
       clear h4
       go_wp2_with (first | (go_at_call 165; refine (rLetter_is _ _ H1.out).mono ?_; rintro e w1 ⟨rfl, rfl⟩) | (go_at_call 166; refine (rDigit_is _ _ H2.out).mono ?_; rintro e w1 ⟨rfl, rfl⟩))
       go_ret
       exact ⟨ret_bool (by rw [HP.out, H1.out, H2.out, H3.out, H4.out]; rfl), rfl⟩
  ·have hk1 : k = 1 := by omega
   subst hk1
   go_wp2
   go_ret
   exact ⟨ret_bool (HA.out trivial).symm, rfl⟩
theorem isPlain1_is (s : ByteArray) (c : UInt8) (w : World) (hs : s.size = 1) (hc : s.data.toList = [c]) {b : Bool} (h : Sx.plainC c = b) :
  Calls Tryz.prog 138 #[.string s] w fun e w' => e = .returned (.bool b) ∧ w' = w := by subst h; exact isPlain1_any s c w hs hc

/- threes -/
theorem th_short (s : Tx.Bs) (k : Nat) (l : Tx.Bs) (h : l.length < 3) : Sx.th s k l = -1 := by
 match l, h with
 | [], _ => rfl
 | [a], _ => rfl
 | [a, b], _ => rfl
theorem th_step (s : Tx.Bs) (k : Nat) (l : Tx.Bs) (h : 3 ≤ l.length) : Sx.th s k l = if l.take 3 = s then (k : Int) else Sx.th s (k + 1) (l.drop 3) := by
 match l, h with
 | a :: b :: c :: r, _ => simp [Sx.th]
theorem th_len (s : Tx.Bs) (hs : s.length ≠ 3) : ∀ (n k : Nat) (l : Tx.Bs), l.length ≤ n → Sx.th s k l = -1
 | 0, k, l, h => th_short s k l (by omega)
 | n + 1, k, l, h => by
   by_cases h3 : l.length < 3
   ·exact th_short s k l h3
   ·rw [th_step s k l (by omega), if_neg (by intro q; apply hs; rw [← q]; simp; omega)]
    exact th_len s hs n (k + 1) (l.drop 3) (by simp; omega)
theorem th_bd (s : Tx.Bs) : ∀ (n k : Nat) (l : Tx.Bs), l.length ≤ n → -1 ≤ Sx.th s k l ∧ Sx.th s k l ≤ k + n
 | 0, k, l, h => by rw [th_short s k l (by omega)]; omega
 | n + 1, k, l, h => by
   by_cases h3 : l.length < 3
   ·rw [th_short s k l h3]; omega
   ·rw [th_step s k l (by omega)]
    have := th_bd s n (k + 1) (l.drop 3) (by simp; omega)
    split <;> omega
theorem extract3 (all : ByteArray) (i : Nat) : (all.extract i (i + 3)).data.toList = (all.data.toList.drop i).take 3 := by
 rw [Lib.extract_data, show i + 3 - i = 3 by omega]

theorem threes_any (all s : ByteArray) (w : World) (ha : all.size ≤ 100) (hs : s.size ≤ maxLen) :
  Calls Tryz.prog 208 #[.string all, .string s] w fun e w' => e = .returned (.int .i64 (Sx.th s.data.toList 0 all.data.toList)) ∧ w' = w := by
 unfold maxLen at hs
 obtain ⟨G, hG⟩ : ∃ G, Sx.th s.data.toList 0 all.data.toList = G := ⟨_, rfl⟩
 rw [hG]
 have HG := hid hG
 clear hG
 go_enter Tryz.func208, Tryz.ntmps208
 go_wp2_with fail
 go_loop [5] (fun a => ∃ k : Nat, 3 * k ≤ all.size ∧ a = .int .i64 ((3 * k : Nat) : Int) ∧ Hid (Sx.th s.data.toList k (all.data.toList.drop (3 * k)) = G)) (fun a => all.size - (intOf a).toNat)
 case atStart => exact ⟨0, by omega, rfl, by show _ = _; simpa using HG.out⟩
 case round =>
  obtain ⟨k, hk, rfl, HA⟩ := hrel
  clear HG
  by_cases h3 : 3 * k + 3 ≤ all.size
  ·by_cases hl : s.size = 3
   ·have ST := hid (th_step s.data.toList k (all.data.toList.drop (3 * k)) (by simp; omega))
    by_cases he : (all.data.toList.drop (3 * k)).take 3 = s.data.toList
    ·have hq : ((all.extract (3 * k) (3 * k + 3)).toList == s.toList) = true := by
      rw [Lib.toList_data, Lib.toList_data, extract3, he]; simp
     have HR : Hid ((k : Int) = G) := by show _ = _; rw [← HA.out, ST.out, if_pos he]
     clear he HA ST
     go_wp2
     go_ret
     exact ⟨ret_int (by rw [← HR.out]), rfl⟩
    ·have hq : ((all.extract (3 * k) (3 * k + 3)).toList == s.toList) = false := by
      rw [Lib.toList_data, Lib.toList_data, extract3]; simpa using he
     have HR : Hid (Sx.th s.data.toList (k + 1) (all.data.toList.drop (3 * (k + 1))) = G) := by
      show _ = _; rw [← HA.out, ST.out, if_neg he, List.drop_drop]; rfl
     clear he HA ST
     go_wp2
     go_round
     case rel => exact ⟨k + 1, by omega, by go_num, HR⟩
     case measure => simp [intOf]; try omega
   ·have HR : Hid (G = -1) := by show _ = _; rw [← HA.out]; exact th_len _ (by simpa using hl) _ _ _ (Nat.le_refl _)
    have hl' : ((s.size : Int) == 3) = false := by simp; omega
    clear HA hl
    go_wp2
    go_ret
    exact ⟨ret_int HR.out.symm, rfl⟩
  ·have HR : Hid (G = -1) := by show _ = _; rw [← HA.out]; exact th_short _ _ _ (by simp; omega)
   clear HA
   go_wp2
   go_ret
   exact ⟨ret_int HR.out.symm, rfl⟩
end
section
open Go.RowKit

def addM (m : Nat) (o : Option Nat) : Option Nat := o.map (· + m)
theorem addM_zero (o : Option Nat) : addM 0 o = o := by cases o <;> simp [addM]
theorem fmt_slash_no (f : Bool) (r : Tx.Bs) (h : f = true ∨ r = []) : Sx.fmtM f (47 :: r) = none := by simp only [Sx.fmtM, if_true]; rw [if_pos h]
theorem fmt_slash (f : Bool) (r : Tx.Bs) (m : Nat) (h : ¬ (f = true ∨ r = [])) : addM m (Sx.fmtM f (47 :: r)) = addM (m + 1) (Sx.fmtM false r) := by
 simp only [Sx.fmtM, if_true]; rw [if_neg h]; cases Sx.fmtM false r <;> simp [addM]; omega
theorem fmt_mark_no (f : Bool) (r : Tx.Bs) (h : r.head? ≠ some 115) : Sx.fmtM f (37 :: r) = none := by simp only [Sx.fmtM]; rw [if_neg (by decide), if_pos trivial, if_neg h]
theorem fmt_mark (f : Bool) (r : Tx.Bs) (m : Nat) (h : r.head? = some 115) : addM m (Sx.fmtM f (37 :: r)) = addM (m + 1) (Sx.fmtM false r) := by
 simp only [Sx.fmtM]; rw [if_neg (by decide), if_pos trivial, if_pos h]; cases Sx.fmtM false r <;> simp [addM]; omega
theorem fmt_plain (f : Bool) (c : UInt8) (r : Tx.Bs) (h1 : c ≠ 47) (h2 : c ≠ 37) (h : Sx.plainC c = true) : Sx.fmtM f (c :: r) = Sx.fmtM false r := by
 simp only [Sx.fmtM]; rw [if_neg h1, if_neg h2, if_pos h]
theorem fmt_other (f : Bool) (c : UInt8) (r : Tx.Bs) (h1 : c ≠ 47) (h2 : c ≠ 37) (h : Sx.plainC c = false) : Sx.fmtM f (c :: r) = none := by
 simp only [Sx.fmtM]; rw [if_neg h1, if_neg h2, if_neg (by simp [h])]
theorem extract1 (s : ByteArray) (i : Nat) (h : i < s.size) : (s.extract i (i + 1)).data.toList = [s[i]] := by
 rw [Lib.extract_data, show i + 1 - i = 1 by omega, drop_cons s i h]; rfl
theorem extract1_size (s : ByteArray) (i : Nat) (h : i < s.size) : (s.extract i (i + 1)).size = 1 := by
 rw [← size_len, extract1 s i h]; rfl
theorem format_no (s : Tx.Bs) (h : Sx.fmtM true s = none) : Sx.formatB s = false := by simp [Sx.formatB, h, Sx.few]

theorem isFormat_any (s : ByteArray) (w : World) (hs : s.size ≤ maxLen) :
  Calls Tryz.prog 167 #[.string s] w fun e w' => e = .returned (.bool (Sx.formatB s.data.toList)) ∧ w' = w := by
 unfold maxLen at hs
 obtain ⟨G, hG⟩ : ∃ G, Sx.formatB s.data.toList = G := ⟨_, rfl⟩
 rw [hG]
 have NO : Hid (Sx.fmtM true s.data.toList = none → false = G) := by intro h; rw [← hG, format_no _ h]
 have HG : Hid ((!s.data.toList.isEmpty && decide (s.size ≤ 24) && Sx.few (Sx.fmtM true s.data.toList)) = G) := by show _ = _; rw [← hG, ← size_len]; rfl
 clear hG
 go_enter Tryz.func167, Tryz.ntmps167
 go_wp2_with fail
 go_loop [3, 4] (fun m a => ∃ k j : Nat, k ≤ s.size ∧ j ≤ k ∧ m = .int .i64 j ∧ a = .int .i64 k ∧ Hid (addM j (Sx.fmtM (decide (k = 0)) (s.data.toList.drop k)) = Sx.fmtM true s.data.toList)) (fun _ a => s.size - (intOf a).toNat)
 case atStart => exact ⟨0, 0, by omega, by omega, rfl, rfl, by show _ = _; rw [addM_zero]; rfl⟩
 case round =>
  obtain ⟨k, j, hk, hj, rfl, rfl, HA⟩ := hrel
  by_cases hlt : k < s.size
  ·obtain ⟨c, hc⟩ : ∃ c, s[k] = c := ⟨_, rfl⟩
   have HA1 : Hid (addM j (Sx.fmtM (decide (k = 0)) (c :: s.data.toList.drop (k + 1))) = Sx.fmtM true s.data.toList) := by
    show _ = _; rw [← HA.out, drop_cons s k hlt, hc]
   have HX := hid (extract1 s k hlt)
   rw [hc] at HX
   have hx1 := extract1_size s k hlt
   clear HA
   by_cases c47 : c = 47
   ·have e47 : ((c.toNat : Int) == 47) = true := by rw [c47]; rfl
    have HC := hid c47
    clear c47
    by_cases hz : k = 0
    ·have N2 := hid (NO.out (by rw [← HA1.out, HC.out, fmt_slash_no _ _ (.inl (by simp [hz]))]; rfl))
     subst hz
     clear HA1
     go_wp2
     go_ret
     exact ⟨ret_bool N2.out, rfl⟩
    ·by_cases hl : k + 1 = s.size
     ·have N2 := hid (NO.out (by rw [← HA1.out, HC.out, fmt_slash_no _ _ (.inr (drop_end s _ (by omega)))]; rfl))
      have e1 : ((k : Int) == 0) = false := by simp; omega
      have e2 : ((k : Int) == (s.size : Int) - 1) = true := by simp; omega
      clear HA1 hz hl
      go_wp2
      go_ret
      exact ⟨ret_bool N2.out, rfl⟩
     ·have HR : Hid (addM (j + 1) (Sx.fmtM (decide (k + 1 = 0)) (s.data.toList.drop (k + 1))) = Sx.fmtM true s.data.toList) := by
       show _ = _
       rw [← HA1.out, HC.out, fmt_slash _ _ _ (by
        rintro (q | q)
        ·simp at q; exact hz q
        ·have := congrArg List.length q; simp at this; omega)]
       rw [show decide (k + 1 = 0) = false by simp]
      have e1 : ((k : Int) == 0) = false := by simp; omega
      have e2 : ((k : Int) == (s.size : Int) - 1) = false := by simp; omega
      clear HA1 hz
      go_wp2
      go_round
      case rel => exact ⟨k + 1, j + 1, by omega, by omega, by go_num, by go_num, HR⟩
      case measure => simp [intOf]; omega
   have C47 := hid c47
   have e47 : ((c.toNat : Int) == 47) = false := by have := u8_eq c 47; simp at this; simp [this, c47]
   clear c47
   by_cases c37 : c = 37
   ·have e37 : ((c.toNat : Int) == 37) = true := by rw [c37]; rfl
    have HC := hid c37
    clear c37
    by_cases hl : k + 1 = s.size
    ·have N2 := hid (NO.out (by rw [← HA1.out, HC.out, fmt_mark_no _ _ (by rw [drop_end s _ (by omega)]; simp)]; rfl))
     have e2 : ((k : Int) == (s.size : Int) - 1) = true := by simp; omega
     clear HA1 hl
     go_wp2
     go_ret
     exact ⟨ret_bool N2.out, rfl⟩
    ·have hn : k + 1 < s.size := by omega
     have e2 : ((k : Int) == (s.size : Int) - 1) = false := by simp; omega
     obtain ⟨d, hd⟩ : ∃ d, s[k + 1] = d := ⟨_, rfl⟩
     have HD : Hid ((s.data.toList.drop (k + 1)).head? = some d) := by show _ = _; rw [drop_cons s (k + 1) hn, hd]; rfl
     by_cases d115 : d = 115
     ·have e3 : ((d.toNat : Int) != 115) = false := by rw [d115]; rfl
      have HR : Hid (addM (j + 1) (Sx.fmtM (decide (k + 1 = 0)) (s.data.toList.drop (k + 1))) = Sx.fmtM true s.data.toList) := by
       show _ = _
       rw [← HA1.out, HC.out, fmt_mark _ _ _ (by rw [HD.out, d115])]
       rw [show decide (k + 1 = 0) = false by simp]
      clear HA1 d115
      go_wp2
      go_round
      case rel => exact ⟨k + 1, j + 1, by omega, by omega, by go_num, by go_num, HR⟩
      case measure => simp [intOf]; omega
     ·have e3 : ((d.toNat : Int) != 115) = true := by have := u8_eq d 115; simp at this; simp [bne, this, d115]
      have N2 := hid (NO.out (by rw [← HA1.out, HC.out, fmt_mark_no _ _ (by rw [HD.out]; simpa using d115)]; rfl))
      clear HA1 d115
      go_wp2
      go_ret
      exact ⟨ret_bool N2.out, rfl⟩
   have C37 := hid c37
   have e37 : ((c.toNat : Int) == 37) = false := by have := u8_eq c 37; simp at this; simp [this, c37]
   clear c37
   cases hp : Sx.plainC c
   ·have N2 := hid (NO.out (by rw [← HA1.out, fmt_other _ _ _ C47.out C37.out hp]; rfl))
    have HP := hid hp
    clear HA1 hp
    go_wp2_with (go_at_call 138; refine (isPlain1_is _ c _ hx1 HX.out HP.out).mono ?_; rintro e w1 ⟨rfl, rfl⟩)
    go_ret
    exact ⟨ret_bool N2.out, rfl⟩
   ·have HR : Hid (addM j (Sx.fmtM (decide (k + 1 = 0)) (s.data.toList.drop (k + 1))) = Sx.fmtM true s.data.toList) := by
     show _ = _
     rw [← HA1.out, fmt_plain _ _ _ C47.out C37.out hp]
     rw [show decide (k + 1 = 0) = false by simp]
    have HP := hid hp
    clear HA1 hp
    go_wp2_with (go_at_call 138; refine (isPlain1_is _ c _ hx1 HX.out HP.out).mono ?_; rintro e w1 ⟨rfl, rfl⟩)
    go_round
    case rel => exact ⟨k + 1, j, by omega, by omega, rfl, by go_num, HR⟩
    case measure => simp [intOf]; omega
  ·have HE : Hid ((!s.data.toList.isEmpty && decide (s.size ≤ 24) && decide (j ≤ 1)) = G) := by
    show _ = _; rw [← HG.out, ← HA.out, drop_end s k (by omega)]; simp [Sx.fmtM, addM, Sx.few]
   have hE : s.toList.isEmpty = s.data.toList.isEmpty := by rw [Lib.toList_data]
   cases he : s.data.toList.isEmpty
   ·rw [he] at hE
    have HE2 := hid he
    clear he HA
    by_cases h24 : s.size ≤ 24 <;> by_cases h1 : j ≤ 1
    all_goals
     go_wp2
     go_ret
     exact ⟨ret_bool (by rw [← HE.out, HE2.out]; simp [h24, h1]; try omega), rfl⟩
   ·rw [he] at hE
    have HE2 := hid he
    clear he HA
    go_wp2
    go_ret
    exact ⟨ret_bool (by rw [← HE.out, HE2.out]; rfl), rfl⟩
theorem isFormat_is (s : ByteArray) (w : World) (hs : s.size ≤ maxLen) {b : Bool} (h : Sx.formatB s.data.toList = b) :
  Calls Tryz.prog 167 #[.string s] w fun e w' => e = .returned (.bool b) ∧ w' = w := by subst h; exact isFormat_any s w hs
end
section
open Go.RowKit

namespace Sx
/- what is left of the fields; none: it has failed -/
abbrev O := Option (List Tx.Bs)
def nxS : O → Tx.Bs
 | some (f :: _) => f
 | _ => []
def nxO : O → O
 | some (_ :: r) => some r
 | _ => none
def keep (b : Bool) (o : O) : O := if b = true then o else none
theorem keep_none (b : Bool) : keep b none = none := by cases b <;> rfl
end Sx

structure TkS (w : World) (b lim : Nat) (bad : Bool) (fs : List Tx.Bs) : Prop where
 lt : b < lim
 le : lim ≤ w.heap.size
 c0 : ∃ a cap, w.cell? ⟨b, 0, none⟩ = some (.slice a fs.length cap) ∧ fs.length ≤ cap ∧ (fs ≠ [] → ∃ g o, a = some ⟨g, o, none⟩ ∧ g < lim ∧ g ≠ b ∧ ∀ i f, fs[i]? = some f → w.cell? ⟨g, o + i, none⟩ = some (strV f))
 c1 : w.cell? ⟨b, 1, none⟩ = some (.bool bad)
 z0 : w.frozen? ⟨b, 0, none⟩ = false
 z1 : w.frozen? ⟨b, 1, none⟩ = false
 few : fs.length ≤ 12
 short : ∀ f ∈ fs, f.length ≤ 24
def TkR (w : World) (b lim : Nat) : Sx.O → Prop
 | none => ∃ fs, TkS w b lim true fs
 | some fs => TkS w b lim false fs
structure TkO (w : World) (b lim : Nat) (o : Sx.O) : Prop where
 out : TkR w b lim o
theorem tkO_lt {w : World} {b lim : Nat} {o : Sx.O} (h : TkO w b lim o) : b < w.heap.size := by
 cases o with
 | none => obtain ⟨fs, h⟩ := h.out; exact Nat.lt_of_lt_of_le h.lt h.le
 | some fs => exact Nat.lt_of_lt_of_le (TkS.lt h.out) (TkS.le h.out)
theorem nxS_len {w : World} {b lim : Nat} {o : Sx.O} (h : TkO w b lim o) : (Sx.nxS o).length ≤ 24 := by
 match o, h with
 | none, _ => simp [Sx.nxS]
 | some [], _ => simp [Sx.nxS]
 | some (f :: r), h => exact TkS.short h.out f (by simp)

/- worlds that differ in one block alone -/
section
variable {w w1 w2 : World} {b lim : Nat}
theorem gb_alloc (h : w.grownBy w1 (some b)) (o : Obj) : w.grownBy (w1.alloc o) (some b) :=
 ⟨h.os, h.tape, h.output, by have := h.size; simp; omega, fun k hk hn => by rw [Below.heap_alloc _ _ _ (by have := h.size; omega)]; exact h.block k hk hn⟩
theorem gb_set (h : w.grownBy w1 (some b)) {p : Addr} (hp : p.block = b ∨ w.heap.size ≤ p.block) (u : Value) : w.grownBy (w1.setCell p u) (some b) :=
 ⟨h.os, h.tape, h.output, by have := h.size; simp; omega, fun k hk hn => by
  rw [Below.heap_setCell _ _ _ _ (by
   intro q
   rcases hp with hp | hp
   ·exact hn (by rw [q, hp])
   ·omega)]
  exact h.block k hk hn⟩
theorem gb_drewN (h : w.grownBy w1 (some b)) (n : Nat) : w.grownBy (w1.drewN n) (some b) := by
 have e : (w1.drewN n).heap = w1.heap := by simp
 exact ⟨by rw [← h.os]; simp [World.drewN], by rw [← h.tape]; simp [World.drewN], by rw [← h.output]; simp [World.drewN], by rw [e]; exact h.size, fun k hk hn => by rw [e]; exact h.block k hk hn⟩
theorem gb_refl (w : World) (b : Nat) : w.grownBy w (some b) := World.grownBy.refl _ _
theorem gb_trans (h : w.grownBy w1 (some b)) (k : w1.grownBy w2 (some b)) : w.grownBy w2 (some b) := h.trans k
theorem gb_below (h : w.grownBy w1 (some b)) (k : Below w1.heap.size w1 w2) : w.grownBy w2 (some b) :=
 ⟨k.os.trans h.os, k.tape.trans h.tape, k.output.trans h.output, Nat.le_trans h.size k.size, fun i hi hn => by rw [k.block i (by have := h.size; omega)]; exact h.block i hi hn⟩
theorem tkS_far {bad : Bool} {fs : List Tx.Bs} {r : Nat} (h : TkS w b lim bad fs) (hg : ∀ k, k < w.heap.size → w1.heap[k]? = w.heap[k]?) (hs : w.heap.size ≤ w1.heap.size) : TkS w1 b lim bad fs := by
 obtain ⟨lt', le, ⟨a, cap, c0, hc, hr⟩, c1, z0, z1, few, short⟩ := h
 have lt := Nat.lt_of_lt_of_le lt' le
 refine ⟨lt', by omega, ⟨a, cap, ?_, hc, ?_⟩, ?_, ?_, ?_, few, short⟩
 ·rw [World.cell?_of_block (w := w) (hg b lt)]; exact c0
 ·intro hn
  obtain ⟨g, o, e, hl, hne, hcell⟩ := hr hn
  exact ⟨g, o, e, hl, hne, fun i f hf => by rw [World.cell?_of_block (w := w) (hg g (by omega))]; exact hcell i f hf⟩
 ·rw [World.cell?_of_block (w := w) (hg b lt)]; exact c1
 ·rw [World.frozen?_of_block (w := w) (hg b lt)]; exact z0
 ·rw [World.frozen?_of_block (w := w) (hg b lt)]; exact z1
theorem tkO_far {o : Sx.O} (h : TkO w b lim o) (hg : ∀ k, k < w.heap.size → w1.heap[k]? = w.heap[k]?) (hs : w.heap.size ≤ w1.heap.size) : TkO w1 b lim o := by
 cases o with
 | none => obtain ⟨fs, h⟩ := h.out; exact ⟨fs, tkS_far (r := 0) h hg hs⟩
 | some fs => exact ⟨tkS_far (r := 0) h.out hg hs⟩
theorem tkO_below {o : Sx.O} (h : TkO w b lim o) (k : Below w.heap.size w w1) : TkO w1 b lim o := tkO_far h (fun i hi => k.block i hi) k.size
theorem tkO_alloc {o : Sx.O} (h : TkO w b lim o) (x : Obj) : TkO (w.alloc x) b lim o := tkO_far h (fun i hi => Below.heap_alloc _ _ _ hi) (by simp)
theorem tkO_drewN {o : Sx.O} (h : TkO w b lim o) (n : Nat) : TkO (w.drewN n) b lim o := tkO_far h (fun i hi => by simp) (by simp)
/- a cell of another block is written -/
theorem tkS_bad {bad : Bool} {fs : List Tx.Bs} (h : TkS w b lim bad fs) : TkS (w.setCell ⟨b, 1, none⟩ (.bool true)) b lim true fs := by
 obtain ⟨lt', le, ⟨a, cap, c0, hc, hr⟩, c1, z0, z1, few, short⟩ := h
 have lt := Nat.lt_of_lt_of_le lt' le
 refine ⟨lt', by simpa using le, ⟨a, cap, by simp [go_sem, c0, lt], hc, ?_⟩, by simp [go_sem, c1, lt], by simp [go_sem, z0, lt], by simp [go_sem, z1, lt], few, short⟩
 intro hn
 obtain ⟨g, o, e, hl, hne, hcell⟩ := hr hn
 exact ⟨g, o, e, hl, hne, fun i f hf => by rw [World.cell?_of_block (w := w) (Below.heap_setCell _ _ _ _ hne)]; exact hcell i f hf⟩
theorem tkO_bad {o : Sx.O} (h : TkO w b lim o) : TkO (w.setCell ⟨b, 1, none⟩ (.bool true)) b lim none := by
 cases o with
 | none => obtain ⟨fs, h⟩ := h.out; exact ⟨fs, tkS_bad h⟩
 | some fs => exact ⟨fs, tkS_bad h.out⟩
theorem tkS_set {bad : Bool} {fs : List Tx.Bs} (h : TkS w b lim bad fs) {p : Addr} (hp : lim ≤ p.block) (u : Value) : TkS (w.setCell p u) b lim bad fs := by
 obtain ⟨lt', le, ⟨a, cap, c0, hc, hr⟩, c1, z0, z1, few, short⟩ := h
 have hk : ∀ k, k < lim → (w.setCell p u).heap[k]? = w.heap[k]? := fun k hk => Below.heap_setCell _ _ _ _ (by omega)
 refine ⟨lt', by simpa using le, ⟨a, cap, ?_, hc, ?_⟩, ?_, ?_, ?_, few, short⟩
 ·rw [World.cell?_of_block (w := w) (hk b lt')]; exact c0
 ·intro hn
  obtain ⟨g, o, e, hl, hne, hcell⟩ := hr hn
  exact ⟨g, o, e, hl, hne, fun i f hf => by rw [World.cell?_of_block (w := w) (hk g hl)]; exact hcell i f hf⟩
 ·rw [World.cell?_of_block (w := w) (hk b lt')]; exact c1
 ·rw [World.frozen?_of_block (w := w) (hk b lt')]; exact z0
 ·rw [World.frozen?_of_block (w := w) (hk b lt')]; exact z1
theorem tkO_set {o : Sx.O} (h : TkO w b lim o) {p : Addr} (hp : lim ≤ p.block) (u : Value) : TkO (w.setCell p u) b lim o := by
 cases o with
 | none => obtain ⟨fs, h⟩ := h.out; exact ⟨fs, tkS_set h hp u⟩
 | some fs => exact ⟨tkS_set h.out hp u⟩
theorem tkO_le {o : Sx.O} (h : TkO w b lim o) : b < lim ∧ lim ≤ w.heap.size := by
 cases o with
 | none => obtain ⟨fs, h⟩ := h.out; exact ⟨h.lt, h.le⟩
 | some fs => exact ⟨TkS.lt h.out, TkS.le h.out⟩
theorem gcell (h : w.grownBy w1 (some b)) : (∀ x o, x < w.heap.size → ¬ x = b → w1.cell? ⟨x, o, none⟩ = w.cell? ⟨x, o, none⟩) ∧ (∀ x o, x < w.heap.size → ¬ x = b → w1.frozen? ⟨x, o, none⟩ = w.frozen? ⟨x, o, none⟩) :=
 ⟨fun x o hx hn => World.cell?_of_block (w := w) (a := ⟨x, o, none⟩) (h.block x hx (by simpa using hn)), fun x o hx hn => World.frozen?_of_block (w := w) (a := ⟨x, o, none⟩) (h.block x hx (by simpa using hn))⟩
end

theorem next_any {lim : Nat} (b : Nat) (o : Sx.O) (w : World) (h : TkO w b lim o) :
  Calls Tryz.prog 146 #[.pointer (some ⟨b, 0, none⟩)] w fun e w' => e = .returned (strV (Sx.nxS o)) ∧ w.grownBy w' (some b) ∧ TkO w' b lim (Sx.nxO o) := by
 match o, h with
 | none, ⟨fs, h⟩ =>
   have H := hid h
   obtain ⟨lt', le, ⟨a, cap, c0, hc, hr⟩, c1, z0, z1, few, short⟩ := h
   have lt := Nat.lt_of_lt_of_le lt' le
   clear hr short
   go_enter Tryz.func146, Tryz.ntmps146
   go_wp2
   go_ret
   exact ⟨rfl, gb_set (gb_refl _ _) (.inl rfl) _, ⟨fs, tkS_bad H.out⟩⟩
 | some [], h =>
   have H : Hid (TkS w b lim false []) := h.out
   obtain ⟨lt', le, ⟨a, cap, c0, hc, hr⟩, c1, z0, z1, few, short⟩ := H.out
   have lt := Nat.lt_of_lt_of_le lt' le
   clear hr short
   go_enter Tryz.func146, Tryz.ntmps146
   go_wp2
   go_ret
   exact ⟨rfl, gb_set (gb_refl _ _) (.inl rfl) _, ⟨[], tkS_bad H.out⟩⟩
 | some (f :: r), h =>
   have H : TkS w b lim false (f :: r) := h.out
   obtain ⟨lt', le, ⟨a, cap, c0, hc, hr⟩, c1, z0, z1, few, short⟩ := H
   have lt := Nat.lt_of_lt_of_le lt' le
   obtain ⟨g, o, rfl, hl, hne, hcell⟩ := hr (by simp)
   have g0 : w.cell? ⟨g, o, none⟩ = some (strV f) := by simpa using hcell 0 f (by simp)
   have hz : ((r.length : Int) + 1 == 0) = false := by simp; omega
   have HC := hid hcell
   have SH := hid short
   have F := hid few
   have hrl : r.length + 1 ≤ cap := by simpa using hc
   have hfew : r.length + 1 ≤ 12 := by simpa using few
   have c0' : w.cell? ⟨b, 0, none⟩ = some (.slice (some ⟨g, o, none⟩) (r.length + 1) cap) := by simpa using c0
   have HC0 := hid c0'
   have HC1 := hid c1
   have HZ0 := hid z0
   have HZ1 := hid z1
   clear hr hcell short few hc c0
   go_enter Tryz.func146, Tryz.ntmps146
   go_wp2
   ·go_ret
    have hr0 : r = [] := List.length_eq_zero_iff.1 (by omega)
    refine ⟨rfl, gb_set (gb_refl _ _) (.inl rfl) _, ?_⟩
    refine ⟨show TkS _ _ _ _ _ from ?_⟩
    refine ⟨lt', by simpa using le, ⟨some ⟨g, o, none⟩, 0, ?_, by omega, fun hn => absurd hr0 hn⟩, ?_, ?_, ?_, by omega, fun x hx => SH.out x (by simp [hx])⟩
    ·simp [go_sem, HC0.out, lt]
    ·simp [go_sem, HC1.out, lt]
    ·simp [go_sem, HZ0.out, lt]
    ·simp [go_sem, HZ1.out, lt]
   ·go_ret
    refine ⟨rfl, gb_set (gb_refl _ _) (.inl rfl) _, ?_⟩
    refine ⟨show TkS _ _ _ _ _ from ?_⟩
    refine ⟨lt', by simpa using le, ⟨some ⟨g, o + 1, none⟩, cap - 1, ?_, by omega, ?_⟩, ?_, ?_, ?_, by omega, fun x hx => SH.out x (by simp [hx])⟩
    ·simp [go_sem, HC0.out, lt]
    ·intro _
     exact ⟨g, o + 1, rfl, hl, hne, fun i x hx => by
      rw [World.cell?_of_block (w := w) (Below.heap_setCell _ _ _ _ hne)]
      have := HC.out (i + 1) x (by simpa using hx)
      rw [show o + 1 + i = o + (i + 1) by omega]; exact this⟩
    ·simp [go_sem, HC1.out, lt]
    ·simp [go_sem, HZ0.out, lt]
    ·simp [go_sem, HZ1.out, lt]
end
section
open Go.RowKit

namespace Sx
theorem val_snoc : ∀ (l : Tx.Bs) (n : Int) (c : UInt8), val n (l ++ [c]) = 10 * val n l + (c.toNat : Int) - 48
 | [], n, c => rfl
 | d :: r, n, c => by simp only [List.cons_append, val]; exact val_snoc r _ c
theorem dig_bd {c : UInt8} (h : digB c = true) : 48 ≤ (c.toNat : Int) ∧ (c.toNat : Int) ≤ 57 := by
 simp [digB] at h; omega
theorem val_bd1 : ∀ (l : Tx.Bs) (n : Int), 0 ≤ n → l.all digB = true → 0 ≤ val n l ∧ val n l < (n + 1) * 10 ^ l.length
 | [], n, hn, _ => by simp [val]; omega
 | c :: r, n, hn, h => by
   simp at h
   have hc := dig_bd h.1
   have := val_bd1 r (10 * n + (c.toNat : Int) - 48) (by omega) (by simpa using h.2)
   simp only [val]
   refine ⟨this.1, Int.lt_of_lt_of_le this.2 ?_⟩
   rw [List.length_cons, Int.pow_succ, Int.mul_comm (10 ^ r.length) 10, ← Int.mul_assoc]
   exact Int.mul_le_mul_of_nonneg_right (by omega) (Int.le_of_lt (Int.pow_pos (by omega)))
theorem pow4 (k : Nat) (h : k ≤ 4) : (10 : Int) ^ k ≤ 10000 := by
 match k, h with
 | 0, _ => decide
 | 1, _ => decide
 | 2, _ => decide
 | 3, _ => decide
 | 4, _ => decide
theorem val_bd (l : Tx.Bs) (h : l.all digB = true) (hl : l.length ≤ 4) : 0 ≤ val 0 l ∧ val 0 l ≤ 9999 := by
 have := val_bd1 l 0 (by omega) h
 have := pow4 _ hl
 omega
theorem num_bd (a b : Nat) (s : Tx.Bs) (hb : b ≤ 4) : 0 ≤ (num a b s).getD 0 ∧ (num a b s).getD 0 ≤ 9999 := by
 unfold num
 split
 ·rename_i h; exact val_bd s h.2.2 (by omega)
 ·simp
end Sx

theorem tk_cells {w : World} {b lim : Nat} {o : Sx.O} (h : TkO w b lim o) : ∃ x bad, w.cell? ⟨b, 0, none⟩ = some x ∧ w.cell? ⟨b, 1, none⟩ = some (.bool bad) ∧ w.frozen? ⟨b, 0, none⟩ = false ∧ w.frozen? ⟨b, 1, none⟩ = false ∧ b < w.heap.size := by
 cases o with
 | none => obtain ⟨fs, lt', le, ⟨a, cap, c0, _⟩, c1, z0, z1, _⟩ := h.out; exact ⟨_, _, c0, c1, z0, z1, Nat.lt_of_lt_of_le lt' le⟩
 | some fs => obtain ⟨lt', le, ⟨a, cap, c0, _⟩, c1, z0, z1, _⟩ := (show TkS _ _ _ _ _ from h.out); exact ⟨_, _, c0, c1, z0, z1, Nat.lt_of_lt_of_le lt' le⟩

theorem number_any {lim : Nat} (b : Nat) (o : Sx.O) (s : ByteArray) (least most : Nat) (w : World) (h : TkO w b lim o) (hm : most ≤ 4) (hs : s.size ≤ 24) :
  Calls Tryz.prog 187 #[.pointer (some ⟨b, 0, none⟩), .string s, .int .i64 least, .int .i64 most] w fun e w' =>
   e = .returned (.int .i64 ((Sx.num least most s.data.toList).getD 0)) ∧ w.grownBy w' (some b) ∧ TkO w' b lim (Sx.keep (Sx.num least most s.data.toList).isSome o) := by
 obtain ⟨x0, bad, c0, c1, z0, z1, lt⟩ := tk_cells h
 have H := hid h
 obtain ⟨G, hG⟩ : ∃ G, Sx.num least most s.data.toList = G := ⟨_, rfl⟩
 rw [hG]
 have HG : Hid (G = if least ≤ s.size ∧ s.size ≤ most ∧ s.data.toList.all Sx.digB = true then some (Sx.val 0 s.data.toList) else none) := by
  show _ = _; rw [← hG, Sx.num, size_len]
 clear hG h c0 z0
 by_cases hr : least ≤ s.size ∧ s.size ≤ most
 ·have HB : Hid (decide ((least : Int) ≤ (s.size : Int) ∧ (s.size : Int) ≤ (most : Int)) = true) := by show _ = _; simp; omega
  obtain ⟨hr1, hr2⟩ := hr
  go_enter Tryz.func187, Tryz.ntmps187
  go_wp2_with (go_at_call 77; refine (between_is _ _ _ _ HB.out).mono ?_; rintro e w1 ⟨rfl, rfl⟩)
  go_loop [9, 10] (fun n a => ∃ k : Nat, k ≤ s.size ∧ a = .int .i64 k ∧ n = .int .i64 (Sx.val 0 (s.data.toList.take k)) ∧ Hid ((s.data.toList.take k).all Sx.digB = true)) (fun _ a => s.size - (intOf a).toNat)
  case atStart => exact ⟨0, by omega, rfl, rfl, by show _ = _; simp⟩
  case round =>
   obtain ⟨k, hk, rfl, rfl, HA⟩ := hrel
   have hv := Sx.val_bd _ HA.out (by simp; omega)
   obtain ⟨V, hV⟩ : ∃ V, Sx.val 0 (s.data.toList.take k) = V := ⟨_, rfl⟩
   rw [hV] at hv ⊢
   have HV := hid hV
   obtain ⟨v1, v2⟩ := hv
   clear hV
   by_cases hlt : k < s.size
   ·obtain ⟨c, hc⟩ : ∃ c, s[k] = c := ⟨_, rfl⟩
    have HC := hid hc
    have hcb : (c.toNat : Int) < 256 := by have := c.toNat_lt; omega
    cases h1 : Sx.digB c
    ·have H1 := hid h1
     have N2 : Hid (G = none) := by show _ = _; rw [HG.out, if_neg (by rw [all_no s _ k hlt (by rw [HC.out]; exact H1.out)]; simp)]
     clear h1
     go_wp2_with (go_at_call 166; refine (rDigit_is _ _ H1.out).mono ?_; rintro e w1 ⟨rfl, rfl⟩)
     go_ret
     rw [N2.out]
     exact ⟨rfl, gb_set (gb_refl _ _) (.inl rfl) _, tkO_bad H.out⟩
    ·have H1 := hid h1
     clear h1
     go_wp2_with (go_at_call 166; refine (rDigit_is _ _ H1.out).mono ?_; rintro e w1 ⟨rfl, rfl⟩)
     go_round
     case rel => exact ⟨k + 1, by omega, by go_num, by rw [take_snoc s k hlt, Sx.val_snoc, HV.out, HC.out], all_snoc s _ k hlt HA.out (by rw [HC.out]; exact H1.out)⟩
     case measure => simp [intOf]; omega
   ·have N2 : Hid (G = some V) := by
     show _ = _
     rw [HG.out, if_pos ⟨hr1, hr2, all_end s _ k (by omega) HA.out⟩, ← HV.out, List.take_of_length_le (by simp; omega)]
    go_wp2
    go_ret
    rw [N2.out]
    exact ⟨rfl, gb_refl _ _, H.out⟩
 ·have HB : Hid (decide ((least : Int) ≤ (s.size : Int) ∧ (s.size : Int) ≤ (most : Int)) = false) := by show _ = _; simp; omega
  have N2 : Hid (G = none) := by show _ = _; rw [HG.out, if_neg (by rintro ⟨q1, q2, _⟩; exact hr ⟨q1, q2⟩)]
  clear hr
  go_enter Tryz.func187, Tryz.ntmps187
  go_wp2_with (go_at_call 77; refine (between_is _ _ _ _ HB.out).mono ?_; rintro e w1 ⟨rfl, rfl⟩)
  go_ret
  rw [N2.out]
  exact ⟨rfl, gb_set (gb_refl _ _) (.inl rfl) _, tkO_bad H.out⟩

theorem strV_size (l : Tx.Bs) : (⟨l.toArray⟩ : ByteArray).size = l.length := by simp [ByteArray.size]
theorem strV_data (l : Tx.Bs) : (⟨l.toArray⟩ : ByteArray).data.toList = l := by simp
theorem isName_str (l : Tx.Bs) (w : World) {b : Bool} (h : Sx.nameB l = b) : Calls Tryz.prog 120 #[strV l] w fun e w' => e = .returned (.bool b) ∧ w' = w :=
 isName_is _ w (by rw [strV_data]; exact h)
theorem rLetters_str (l : Tx.Bs) (w : World) (hs : l.length ≤ 24) {b : Bool} (h : Sx.lettersB l = b) : Calls Tryz.prog 164 #[strV l] w fun e w' => e = .returned (.bool b) ∧ w' = w :=
 rLetters_is _ w (by rw [strV_size]; unfold maxLen; omega) (by rw [strV_data]; exact h)
theorem isFormat_str (l : Tx.Bs) (w : World) (hs : l.length ≤ 24) {b : Bool} (h : Sx.formatB l = b) : Calls Tryz.prog 167 #[strV l] w fun e w' => e = .returned (.bool b) ∧ w' = w :=
 isFormat_is _ w (by rw [strV_size]; unfold maxLen; omega) (by rw [strV_data]; exact h)
theorem number_str {lim : Nat} (b : Nat) (o : Sx.O) (l : Tx.Bs) (least most : Nat) (w : World) (h : TkO w b lim o) (hm : most ≤ 4) (hs : l.length ≤ 24) :
  Calls Tryz.prog 187 #[.pointer (some ⟨b, 0, none⟩), strV l, .int .i64 least, .int .i64 most] w fun e w' =>
   e = .returned (.int .i64 ((Sx.num least most l).getD 0)) ∧ w.grownBy w' (some b) ∧ TkO w' b lim (Sx.keep (Sx.num least most l).isSome o) := by
 have := number_any b o ⟨l.toArray⟩ least most w h hm (by rw [strV_size]; exact hs)
 rw [strV_data] at this; exact this

theorem name_any {lim : Nat} (b : Nat) (o : Sx.O) (w : World) (h : TkO w b lim o) :
  Calls Tryz.prog 149 #[.pointer (some ⟨b, 0, none⟩)] w fun e w' =>
   e = .returned (strV (Sx.nxS o)) ∧ w.grownBy w' (some b) ∧ TkO w' b lim (Sx.keep (Sx.nameB (Sx.nxS o)) (Sx.nxO o)) := by
 have H := hid h
 clear h
 cases hn : Sx.nameB (Sx.nxS o)
 all_goals
  have HN := hid hn
  clear hn
  go_enter Tryz.func149, Tryz.ntmps149
  go_wp2_with fail
  refine (next_any b o _ H.out).mono ?_
  rintro e w1 ⟨rfl, hg, ht⟩
  obtain ⟨x0, bad, c0, c1, z0, z1, lt⟩ := tk_cells ht
  go_wp2_with (go_at_call 120; refine (isName_str _ _ HN.out).mono ?_; rintro e w2 ⟨rfl, rfl⟩)
  go_ret
 ·exact ⟨rfl, gb_set hg (.inl rfl) _, tkO_bad ht⟩
 ·exact ⟨rfl, hg, ht⟩

def monthsS : ByteArray := ⟨#[74, 97, 110, 70, 101, 98, 77, 97, 114, 65, 112, 114, 77, 97, 121, 74, 117, 110, 74, 117, 108, 65, 117, 103, 83, 101, 112, 79, 99, 116, 78, 111, 118, 68, 101, 99]⟩
def weekdaysS : ByteArray := ⟨#[83, 117, 110, 77, 111, 110, 84, 117, 101, 87, 101, 100, 84, 104, 117, 70, 114, 105, 83, 97, 116]⟩
theorem months_any (l : Tx.Bs) (w : World) (hs : l.length ≤ 24) {n : Int} (hn : Sx.th l 0 Sx.months = n) :
  Calls Tryz.prog 208 #[.string ⟨#[74, 97, 110, 70, 101, 98, 77, 97, 114, 65, 112, 114, 77, 97, 121, 74, 117, 110, 74, 117, 108, 65, 117, 103, 83, 101, 112, 79, 99, 116, 78, 111, 118, 68, 101, 99]⟩, strV l] w fun e w' => e = .returned (.int .i64 n) ∧ w' = w := by
 subst hn
 have := threes_any monthsS ⟨l.toArray⟩ w (by decide) (by rw [strV_size]; unfold maxLen; omega)
 rw [strV_data] at this; exact this
theorem weekdays_any (l : Tx.Bs) (w : World) (hs : l.length ≤ 24) {n : Int} (hn : Sx.th l 0 Sx.weekdays = n) :
  Calls Tryz.prog 208 #[.string ⟨#[83, 117, 110, 77, 111, 110, 84, 117, 101, 87, 101, 100, 84, 104, 117, 70, 114, 105, 83, 97, 116]⟩, strV l] w fun e w' => e = .returned (.int .i64 n) ∧ w' = w := by
 subst hn
 have := threes_any weekdaysS ⟨l.toArray⟩ w (by decide) (by rw [strV_size]; unfold maxLen; omega)
 rw [strV_data] at this; exact this

theorem month_any {lim : Nat} (b : Nat) (o : Sx.O) (w : World) (h : TkO w b lim o) :
  Calls Tryz.prog 188 #[.pointer (some ⟨b, 0, none⟩)] w fun e w' =>
   e = .returned (.int .i64 ((Sx.monthO (Sx.nxS o)).getD 0)) ∧ w.grownBy w' (some b) ∧ TkO w' b lim (Sx.keep (Sx.monthO (Sx.nxS o)).isSome (Sx.nxO o)) := by
 have H := hid h
 have hl := nxS_len h
 clear h
 obtain ⟨n, hn⟩ : ∃ n, Sx.th (Sx.nxS o) 0 Sx.months = n := ⟨_, rfl⟩
 have hb := th_bd (Sx.nxS o) 36 0 Sx.months (by decide)
 rw [hn] at hb
 obtain ⟨b1, b2⟩ := hb
 have HO : Hid (Sx.monthO (Sx.nxS o) = if n < 0 then none else some (n + 1)) := by show _ = _; rw [Sx.monthO, hn]
 have HN := hid hn
 clear hn
 by_cases h0 : n < 0
 ·have hn1 : n = -1 := by omega
  have HO2 : Hid (Sx.monthO (Sx.nxS o) = none) := by show _ = _; rw [HO.out, if_pos h0]
  subst hn1
  clear HO
  go_enter Tryz.func188, Tryz.ntmps188
  go_wp2_with fail
  refine (next_any b o _ H.out).mono ?_
  rintro e w1 ⟨rfl, hg, ht⟩
  obtain ⟨x0, bad, c0, c1, z0, z1, lt⟩ := tk_cells ht
  go_wp2_with (go_at_call 208; refine (months_any _ _ hl HN.out).mono ?_; rintro e w2 ⟨rfl, rfl⟩)
  go_ret
  rw [HO2.out]
  exact ⟨rfl, gb_set hg (.inl rfl) _, tkO_bad ht⟩
 ·have HO2 : Hid (Sx.monthO (Sx.nxS o) = some (n + 1)) := by show _ = _; rw [HO.out, if_neg h0]
  clear HO
  go_enter Tryz.func188, Tryz.ntmps188
  go_wp2_with fail
  refine (next_any b o _ H.out).mono ?_
  rintro e w1 ⟨rfl, hg, ht⟩
  obtain ⟨x0, bad, c0, c1, z0, z1, lt⟩ := tk_cells ht
  go_wp2_with (go_at_call 208; refine (months_any _ _ hl HN.out).mono ?_; rintro e w2 ⟨rfl, rfl⟩)
  go_ret
  rw [HO2.out]
  exact ⟨rfl, hg, ht⟩
theorem rweekday_any {lim : Nat} (b : Nat) (o : Sx.O) (l : Tx.Bs) (w : World) (h : TkO w b lim o) (hl : l.length ≤ 24) :
  Calls Tryz.prog 209 #[.pointer (some ⟨b, 0, none⟩), strV l] w fun e w' =>
   e = .returned (.int .i64 ((Sx.wkO l).getD 0)) ∧ w.grownBy w' (some b) ∧ TkO w' b lim (Sx.keep (Sx.wkO l).isSome o) := by
 have H := hid h
 obtain ⟨x0, bad, c0, c1, z0, z1, lt⟩ := tk_cells h
 clear h
 obtain ⟨n, hn⟩ : ∃ n, Sx.th l 0 Sx.weekdays = n := ⟨_, rfl⟩
 have HO : Hid (Sx.wkO l = if n < 0 then none else some n) := by show _ = _; rw [Sx.wkO, hn]
 have HN := hid hn
 clear hn
 by_cases h0 : n < 0
 ·have HO2 : Hid (Sx.wkO l = none) := by show _ = _; rw [HO.out, if_pos h0]
  clear HO
  go_enter Tryz.func209, Tryz.ntmps209
  go_wp2_with (go_at_call 208; refine (weekdays_any _ _ hl HN.out).mono ?_; rintro e w2 ⟨rfl, rfl⟩)
  go_ret
  rw [HO2.out]
  exact ⟨rfl, gb_set (gb_refl _ _) (.inl rfl) _, tkO_bad H.out⟩
 ·have HO2 : Hid (Sx.wkO l = some n) := by show _ = _; rw [HO.out, if_neg h0]
  clear HO
  go_enter Tryz.func209, Tryz.ntmps209
  go_wp2_with (go_at_call 208; refine (weekdays_any _ _ hl HN.out).mono ?_; rintro e w2 ⟨rfl, rfl⟩)
  go_ret
  rw [HO2.out]
  exact ⟨rfl, gb_refl _ _, H.out⟩
/- Sixty answers its digits' number even where it fails -/
def sixV (l : Tx.Bs) : Int := (Sx.num 2 2 l).getD 0
theorem sixV_bd (l : Tx.Bs) : 0 ≤ sixV l ∧ sixV l ≤ 9999 := Sx.num_bd 2 2 l (by omega)
theorem sixV_eq {l : Tx.Bs} {n : Int} (h : Sx.sixO l = some n) : sixV l = n := by
 unfold Sx.sixO at h; unfold sixV
 cases hq : Sx.num 2 2 l with
 | none => rw [hq] at h; cases h
 | some k =>
   rw [hq] at h
   simp only [Option.bind_some] at h
   split at h
   ·cases h
   ·simpa using h
theorem sixty_any {lim : Nat} (b : Nat) (o : Sx.O) (l : Tx.Bs) (w : World) (h : TkO w b lim o) (hl : l.length ≤ 24) :
  Calls Tryz.prog 207 #[.pointer (some ⟨b, 0, none⟩), strV l] w fun e w' =>
   e = .returned (.int .i64 (sixV l)) ∧ w.grownBy w' (some b) ∧ TkO w' b lim (Sx.keep (Sx.sixO l).isSome o) := by
 have H := hid h
 clear h
 obtain ⟨G, hG⟩ : ∃ G, Sx.num 2 2 l = G := ⟨_, rfl⟩
 have hb := Sx.num_bd 2 2 l (by omega)
 have HV : Hid (sixV l = G.getD 0) := by show _ = _; rw [sixV, hG]
 have HO : Hid (Sx.sixO l = G.bind fun n => if 59 < n then none else some n) := by show _ = _; rw [Sx.sixO, hG]
 have HN := hid (number_str (lim := lim) b o l 2 2)
 rw [hG] at hb HN
 clear hG
 by_cases h59 : 59 < G.getD 0
 ·have HK : Hid ((Sx.sixO l).isSome = false) := by
   show _ = _
   rw [HO.out]
   cases G with
   | none => rfl
   | some n => simp at h59; simp; omega
  obtain ⟨V, hV⟩ : ∃ V, G.getD 0 = V := ⟨_, rfl⟩
  rw [hV] at HV hb HN h59
  obtain ⟨b1, b2⟩ := hb
  go_enter Tryz.func207, Tryz.ntmps207
  go_wp2_with fail
  refine (HN.out _ H.out (by omega) hl).mono ?_
  rintro e w1 ⟨rfl, hg, ht⟩
  obtain ⟨x0, bad, c0, c1, z0, z1, lt⟩ := tk_cells ht
  clear hV
  go_wp2
  go_ret
  rw [HV.out, HK.out]
  exact ⟨rfl, gb_set hg (.inl rfl) _, tkO_bad ht⟩
 ·have HK : Hid ((Sx.sixO l).isSome = G.isSome) := by
   show _ = _
   rw [HO.out]
   cases G with
   | none => rfl
   | some n => simp at h59; simp; omega
  obtain ⟨V, hV⟩ : ∃ V, G.getD 0 = V := ⟨_, rfl⟩
  rw [hV] at HV hb HN h59
  obtain ⟨b1, b2⟩ := hb
  go_enter Tryz.func207, Tryz.ntmps207
  go_wp2_with fail
  refine (HN.out _ H.out (by omega) hl).mono ?_
  rintro e w1 ⟨rfl, hg, ht⟩
  obtain ⟨x0, bad, c0, c1, z0, z1, lt⟩ := tk_cells ht
  clear hV
  go_wp2
  go_ret
  rw [HV.out, HK.out]
  exact ⟨rfl, hg, ht⟩
end
section
open Go.RowKit

theorem pLetter_any (c : UInt8) (w : World) :
  Calls Tryz.prog 191 #[.int .u8 (c.toNat : Int)] w fun e w' => e = .returned (.bool (Sx.letB c)) ∧ w' = w := by
 have hh : Hid (Sx.letB c = (decide ((97 : Int) ≤ (c.toNat : Int) ∧ (c.toNat : Int) ≤ 122) || decide ((65 : Int) ≤ (c.toNat : Int) ∧ (c.toNat : Int) ≤ 90))) := let_eq c
 have hb : (c.toNat : Int) < 256 := by have := c.toNat_lt; omega
 have hb0 : 0 ≤ (c.toNat : Int) := by omega
 generalize (c.toNat : Int) = n at *
 have h5 : n < 65 ∨ (65 ≤ n ∧ n ≤ 90 ∧ n < 97) ∨ (65 ≤ n ∧ 90 < n ∧ n < 97) ∨ (97 ≤ n ∧ n ≤ 122 ∧ 90 < n) ∨ (122 < n) := by omega
 rcases h5 with h1 | ⟨h1, h2, h3⟩ | ⟨h1, h2, h3⟩ | ⟨h1, h2, h3⟩ | h1
 all_goals
  go_enter Tryz.func191, Tryz.ntmps191
  go_wp2
  go_ret
  exact ⟨ret_bool (by rw [hh.out, Bool.eq_iff_iff]; simp only [Bool.or_eq_true, Bool.and_eq_true, decide_eq_true_eq, Bool.false_eq_true, iff_false, false_iff, iff_true, true_iff]; omega), rfl⟩
theorem pLetter_is (c : UInt8) (w : World) {b : Bool} (h : Sx.letB c = b) :
  Calls Tryz.prog 191 #[.int .u8 (c.toNat : Int)] w fun e w' => e = .returned (.bool b) ∧ w' = w := by subst h; exact pLetter_any c w
theorem pDigit_any (c : UInt8) (w : World) :
  Calls Tryz.prog 194 #[.int .u8 (c.toNat : Int)] w fun e w' => e = .returned (.bool (Sx.digB c)) ∧ w' = w := by
 have hh : Hid (Sx.digB c = decide ((48 : Int) ≤ (c.toNat : Int) ∧ (c.toNat : Int) ≤ 57)) := dig_eq c
 have hb : (c.toNat : Int) < 256 := by have := c.toNat_lt; omega
 have hb0 : 0 ≤ (c.toNat : Int) := by omega
 generalize (c.toNat : Int) = n at *
 have h5 : n < 48 ∨ (48 ≤ n ∧ n ≤ 57) ∨ (48 ≤ n ∧ 57 < n) := by omega
 rcases h5 with h1 | ⟨h1, h2⟩ | ⟨h1, h2⟩
 all_goals
  go_enter Tryz.func194, Tryz.ntmps194
  go_wp2
  go_ret
  exact ⟨ret_bool (by rw [hh.out]; simp; omega), rfl⟩
theorem pDigit_is (c : UInt8) (w : World) {b : Bool} (h : Sx.digB c = b) :
  Calls Tryz.prog 194 #[.int .u8 (c.toNat : Int)] w fun e w' => e = .returned (.bool b) ∧ w' = w := by subst h; exact pDigit_any c w


theorem sliteIndexByte_any (s : ByteArray) (c : UInt8) (w : World) :
  Calls Tryz.prog 211 #[.string s, .int .u8 (c.toNat : Int)] w fun e w' => e = .returned (.int .i64 (Lib.indexByte s.data.toList c)) ∧ w' = w := by
 go_enter Tryz.func211, Tryz.ntmps211
 go_wp2
 rw [run_callFunc_extern Tryz.func232 (by kernel_rfl) (by kernel_rfl) (by kernel_rfl) (e := Extern.BytealgIndexByte.indexByte) (by kernel_rfl), Lib.run_indexByteString]
 simp only [Result.andThen]
 rw [Oper.upon_value]
 go_wp2
 go_ret
 exact ⟨rfl, rfl⟩
theorem pIndexByte_any (s : ByteArray) (c : UInt8) (w : World) :
  Calls Tryz.prog 195 #[.string s, .int .u8 (c.toNat : Int)] w fun e w' => e = .returned (.int .i64 (Lib.indexByte s.data.toList c)) ∧ w' = w := by
 go_enter Tryz.func195, Tryz.ntmps195
 go_wp2_with (go_at_call 211; refine (sliteIndexByte_any _ _ _).mono ?_; rintro e w1 ⟨rfl, rfl⟩)
 go_ret
 exact ⟨rfl, rfl⟩
theorem dash_eq (c : UInt8) : decide (0 ≤ Lib.indexByte [95, 45, 47, 43] c) = (c == 95 || c == 45 || c == 47 || c == 43) := by
 rw [← Lib.contains_iff_indexByte]
 simp only [List.contains_cons, List.contains_nil, Bool.or_false, Bool.or_assoc]
theorem name1_any (c : UInt8) (w : World) :
  Calls Tryz.prog 193 #[.int .u8 (c.toNat : Int)] w fun e w' => e = .returned (.bool (Sx.nameC c)) ∧ w' = w := by
 have HN : Hid (Sx.nameC c = (Sx.letB c || Sx.digB c || decide (0 ≤ Lib.indexByte [95, 45, 47, 43] c))) := by show _ = _; rw [dash_eq]; simp [Sx.nameC, Bool.or_assoc]
 have PI := hid (pIndexByte_any ⟨#[95, 45, 47, 43]⟩ c)
 obtain ⟨n, hn⟩ : ∃ n, Lib.indexByte [95, 45, 47, 43] c = n := ⟨_, rfl⟩
 have PI2 : Hid (∀ w, Calls Tryz.prog 195 #[.string ⟨#[95, 45, 47, 43]⟩, .int .u8 (c.toNat : Int)] w fun e w' => e = .returned (.int .i64 n) ∧ w' = w) := by rw [← hn]; exact PI.out
 rw [hn] at HN
 clear hn PI
 cases h1 : Sx.letB c
 case true =>
  have H1 := hid h1
  clear h1
  go_enter Tryz.func193, Tryz.ntmps193
  go_wp2_with (go_at_call 191; refine (pLetter_is _ _ H1.out).mono ?_; rintro e w1 ⟨rfl, rfl⟩)
  go_ret
  exact ⟨ret_bool (by rw [HN.out, H1.out]; rfl), rfl⟩
 case false =>
  have H1 := hid h1
  clear h1
  cases h2 : Sx.digB c
  case true =>
   have H2 := hid h2
   clear h2
   go_enter Tryz.func193, Tryz.ntmps193
   go_wp2_with (first | (go_at_call 191; refine (pLetter_is _ _ H1.out).mono ?_; rintro e w1 ⟨rfl, rfl⟩) | (go_at_call 194; refine (pDigit_is _ _ H2.out).mono ?_; rintro e w1 ⟨rfl, rfl⟩))
   go_ret
   exact ⟨ret_bool (by rw [HN.out, H1.out, H2.out]; rfl), rfl⟩
  case false =>
   have H2 := hid h2
   clear h2
   by_cases h3 : 0 ≤ n
   all_goals
    go_enter Tryz.func193, Tryz.ntmps193
    go_wp2_with (first | (go_at_call 191; refine (pLetter_is _ _ H1.out).mono ?_; rintro e w1 ⟨rfl, rfl⟩) | (go_at_call 194; refine (pDigit_is _ _ H2.out).mono ?_; rintro e w1 ⟨rfl, rfl⟩) | (go_at_call 195; refine (PI2.out _).mono ?_; rintro e w1 ⟨rfl, rfl⟩))
    go_ret
    exact ⟨ret_bool (by rw [HN.out, H1.out, H2.out]; simp [h3]), rfl⟩
theorem name1_is (c : UInt8) (w : World) {b : Bool} (h : Sx.nameC c = b) :
  Calls Tryz.prog 193 #[.int .u8 (c.toNat : Int)] w fun e w' => e = .returned (.bool b) ∧ w' = w := by subst h; exact name1_any c w

theorem spanName_any (s : ByteArray) (w : World) (hs : s.size ≤ maxLen) :
  Calls Tryz.prog 210 #[.string s, .func (.func 193) #[] #[]] w fun e w' => (∃ n : Int, e = .returned (.int .i64 n) ∧ (n == (s.size : Int)) = s.data.toList.all Sx.nameC) ∧ w' = w := by
 unfold maxLen at hs
 obtain ⟨G, hG⟩ : ∃ G, s.data.toList.all Sx.nameC = G := ⟨_, rfl⟩
 rw [hG]
 have HG : Hid (G = s.data.toList.all Sx.nameC) := hG.symm
 clear hG
 have eg : ∀ args w, (callFunc 193 args).run Tryz.prog w = .ok (.enter 193 args) w := enters_of Tryz.func193 (by kernel_rfl) rfl
 go_enter Tryz.func210, Tryz.ntmps210
 go_wp2_with fail
 go_loop [8] (fun a => ∃ k : Nat, k ≤ s.size ∧ a = .int .i64 k ∧ Hid ((s.data.toList.take k).all Sx.nameC = true)) (fun a => s.size - (intOf a).toNat)
 case atStart => exact ⟨0, by omega, rfl, by show _ = _; simp⟩
 case round =>
  obtain ⟨k, hk, rfl, HA⟩ := hrel
  by_cases hlt : k < s.size
  ·obtain ⟨c, hc⟩ : ∃ c, s[k] = c := ⟨_, rfl⟩
   have HC := hid hc
   cases h1 : Sx.nameC c
   case true =>
    have H1 := hid h1
    clear h1
    go_wp2_with (go_at_call 193; refine (name1_is _ _ H1.out).mono ?_; rintro e w1 ⟨rfl, rfl⟩)
    go_round
    case rel => exact ⟨k + 1, by omega, by go_num, all_snoc s _ k hlt HA.out (by rw [HC.out, H1.out])⟩
    case measure => simp [intOf]; omega
   case false =>
    have H1 := hid h1
    clear h1
    go_wp2_with (go_at_call 193; refine (name1_is _ _ H1.out).mono ?_; rintro e w1 ⟨rfl, rfl⟩)
    go_ret
    exact ⟨⟨_, rfl, by rw [HG.out, all_no s _ k hlt (by rw [HC.out, H1.out])]; simp; omega⟩, rfl⟩
  ·go_wp2
   go_ret
   exact ⟨⟨_, rfl, by rw [HG.out, all_end s _ k (by omega) HA.out]; simp⟩, rfl⟩
theorem isAllName_any (s : ByteArray) (w : World) (hs : s.size ≤ maxLen) :
  Calls Tryz.prog 192 #[.string s, .func (.func 193) #[] #[]] w fun e w' => e = .returned (.bool (decide (s.size ≤ 24) && s.data.toList.all Sx.nameC)) ∧ w' = w := by
 have HS := hid (spanName_any s w hs)
 clear hs
 obtain ⟨b, hb⟩ : ∃ b, s.data.toList.all Sx.nameC = b := ⟨_, rfl⟩
 rw [hb] at HS ⊢
 clear hb
 by_cases h : s.size ≤ 24
 ·go_enter Tryz.func192, Tryz.ntmps192
  go_wp2_with (go_at_call 210; refine HS.out.mono ?_; rintro e w1 ⟨⟨n, rfl, hn⟩, rfl⟩)
  go_ret
  exact ⟨ret_bool (by simp [h]), rfl⟩
 ·go_enter Tryz.func192, Tryz.ntmps192
  go_wp2_with fail
  go_ret
  exact ⟨ret_bool (by simp [h]), rfl⟩

theorem spanLetter_any (s : ByteArray) (w : World) (hs : s.size ≤ maxLen) :
  Calls Tryz.prog 210 #[.string s, .func (.func 191) #[] #[]] w fun e w' => (∃ n : Int, e = .returned (.int .i64 n) ∧ (n == (s.size : Int)) = s.data.toList.all Sx.letB) ∧ w' = w := by
 unfold maxLen at hs
 obtain ⟨G, hG⟩ : ∃ G, s.data.toList.all Sx.letB = G := ⟨_, rfl⟩
 rw [hG]
 have HG : Hid (G = s.data.toList.all Sx.letB) := hG.symm
 clear hG
 have eg : ∀ args w, (callFunc 191 args).run Tryz.prog w = .ok (.enter 191 args) w := enters_of Tryz.func191 (by kernel_rfl) rfl
 go_enter Tryz.func210, Tryz.ntmps210
 go_wp2_with fail
 go_loop [8] (fun a => ∃ k : Nat, k ≤ s.size ∧ a = .int .i64 k ∧ Hid ((s.data.toList.take k).all Sx.letB = true)) (fun a => s.size - (intOf a).toNat)
 case atStart => exact ⟨0, by omega, rfl, by show _ = _; simp⟩
 case round =>
  obtain ⟨k, hk, rfl, HA⟩ := hrel
  by_cases hlt : k < s.size
  ·obtain ⟨c, hc⟩ : ∃ c, s[k] = c := ⟨_, rfl⟩
   have HC := hid hc
   cases h1 : Sx.letB c
   case true =>
    have H1 := hid h1
    clear h1
    go_wp2_with (go_at_call 191; refine (pLetter_is _ _ H1.out).mono ?_; rintro e w1 ⟨rfl, rfl⟩)
    go_round
    case rel => exact ⟨k + 1, by omega, by go_num, all_snoc s _ k hlt HA.out (by rw [HC.out, H1.out])⟩
    case measure => simp [intOf]; omega
   case false =>
    have H1 := hid h1
    clear h1
    go_wp2_with (go_at_call 191; refine (pLetter_is _ _ H1.out).mono ?_; rintro e w1 ⟨rfl, rfl⟩)
    go_ret
    exact ⟨⟨_, rfl, by rw [HG.out, all_no s _ k hlt (by rw [HC.out, H1.out])]; simp; omega⟩, rfl⟩
  ·go_wp2
   go_ret
   exact ⟨⟨_, rfl, by rw [HG.out, all_end s _ k (by omega) HA.out]; simp⟩, rfl⟩
theorem isAllLetter_any (s : ByteArray) (w : World) (hs : s.size ≤ maxLen) :
  Calls Tryz.prog 192 #[.string s, .func (.func 191) #[] #[]] w fun e w' => e = .returned (.bool (decide (s.size ≤ 24) && s.data.toList.all Sx.letB)) ∧ w' = w := by
 have HS := hid (spanLetter_any s w hs)
 clear hs
 obtain ⟨b, hb⟩ : ∃ b, s.data.toList.all Sx.letB = b := ⟨_, rfl⟩
 rw [hb] at HS ⊢
 clear hb
 by_cases h : s.size ≤ 24
 ·go_enter Tryz.func192, Tryz.ntmps192
  go_wp2_with (go_at_call 210; refine HS.out.mono ?_; rintro e w1 ⟨⟨n, rfl, hn⟩, rfl⟩)
  go_ret
  exact ⟨ret_bool (by simp [h]), rfl⟩
 ·go_enter Tryz.func192, Tryz.ntmps192
  go_wp2_with fail
  go_ret
  exact ⟨ret_bool (by simp [h]), rfl⟩

theorem pLetters_str (l : Tx.Bs) (w : World) (hs : l.length ≤ maxLen) {b : Bool} (h : Sx.lettersB l = b) :
  Calls Tryz.prog 152 #[strV l] w fun e w' => e = .returned (.bool b) ∧ w' = w := by
 have HS := hid (isAllLetter_any ⟨l.toArray⟩ w (by rw [strV_size]; exact hs))
 have HB : Hid ((decide ((⟨l.toArray⟩ : ByteArray).size ≤ 24) && (⟨l.toArray⟩ : ByteArray).data.toList.all Sx.letB) = b) := by show _ = _; rw [← h, strV_size, strV_data, Sx.lettersB, Bool.and_comm]
 clear h hs
 rw [HB.out] at HS
 clear HB
 go_enter Tryz.func152, Tryz.ntmps152
 go_wp2_with (go_at_call 192; refine HS.out.mono ?_; rintro e w1 ⟨rfl, rfl⟩)
 go_ret
 exact ⟨rfl, rfl⟩
theorem pName_str (l : Tx.Bs) (w : World) (hs : l.length ≤ maxLen) {b : Bool} (h : Sx.nameB l = b) :
  Calls Tryz.prog 151 #[strV l] w fun e w' => e = .returned (.bool b) ∧ w' = w := by
 have HS := hid (isAllName_any ⟨l.toArray⟩ w (by rw [strV_size]; exact hs))
 cases l with
 | nil =>
   have HB : Hid (false = b) := by show _ = _; rw [← h]; rfl
   clear h hs HS
   go_enter Tryz.func151, Tryz.ntmps151
   go_wp2_with fail
   go_ret
   exact ⟨ret_bool HB.out, rfl⟩
 | cons c r =>
   have h0 : (⟨(c :: r).toArray⟩ : ByteArray)[0]'(by rw [strV_size]; simp) = c := rfl
   have hs0 : 0 < (⟨(c :: r).toArray⟩ : ByteArray).size := by rw [strV_size]; simp
   obtain ⟨A, hA⟩ : ∃ A, (decide ((⟨(c :: r).toArray⟩ : ByteArray).size ≤ 24) && (⟨(c :: r).toArray⟩ : ByteArray).data.toList.all Sx.nameC) = A := ⟨_, rfl⟩
   have HB : Hid ((Sx.letB c && A) = b) := by show _ = _; rw [← h, ← hA, strV_size, strV_data, Sx.nameB, Sx.headL, Bool.and_assoc]
   rw [hA] at HS
   clear h hs hA
   cases h1 : Sx.letB c
   ·have H1 := hid h1
    have HB2 : Hid (false = b) := by show _ = _; rw [← HB.out, h1]; rfl
    clear h1 HB
    go_enter Tryz.func151, Tryz.ntmps151
    go_wp2_with (go_at_call 191; refine (pLetter_is _ _ H1.out).mono ?_; rintro e w1 ⟨rfl, rfl⟩)
    go_ret
    exact ⟨ret_bool HB2.out, rfl⟩
   ·have H1 := hid h1
    have HB2 : Hid (A = b) := by show _ = _; rw [← HB.out, h1]; rfl
    clear h1 HB
    go_enter Tryz.func151, Tryz.ntmps151
    go_wp2_with (first | (go_at_call 191; refine (pLetter_is _ _ H1.out).mono ?_; rintro e w1 ⟨rfl, rfl⟩) | (go_at_call 192; refine HS.out.mono ?_; rintro e w1 ⟨rfl, rfl⟩))
    go_ret
    exact ⟨ret_bool HB2.out, rfl⟩
end
section
open Go.RowKit


theorem isLeap_any (y : Int) (w : World) (h1 : 0 ≤ y) (h2 : y ≤ 20000) :
  Calls Tryz.prog 144 #[.int .i64 y] w fun e w' => e = .returned (.bool (Cv.lpB y)) ∧ w' = w := by
 by_cases a : y % 4 = 0 <;> by_cases b : y % 100 = 0 <;> by_cases c : y % 400 = 0
 all_goals
  have hh : Hid (Cv.lpB y = decide (y % 4 = 0 ∧ (y % 100 ≠ 0 ∨ y % 400 = 0))) := rfl
  go_enter Tryz.func144, Tryz.ntmps144
  go_wp2
  go_ret
  exact ⟨ret_bool (by rw [hh.out]; simp [a, b, c]), rfl⟩

theorem monthDays_any (y m : Int) (w : World) (h1 : 0 ≤ y) (h2 : y ≤ 20000) :
  Calls Tryz.prog 85 #[.int .i64 y, .int .i64 m] w fun e w' => e = .returned (.int .i64 (Cv.dim y m)) ∧ w' = w := by
 have hh : Hid (Cv.dim y m = if m = 4 ∨ m = 6 ∨ m = 9 ∨ m = 11 then 30 else if m = 2 then (if Cv.lpB y = true then 29 else 28) else 31) := rfl
 by_cases a : m = 4
 ·have e : (m == 4) = true := by simp [a]
  go_enter Tryz.func85, Tryz.ntmps85
  go_wp2
  go_ret
  exact ⟨ret_int (by rw [hh.out]; simp [a]), rfl⟩
 by_cases b : m = 6
 ·go_enter Tryz.func85, Tryz.ntmps85
  go_wp2
  go_ret
  exact ⟨ret_int (by rw [hh.out]; simp [b]), rfl⟩
 by_cases c : m = 9
 ·go_enter Tryz.func85, Tryz.ntmps85
  go_wp2
  go_ret
  exact ⟨ret_int (by rw [hh.out]; simp [c]), rfl⟩
 by_cases d : m = 11
 ·go_enter Tryz.func85, Tryz.ntmps85
  go_wp2
  go_ret
  exact ⟨ret_int (by rw [hh.out]; simp [d]), rfl⟩
 by_cases g : m = 2
 ·cases hl : Cv.lpB y
  all_goals
   have hl' := hid hl
   clear hl
   go_enter Tryz.func85, Tryz.ntmps85
   go_wp2_with (go_at_call 144; refine (isLeap_any y _ h1 h2).mono ?_; rintro e w' ⟨rfl, rfl⟩; rw [hl'.out])
   go_ret
   exact ⟨ret_int (by rw [hh.out]; simp [g, hl'.out]), rfl⟩
 ·go_enter Tryz.func85, Tryz.ntmps85
  go_wp2
  go_ret
  exact ⟨ret_int (by rw [hh.out]; simp [a, b, c, d, g]), rfl⟩

theorem daysAhead_any (y : Int) (w : World) (h1 : 1 ≤ y) (h2 : y ≤ 20000) :
  Calls Tryz.prog 141 #[.int .i64 y] w fun e w' => e = .returned (.int .i64 (Cv.dby y)) ∧ w' = w := by
 have hh : Hid (Cv.dby y = (y - 1) * 365 + (y - 1) / 4 - (y - 1) / 100 + (y - 1) / 400) := rfl
 go_enter Tryz.func141, Tryz.ntmps141
 go_wp2
 go_ret
 exact ⟨ret_int (by rw [hh.out]), rfl⟩

theorem isMonth_any (y m : Int) (w : World) :
  Calls Tryz.prog 84 #[.int .i64 y, .int .i64 m] w fun e w' => e = .returned (.bool (Cv.monB y m)) ∧ w' = w := by
 have hh : Hid (Cv.monB y m = decide (1 ≤ y ∧ y ≤ 9999 ∧ 1 ≤ m ∧ m ≤ 12)) := rfl
 by_cases a : 1 ≤ y <;> by_cases b : y ≤ 9999 <;> by_cases c : 1 ≤ m <;> by_cases d : m ≤ 12
 all_goals
  go_enter Tryz.func84, Tryz.ntmps84
  go_wp2
  go_ret
  exact ⟨ret_bool (by rw [hh.out]; simp [a, b, c, d]), rfl⟩

theorem isMonth_is (y m : Int) (w : World) {b : Bool} (h : Cv.monB y m = b) :
  Calls Tryz.prog 84 #[.int .i64 y, .int .i64 m] w fun e w' => e = .returned (.bool b) ∧ w' = w := by
 subst h; exact isMonth_any y m w

end
section
open Go.RowKit

theorem weekday_any (n : Int) (w : World) :
  Calls Tryz.prog 82 #[.int .i64 n] w fun e w' => e = .returned (.int .i64 (Cv.wd n)) ∧ w' = w := by
 obtain ⟨t1, t2, t3⟩ := tmod7 n
 have hh : Hid (Cv.wd n = (n.tmod 7 + 7 + 4) % 7) := t1.symm
 clear t1
 go_enter Tryz.func82, Tryz.ntmps82
 go_wp2
 go_ret
 exact ⟨ret_int (by rw [hh.out]), rfl⟩
end
end Go.Proofs.YtkhlkohlccndgaaGreat
