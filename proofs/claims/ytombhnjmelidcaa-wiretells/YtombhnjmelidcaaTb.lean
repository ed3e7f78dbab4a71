/- Tables in plain terms: what is wrong with one; what it tells at a time; what clocks show, and when; from one to another. -/
import Derived.Test.YtombhnjmelidcaaSx
namespace Go.Proofs.Ytombhnjmelidcaa.Tb
open Tx (Bs)
set_option linter.unusedSimpArgs false
set_option linter.unusedVariables false

structure Lc where
  shift : Int
  save : Int
  name : Bs
deriving DecidableEq
structure Cg where
  at_ : Int
  lc : Lc
deriving DecidableEq
structure Tbl where
  first : Lc
  ch : List Cg
deriving DecidableEq
structure Pt where
  first : Lc
  head : Int
  tail : Int
  put : List Cg
deriving DecidableEq

theorem lc_ext {a b : Lc} (h1 : a.shift = b.shift) (h2 : a.save = b.save) (h3 : a.name = b.name) : a = b := by
  cases a; cases b; simp_all
abbrev least : Int := -62135596800
abbrev most : Int := 253402300799
def localE (l : Lc) : Int :=
  if (Sx.inB l.shift (-75600) 75600 && Sx.inB l.save 0 10800) = false then 3
  else if (!l.name.isEmpty && decide (l.name.length ≤ 24) && Sx.plainB l.name) = false then 1 else 0
/- is it no later than what was ahead? -/
def late (prev : Option Int) (n : Int) : Bool := match prev with | none => false | some p => decide (n ≤ p)
def goE (was : Lc) (prev : Option Int) : List Cg → Int
  | [] => 0
  | c :: r => if Sx.inB c.at_ least most = false then 3 else if late prev c.at_ = true then 4 else if localE c.lc ≠ 0 then localE c.lc else if c.lc = was then 4 else goE c.lc (some c.at_) r
def tableE (t : Tbl) : Int := if 1000 < t.ch.length then 2 else if localE t.first ≠ 0 then localE t.first else goE t.first none t.ch
def lookL (out : Lc) (at_ : Int) : List Cg → Lc
  | [] => out
  | c :: r => lookL (if c.at_ ≤ at_ then c.lc else out) at_ r
def look (t : Tbl) (at_ : Int) : Lc := lookL t.first at_ t.ch
def inYears (n : Int) : Bool := Sx.inB n least most

/- what is wrong, change by change -/
theorem goE_cons (was : Lc) (prev : Option Int) (c : Cg) (r : List Cg) : goE was prev (c :: r) = if Sx.inB c.at_ least most = false then 3 else if late prev c.at_ = true then 4 else if localE c.lc ≠ 0 then localE c.lc else if c.lc = was then 4 else goE c.lc (some c.at_) r := rfl
theorem goE_1 {was prev c r} (h : Sx.inB c.at_ least most = false) : goE was prev (c :: r) = 3 := by rw [goE_cons, if_pos h]
theorem goE_2 {was prev c r} (h : Sx.inB c.at_ least most = true) (h2 : late prev c.at_ = true) : goE was prev (c :: r) = 4 := by rw [goE_cons, if_neg (by simp [h]), if_pos h2]
theorem goE_3 {was prev c r} (h : Sx.inB c.at_ least most = true) (h2 : late prev c.at_ = false) (h3 : localE c.lc ≠ 0) : goE was prev (c :: r) = localE c.lc := by rw [goE_cons, if_neg (by simp [h]), if_neg (by simp [h2]), if_pos h3]
theorem goE_4 {was prev c r} (h : Sx.inB c.at_ least most = true) (h2 : late prev c.at_ = false) (h3 : localE c.lc = 0) (h4 : c.lc = was) : goE was prev (c :: r) = 4 := by rw [goE_cons, if_neg (by simp [h]), if_neg (by simp [h2]), if_neg (by simp [h3]), if_pos h4]
theorem goE_5 {was prev c r} (h : Sx.inB c.at_ least most = true) (h2 : late prev c.at_ = false) (h3 : localE c.lc = 0) (h4 : ¬ c.lc = was) : goE was prev (c :: r) = goE c.lc (some c.at_) r := by rw [goE_cons, if_neg (by simp [h]), if_neg (by simp [h2]), if_neg (by simp [h3]), if_neg h4]
/- a table that is right -/
def Good (t : Tbl) : Prop := tableE t = 0
def GoodL (l : Lc) : Prop := localE l = 0
theorem goodL_bd {l : Lc} (h : localE l = 0) : -75600 ≤ l.shift ∧ l.shift ≤ 75600 ∧ 0 ≤ l.save ∧ l.save ≤ 10800 ∧ l.name ≠ [] ∧ l.name.length ≤ 24 ∧ Sx.plainB l.name = true := by
  unfold localE at h
  split at h
  · omega
  · rename_i h1
    split at h
    · omega
    · rename_i h2
      have h1' := eq_true_of_ne_false h1
      have h2' := eq_true_of_ne_false h2
      simp only [Bool.and_eq_true, Sx.inB, decide_eq_true_eq] at h1' h2'
      obtain ⟨⟨a1, a2⟩, a3, a4⟩ := h1'
      obtain ⟨⟨b1, b2⟩, b3⟩ := h2'
      exact ⟨a1, a2, a3, a4, (by intro q; rw [q] at b1; cases b1), b2, b3⟩
theorem goE_zero {was : Lc} {prev : Option Int} {c : Cg} {r : List Cg} (h : goE was prev (c :: r) = 0) : least ≤ c.at_ ∧ c.at_ ≤ most ∧ late prev c.at_ = false ∧ localE c.lc = 0 ∧ ¬ c.lc = was ∧ goE c.lc (some c.at_) r = 0 := by
  rw [goE_cons] at h
  split at h
  · omega
  · rename_i h1
    split at h
    · omega
    · rename_i h2
      split at h
      · rename_i h3; exact absurd h h3
      · rename_i h3
        split at h
        · omega
        · rename_i h4
          simp [Sx.inB] at h1
          exact ⟨h1.1, h1.2, by simpa using h2, by simpa using h3, h4, h⟩
theorem good_parts {t : Tbl} (h : tableE t = 0) : t.ch.length ≤ 1000 ∧ localE t.first = 0 ∧ goE t.first none t.ch = 0 := by
  unfold tableE at h
  split at h
  · omega
  · rename_i h1
    split at h
    · rename_i h2; exact absurd h h2
    · rename_i h2; exact ⟨by omega, by simpa using h2, h⟩
/- times rise -/
def Rise : List Cg → Prop
  | [] => True
  | [_] => True
  | a :: b :: r => a.at_ < b.at_ ∧ Rise (b :: r)
theorem goE_rise : ∀ (l : List Cg) (was : Lc) (prev : Option Int), goE was prev l = 0 → Rise l ∧ (∀ c ∈ l, least ≤ c.at_ ∧ c.at_ ≤ most ∧ localE c.lc = 0) ∧ (∀ p, prev = some p → ∀ c ∈ l, p < c.at_)
  | [], _, _, _ => ⟨trivial, by simp, by simp⟩
  | c :: r, was, prev, h => by
    obtain ⟨h1, h2, h3, h4, h5, h6⟩ := goE_zero h
    obtain ⟨r1, r2, r3⟩ := goE_rise r c.lc (some c.at_) h6
    refine ⟨?_, ?_, ?_⟩
    · cases r with
      | nil => trivial
      | cons d r => exact ⟨r3 _ rfl d (by simp), r1⟩
    · intro x hx
      simp at hx
      rcases hx with rfl | hx
      · exact ⟨h1, h2, h4⟩
      · exact r2 x hx
    · intro p hp x hx
      subst hp
      simp [late] at h3
      simp at hx
      rcases hx with rfl | hx
      · exact h3
      · exact Int.lt_trans h3 (r3 _ rfl x hx)
/- what clocks show -/
def wallN (t : Tbl) (at_ : Int) : Int := at_ + (look t at_).shift
def wallD (t : Tbl) (at_ : Int) : Int := wallN t at_ / 86400
def wallE (t : Tbl) (at_ : Int) : Int := if -719162 ≤ wallD t at_ ∧ wallD t at_ ≤ 2932896 then 0 else 3
/- when they show it: in each span between changes -/
def spans (n from_ shift : Int) : List Cg → List Int
  | [] => if from_ ≤ n - shift ∧ n - shift < most + 1 then [n - shift] else []
  | c :: r => (if from_ ≤ n - shift ∧ n - shift < c.at_ then [n - shift] else []) ++ spans n c.at_ c.lc.shift r
/- put in its place -/
def ins (x : Int) : List Int → List Int
  | [] => [x]
  | y :: r => if x < y then x :: y :: r else y :: ins x r
theorem drop_get {α : Type} {l : List α} {i : Nat} {x : α} (h : l[i]? = some x) : l.drop i = x :: l.drop (i + 1) := by
  obtain ⟨hi, rfl⟩ := List.getElem?_eq_some_iff.1 h
  exact List.drop_eq_getElem_cons hi
theorem lookL_yes {o R : Lc} {n : Int} {l : List Cg} {i : Nat} {c : Cg} (h : l[i]? = some c) (hR : R = lookL o n (l.drop i)) (hc : c.at_ ≤ n) : R = lookL c.lc n (l.drop (i + 1)) := by
  rw [hR, drop_get h]; simp only [lookL]; rw [if_pos hc]
theorem lookL_no {o R : Lc} {n : Int} {l : List Cg} {i : Nat} {c : Cg} (h : l[i]? = some c) (hR : R = lookL o n (l.drop i)) (hc : ¬ c.at_ ≤ n) : R = lookL o n (l.drop (i + 1)) := by
  rw [hR, drop_get h]; simp only [lookL]; rw [if_neg hc]
theorem lookL_end {o R : Lc} {n : Int} {l : List Cg} {i : Nat} (h : ¬ i < l.length) (hR : R = lookL o n (l.drop i)) : R = o := by
  rw [hR, List.drop_eq_nil_of_le (by omega)]; rfl
end Go.Proofs.Ytombhnjmelidcaa.Tb
