/- From one table to another, in plain terms: what both have ahead, and behind. -/
import Derived.Test.YtombhnjmelidcaaTb
namespace Go.Proofs.Ytombhnjmelidcaa.Tb
set_option linter.unusedVariables false
set_option linter.unusedSimpArgs false

structure IsPre (a b : List Cg) (h : Nat) : Prop where
  la : h ≤ a.length
  lb : h ≤ b.length
  same : ∀ i, i < h → a[i]? = b[i]?
  stop : h < a.length → h < b.length → ¬ a[h]? = b[h]?
theorem pre_unique {a b : List Cg} {h k : Nat} (p : IsPre a b h) (q : IsPre a b k) : h = k := by
  rcases Nat.lt_trichotomy h k with l | l | l
  · exact absurd (q.same h l) (p.stop (Nat.lt_of_lt_of_le l q.la) (Nat.lt_of_lt_of_le l q.lb))
  · exact l
  · exact absurd (p.same k l) (q.stop (Nat.lt_of_lt_of_le l p.la) (Nat.lt_of_lt_of_le l p.lb))
structure IsSuf (a b : List Cg) (h s : Nat) : Prop where
  la : h + s ≤ a.length
  lb : h + s ≤ b.length
  same : ∀ i, i < s → a[a.length - 1 - i]? = b[b.length - 1 - i]?
  stop : h + s < a.length → h + s < b.length → ¬ a[a.length - 1 - s]? = b[b.length - 1 - s]?
theorem suf_unique {a b : List Cg} {h s k : Nat} (p : IsSuf a b h s) (q : IsSuf a b h k) : s = k := by
  rcases Nat.lt_trichotomy s k with l | l | l
  · exact absurd (q.same s l) (p.stop (by have := q.la; omega) (by have := q.lb; omega))
  · exact l
  · exact absurd (p.same k l) (q.stop (by have := p.la; omega) (by have := p.lb; omega))
/- what is put between -/
def mid (b : List Cg) (h s : Nat) : List Cg := (b.drop h).take (b.length - s - h)
theorem mid_snoc {b : List Cg} {h i : Nat} {c : Cg} (hi : h ≤ i) (hc : b[i]? = some c) : (b.drop h).take (i + 1 - h) = (b.drop h).take (i - h) ++ [c] := by
  obtain ⟨h1, h2⟩ := List.getElem?_eq_some_iff.1 hc
  rw [show i + 1 - h = (i - h) + 1 by omega, List.take_succ_eq_append_getElem (by simp; omega)]
  simp [show h + (i - h) = i by omega, h2]
structure IsDiff (t u : Tbl) (p : Pt) : Prop where
  first : p.first = u.first
  parts : ∃ h s : Nat, p.head = h ∧ p.tail = s ∧ IsPre t.ch u.ch h ∧ IsSuf t.ch u.ch h s ∧ p.put = mid u.ch h s
theorem diff_unique {t u : Tbl} {p q : Pt} (hp : IsDiff t u p) (hq : IsDiff t u q) : p = q := by
  obtain ⟨h, s, p1, p2, p3, p4, p5⟩ := hp.parts
  obtain ⟨h', s', q1, q2, q3, q4, q5⟩ := hq.parts
  obtain rfl := pre_unique p3 q3
  obtain rfl := suf_unique p4 q4
  obtain ⟨a, b, c, d⟩ := p
  obtain ⟨a', b', c', d'⟩ := q
  have f1 := hp.first
  have f2 := hq.first
  simp only at *
  subst p1 p2 p5 q1 q2 q5 f1 f2
  rfl
/- a patch that is applied -/
def applied (t : Tbl) (p : Pt) : Tbl := ⟨p.first, t.ch.take p.head.toNat ++ p.put ++ t.ch.drop (t.ch.length - p.tail.toNat)⟩
def fitsB (t : Tbl) (p : Pt) : Bool := decide (0 ≤ p.head ∧ 0 ≤ p.tail ∧ p.head ≤ t.ch.length ∧ p.tail ≤ t.ch.length - p.head)
def applyE (t : Tbl) (p : Pt) : Int := if fitsB t p = false then 3 else if 1000 < p.put.length then 2 else tableE (applied t p)
end Go.Proofs.Ytombhnjmelidcaa.Tb
