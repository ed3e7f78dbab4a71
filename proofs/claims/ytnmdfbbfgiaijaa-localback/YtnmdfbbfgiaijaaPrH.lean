/- Plain: times gathered by how far clocks were ever ahead, in whatever order, and then sorted, are those of the document. -/
import Derived.Test.YtnmdfbbfgiaijaaPrG
import Derived.Test.YtnmdfbbfgiaijaaLcE
namespace Go.Proofs.Ytnmdfbbfgiaijaa
open Go.Maps
set_option linter.unusedVariables false
set_option linter.unusedSimpArgs false

theorem sameInt (a s : Int) : (Lit.int .i64 a).sameKey (.int .i64 s) = decide (a = s) := by
  show decide (IntKind.i64 = IntKind.i64 ∧ a = s) = _
  simp
/- what was gathered: times of those shifts that have come -/
def Coll (t : Tb.Tbl) (N : Int) (S : List Int) (left : Lit → Bool) (ts : List Int) : Prop :=
  ts.Nodup ∧ ∀ x, x ∈ ts ↔ (Tb.inYears x = true ∧ (Tb.look t x).shift = N - x ∧ (N - x) ∈ S ∧ left (.int .i64 (N - x)) = false)
section
variable {t : Tb.Tbl} {N : Int} {S : List Int} {left : Lit → Bool} {ts : List Int}
theorem coll_start : Coll t N S (Maps.has (shiftSet S)) [] := by
  refine ⟨List.nodup_nil, fun x => ?_⟩
  rw [has_shiftSet]
  constructor
  · intro h; cases h
  · rintro ⟨_, _, h, h'⟩
    have : S.contains (N - x) = true := by simpa using h
    rw [this] at h'; cases h'
theorem coll_yes (h : Coll t N S left ts) {s : Int} (hs : s ∈ S) (hl : left (.int .i64 s) = true) (h1 : Tb.inYears (N - s) = true) (h2 : (Tb.look t (N - s)).shift = s) :
    Coll t N S (fun z => left z && !z.sameKey (.int .i64 s)) (ts ++ [N - s]) := by
  have e : N - (N - s) = s := by omega
  refine ⟨?_, fun x => ?_⟩
  · rw [List.nodup_append]
    refine ⟨h.1, by simp, fun a ha b hb q => ?_⟩
    simp at hb
    subst hb
    subst q
    have := (h.2 _).1 ha
    rw [e, hl] at this
    exact absurd this.2.2.2 (by simp)
  · simp only [sameInt]
    constructor
    · intro hx
      simp at hx
      rcases hx with hx | rfl
      · obtain ⟨a, b, c, d⟩ := (h.2 x).1 hx
        exact ⟨a, b, c, by rw [d]; rfl⟩
      · exact ⟨h1, by rw [e]; exact h2, by rw [e]; exact hs, by rw [e]; simp⟩
    · rintro ⟨a, b, c, d⟩
      by_cases q : N - x = s
      · have : x = N - s := by omega
        simp [this]
      · simp [q] at d
        simp [(h.2 x).2 ⟨a, b, c, d⟩]
theorem coll_no (h : Coll t N S left ts) {s : Int} (h1 : ¬ (Tb.inYears (N - s) = true ∧ (Tb.look t (N - s)).shift = s)) :
    Coll t N S (fun z => left z && !z.sameKey (.int .i64 s)) ts := by
  refine ⟨h.1, fun x => ?_⟩
  simp only [sameInt]
  constructor
  · intro hx
    obtain ⟨a, b, c, d⟩ := (h.2 x).1 hx
    exact ⟨a, b, c, by rw [d]; rfl⟩
  · rintro ⟨a, b, c, d⟩
    by_cases q : N - x = s
    · have e : x = N - s := by omega
      subst e
      exact absurd ⟨a, b.trans q⟩ h1
    · simp [q] at d
      exact (h.2 x).2 ⟨a, b, c, d⟩
end
theorem lookL_in : ∀ (l : List Tb.Cg) (o : Tb.Lc) (n : Int), Tb.lookL o n l = o ∨ ∃ c ∈ l, Tb.lookL o n l = c.lc
  | [], o, n => .inl rfl
  | c :: r, o, n => by
    simp only [Tb.lookL]
    rcases lookL_in r (if c.at_ ≤ n then c.lc else o) n with h | ⟨d, hd, h⟩
    · by_cases q : c.at_ ≤ n
      · right; exact ⟨c, by simp, by rw [h, if_pos q]⟩
      · left; rw [h, if_neg q]
    · right; exact ⟨d, by simp [hd], h⟩
theorem look_in (t : Tb.Tbl) (n : Int) : (Tb.look t n).shift ∈ shiftsTo t.first t.ch t.ch.length := by
  unfold shiftsTo Tb.look
  rw [List.take_length]
  rcases lookL_in t.ch t.first n with h | ⟨c, hc, h⟩
  · rw [h]; simp
  · rw [h]; simp; right; exact ⟨c, hc, rfl⟩
theorem coll_end {t : Tb.Tbl} {N : Int} {left : Lit → Bool} {ts : List Int} (h : Coll t N (shiftsTo t.first t.ch t.ch.length) left ts) (hl : ∀ kl, left kl = false) (hg : Tb.tableE t = 0) :
    ts.mergeSort (fun x y => decide (x ≤ y)) = Tb.spans N Tb.least t.first.shift t.ch := by
  obtain ⟨g1, g2, g3⟩ := Tb.good_parts hg
  obtain ⟨q1, q2, _⟩ := Tb.goE_rise t.ch t.first none g3
  obtain ⟨s1, s2⟩ := Tb.spans_sorted t.ch N Tb.least t.first.shift q1 (fun c hc => ⟨(q2 c hc).1, (q2 c hc).2.1⟩)
  have hmem : ∀ x, x ∈ ts ↔ x ∈ Tb.spans N Tb.least t.first.shift t.ch := by
    intro x
    rw [h.2 x]
    constructor
    · rintro ⟨a, b, _, _⟩
      have a' : decide (Tb.least ≤ x ∧ x ≤ Tb.most) = true := a
      simp only [decide_eq_true_eq] at a'
      rw [Tb.mem_when hg N x a'.1 a'.2]
      unfold Tb.wallN
      omega
    · intro hx
      have b := s1 x hx
      have e := (Tb.mem_when hg N x b.1 b.2).1 hx
      unfold Tb.wallN at e
      have e' : N - x = (Tb.look t x).shift := by omega
      refine ⟨?_, e'.symm, by rw [e']; exact look_in t x, hl _⟩
      show decide (Tb.least ≤ x ∧ x ≤ Tb.most) = true
      simp only [decide_eq_true_eq]
      exact b
  have tr : ∀ a b c : Int, decide (a ≤ b) = true → decide (b ≤ c) = true → decide (a ≤ c) = true := fun a b c h1 h2 => by simp only [decide_eq_true_eq] at *; omega
  have tot : ∀ a b : Int, (decide (a ≤ b) || decide (b ≤ a)) = true := fun a b => by simp only [Bool.or_eq_true, decide_eq_true_eq]; omega
  refine List.Perm.eq_of_pairwise (le := fun a b => decide (a ≤ b) = true) (fun a b _ _ h1 h2 => by simp only [decide_eq_true_eq] at h1 h2; omega) (List.pairwise_mergeSort tr tot ts) (s2.imp (fun {a b} q => by simp only [decide_eq_true_eq]; omega)) ((List.mergeSort_perm ts _).trans ((List.perm_ext_iff_of_nodup h.1 (s2.imp (fun {a b} q => by omega))).2 hmem))
end Go.Proofs.Ytnmdfbbfgiaijaa
