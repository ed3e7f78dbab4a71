/- When clocks show a time: the answers rise. -/
import Derived.Test.YtombhnjmelidcaaTb
namespace Go.Proofs.Ytombhnjmelidcaa.Tb
set_option linter.unusedVariables false
set_option linter.unusedSimpArgs false

theorem rise_all : ∀ (l : List Cg) (c : Cg), Rise (c :: l) → ∀ d ∈ l, c.at_ < d.at_
  | [], _, _, _, h => by simp at h
  | a :: r, c, h, d, hd => by
    obtain ⟨h1, h2⟩ := h
    simp at hd
    rcases hd with rfl | hd
    · exact h1
    · exact Int.lt_trans h1 (rise_all r a h2 d hd)
theorem rise_tail {c : Cg} {l : List Cg} (h : Rise (c :: l)) : Rise l := by
  cases l with
  | nil => trivial
  | cons d r => exact h.2
theorem spans_sorted : ∀ (l : List Cg) (n f s : Int), Rise l → (∀ c ∈ l, f ≤ c.at_ ∧ c.at_ ≤ most) → (∀ x ∈ spans n f s l, f ≤ x ∧ x ≤ most) ∧ (spans n f s l).Pairwise (· < ·)
  | [], n, f, s, _, _ => by
    simp only [spans]
    split
    · rename_i h; simp; exact ⟨h.1, by have := h.2; omega⟩
    · simp
  | c :: r, n, f, s, hr, hb => by
    have hc := hb c (by simp)
    obtain ⟨i1, i2⟩ := spans_sorted r n c.at_ c.lc.shift (rise_tail hr) (fun d hd => ⟨Int.le_of_lt (rise_all r c hr d hd), (hb d (by simp [hd])).2⟩)
    simp only [spans]
    split
    · rename_i h
      refine ⟨?_, ?_⟩
      · intro x hx
        simp at hx
        rcases hx with rfl | hx
        · exact ⟨h.1, by omega⟩
        · have := i1 x hx; omega
      · simp only [List.singleton_append, List.pairwise_cons]
        exact ⟨fun x hx => by have := i1 x hx; omega, i2⟩
    · simp only [List.nil_append]
      exact ⟨fun x hx => by have := i1 x hx; omega, i2⟩
theorem spans_len : ∀ (l : List Cg) (n f s : Int), (spans n f s l).length ≤ l.length + 1
  | [], n, f, s => by simp only [spans]; split <;> simp
  | c :: r, n, f, s => by
    have := spans_len r n c.at_ c.lc.shift
    simp only [spans]
    split <;> simp <;> omega
/- what is left to gather, from a change on -/
def left (n f s : Int) (ch : List Cg) (i : Nat) : List Int := if i ≤ ch.length then spans n f s (ch.drop i) else []
theorem left_next {n f s : Int} {ch : List Cg} {i : Nat} {c : Cg} (h : ch[i]? = some c) : left n f s ch i = (if f ≤ n - s ∧ n - s < c.at_ then [n - s] else []) ++ left n c.at_ c.lc.shift ch (i + 1) := by
  have hi := (List.getElem?_eq_some_iff.1 h).1
  have e1 : left n f s ch i = spans n f s (ch.drop i) := if_pos (by omega)
  have e2 : left n c.at_ c.lc.shift ch (i + 1) = spans n c.at_ c.lc.shift (ch.drop (i + 1)) := if_pos (by omega)
  rw [e1, e2, drop_get h]
  rfl
theorem left_last {n f s f' s' : Int} {ch : List Cg} {i : Nat} (h : i = ch.length) : left n f s ch i = (if f ≤ n - s ∧ n - s < most + 1 then [n - s] else []) ++ left n f' s' ch (i + 1) := by
  have e1 : left n f s ch i = spans n f s (ch.drop i) := if_pos (by omega)
  have e2 : left n f' s' ch (i + 1) = [] := if_neg (by omega)
  rw [e1, e2, List.drop_eq_nil_of_le (by omega), List.append_nil]
  rfl
theorem left_end {n f s : Int} {ch : List Cg} {i : Nat} (h : ¬ i ≤ ch.length) : left n f s ch i = [] := by unfold left; rw [if_neg h]
theorem good_spans {f : Lc} {ch : List Cg} (h : goE f none ch = 0) (n s : Int) : (∀ x ∈ spans n least s ch, least ≤ x ∧ x ≤ most) ∧ (spans n least s ch).Pairwise (· < ·) := by
  obtain ⟨r1, r2, _⟩ := goE_rise ch f none h
  exact spans_sorted ch n least s r1 fun c hc => ⟨(r2 c hc).1, (r2 c hc).2.1⟩
end Go.Proofs.Ytombhnjmelidcaa.Tb
