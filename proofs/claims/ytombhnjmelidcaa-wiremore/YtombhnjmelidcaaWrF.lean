/- A change more: how many bytes more. -/
import Derived.Test.YtombhnjmelidcaaWrC
namespace Go.Proofs.Ytombhnjmelidcaa.Wr
open Tx (Bs)
open Tb (Lc Cg Tbl)
set_option linter.unusedSimpArgs false
set_option linter.unusedVariables false

theorem kinds_snoc (c : Cg) : ∀ (ch : List Cg) (ks : List Lc), kinds ks (ch ++ [c]) = addK (kinds ks ch) c.lc
  | [], ks => rfl
  | d :: r, ks => by simp only [List.cons_append, kinds]; exact kinds_snoc c r (addK ks d.lc)
theorem place_mem (l : Lc) : ∀ ks : List Lc, place l ks = ks.length ↔ l ∉ ks
  | [] => by simp [place]
  | x :: r => by
    simp only [place]
    by_cases e : x = l
    · simp [e]
    · have e' : ¬ l = x := fun q => e q.symm
      have := place_mem l r
      simp [e, e', this]
/- is it other than all that were told? -/
def freshTo (l f : Lc) (ch : List Cg) (i : Nat) : Bool := decide (¬ f = l) && (ch.take i).all (fun c => decide (¬ c.lc = l))
theorem fresh_zero (l f : Lc) (ch : List Cg) : freshTo l f ch 0 = decide (¬ f = l) := by simp [freshTo]
theorem fresh_next {l f : Lc} {ch : List Cg} {i : Nat} {c : Cg} (h : ch[i]? = some c) : freshTo l f ch (i + 1) = (freshTo l f ch i && decide (¬ c.lc = l)) := by
  obtain ⟨hi, e⟩ := List.getElem?_eq_some_iff.1 h
  unfold freshTo
  rw [List.take_succ_eq_append_getElem hi, e, List.all_append, Bool.and_assoc]
  simp
theorem mem_kinds (l f : Lc) (ch : List Cg) : l ∈ kinds [f] ch ↔ f = l ∨ ∃ c ∈ ch, c.lc = l := by
  constructor
  · intro h
    rcases kinds_mem ch [f] l h with q | q
    · simp at q; exact .inl q.symm
    · exact .inr q
  · intro h
    have key : place l (kinds [f] ch) < (kinds [f] ch).length := by
      rcases h with rfl | ⟨c, hc, rfl⟩
      · obtain ⟨a, b⟩ := place_first f ch; rw [a]; exact b
      · exact place_in ch [f] c hc
    by_cases q : l ∈ kinds [f] ch
    · exact q
    · have := (place_mem l _).2 q; omega
theorem fresh_end (l f : Lc) (ch : List Cg) : freshTo l f ch ch.length = decide (place l (kinds [f] ch) = (kinds [f] ch).length) := by
  rw [Bool.eq_iff_iff]
  simp only [place_mem, freshTo, List.take_length, Bool.and_eq_true, decide_eq_true_eq, List.all_eq_true, mem_kinds, not_or, not_exists, not_and]
theorem encode_len_is (t : Tbl) : (encode t).length = 6 + (kindsB (kinds [t.first] t.ch)).length + 7 * t.ch.length := by
  simp only [encode, List.length_append, num_len, body_len]; omega
theorem encode_none (f : Lc) : (encode ⟨f, []⟩).length = 12 + f.name.length := by
  rw [encode_len_is]
  simp [kinds, kindsB, kindB_len]; omega
theorem encode_snoc (f : Lc) (ch : List Cg) (c : Cg) : (encode ⟨f, ch ++ [c]⟩).length = (encode ⟨f, ch⟩).length + (if freshTo c.lc f ch ch.length = true then 7 + (6 + c.lc.name.length) else 7) := by
  rw [encode_len_is, encode_len_is, fresh_end]
  simp only [kinds_snoc, addK]
  by_cases q : place c.lc (kinds [f] ch) = (kinds [f] ch).length
  · simp only [q, if_true, decide_true, kindsB_app, List.length_append, kindsB, kindB_len, List.length_cons, List.length_nil]
    omega
  · simp only [q, if_false, decide_false, List.length_append, List.length_cons, List.length_nil]
    simp
    omega
theorem goE_pre : ∀ (ch r : List Cg) (was : Lc) (p : Option Int), Tb.goE was p (ch ++ r) = 0 → Tb.goE was p ch = 0
  | [], r, was, p, _ => rfl
  | c :: ch, r, was, p, h => by
    obtain ⟨h1, h2, h3, h4, h5, h6⟩ := Tb.goE_zero (by simpa using h)
    have ih := goE_pre ch r c.lc (some c.at_) h6
    rw [Tb.goE_5 (by simp [Sx.inB]; exact ⟨h1, h2⟩) h3 h4 h5]
    exact ih
theorem good_pre {f : Lc} {ch r : List Cg} (h : Tb.tableE ⟨f, ch ++ r⟩ = 0) : Tb.tableE ⟨f, ch⟩ = 0 := by
  obtain ⟨h1, h2, h3⟩ := Tb.good_parts h
  simp only at h1 h2 h3
  unfold Tb.tableE
  simp only
  rw [if_neg (by simp at h1; omega), if_neg (by simp [h2])]
  exact goE_pre ch r f none h3
end Go.Proofs.Ytombhnjmelidcaa.Wr
