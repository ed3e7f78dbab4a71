/- What holds of the lines of a text, on plain lists. -/
import Derived.Test.YtgnopbmcnadmdabDoorTxL
namespace Go.Proofs.YtgnopbmcnadmdabDoor.Tx
set_option linter.unusedSimpArgs false
set_option linter.unusedVariables false

theorem fields_count : ∀ (m n : Nat) (l : Bs), n ≤ 12 → (fields m n l).1.length + n ≤ 12
  | 0, n, l, h => by simp [fields]; exact h
  | m + 1, n, l, h => by
    unfold fields
    cases hk : skip l with
    | nil => simpa using h
    | cons c r =>
      simp only
      split
      · simpa using h
      · cases hf : field (c :: r) with
        | none => simpa using h
        | some p =>
          simp only
          split
          · simpa using h
          · rename_i hm
            split
            · have := fields_count m (n + 1) p.2 (by omega)
              simp at this ⊢; omega
            · simpa using h
theorem fields_each : ∀ (m n : Nat) (l : Bs), ∀ f ∈ (fields m n l).1, f.length ≤ 24
  | 0, n, l => by simp [fields]
  | m + 1, n, l => by
    unfold fields
    cases hk : skip l with
    | nil => simp
    | cons c r =>
      simp only
      split
      · simp
      · cases hf : field (c :: r) with
        | none => simp
        | some p =>
          simp only
          split
          · simp
          · rename_i hm
            split
            · have := fields_each m (n + 1) p.2
              intro f hf'
              simp at hf'
              rcases hf' with rfl | hf'
              · omega
              · exact this f hf'
            · simp
theorem go_lines : ∀ (rs : List Bs) (n : Int), ∀ l ∈ (go n rs).lines, ∃ r ∈ rs, l.fields = (rowF r).1 ∧ l.inner = inner r ∧ (rowF r).2 = 0 ∧ (rowF r).1 ≠ []
  | [], n => by simp [go]
  | r :: rs, n => by
    intro l hl
    unfold go at hl
    split at hl
    · simp at hl
    · rename_i h1
      split at hl
      · simp at hl
      · simp only at hl
        split at hl
        · obtain ⟨x, hx, q⟩ := go_lines rs (n + 1) l hl
          exact ⟨x, by simp [hx], q⟩
        · rename_i h3
          simp at hl
          rcases hl with rfl | hl
          · exact ⟨r, by simp, rfl, rfl, by simpa using h1, h3⟩
          · obtain ⟨x, hx, q⟩ := go_lines rs (n + 1) l hl
            exact ⟨x, by simp [hx], q⟩
theorem split_tidy (s : Bs) : Tidy (split s) := by
  unfold split
  split
  · simp [Tidy]
  · split
    · rename_i h; simp [Tidy, h]
    · split
      · simp [Tidy]
      · simp [Tidy]
theorem split_lines (s : Bs) : (split s).lines.length ≤ 200 ∧ ∀ l ∈ (split s).lines, ∃ r, l.fields = (rowF r).1 ∧ l.inner = inner r ∧ (rowF r).2 = 0 ∧ (rowF r).1 ≠ [] := by
  unfold split
  split
  · simp
  · split
    · simp
    · split
      · simp
      · rename_i h
        refine ⟨by simpa using h, ?_⟩
        intro l hl
        obtain ⟨r, _, q⟩ := go_lines _ _ l hl
        exact ⟨r, q⟩
theorem split_counts (s : Bs) : ∀ l ∈ (split s).lines, l.fields.length ≤ 12 ∧ ∀ f ∈ l.fields, f.length ≤ 24 := by
  intro l hl
  obtain ⟨r, h, _⟩ := (split_lines s).2 l hl
  rw [h]
  exact ⟨fields_count (r.length + 1) 0 r (by omega), fields_each _ _ _⟩
end Go.Proofs.YtgnopbmcnadmdabDoor.Tx
