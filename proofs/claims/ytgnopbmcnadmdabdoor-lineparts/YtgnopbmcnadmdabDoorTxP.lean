/- The lines of two texts, a line feed between, are those of both: on plain lists. -/
import Derived.Test.YtgnopbmcnadmdabDoorTxF
namespace Go.Proofs.YtgnopbmcnadmdabDoor.Tx
set_option linter.unusedSimpArgs false
set_option linter.unusedVariables false

theorem rows_10 (s : Bs) : rows (10 :: s) = [] :: rows s := by rw [rows, if_pos rfl]
theorem rows_cons {c : UInt8} (h : c ≠ 10) {s x : Bs} {xs : List Bs} (e : rows s = x :: xs) : rows (c :: s) = (c :: x) :: xs := by rw [rows, if_neg h, e]
theorem go_cons (n : Int) (r : Bs) (rs : List Bs) : go n (r :: rs) = if (rowF r).2 ≠ 0 then ⟨[], n, (rowF r).2⟩ else if (go (n + 1) rs).err ≠ 0 then ⟨[], (go (n + 1) rs).number, (go (n + 1) rs).err⟩ else
      ⟨if (rowF r).1 = [] then (go (n + 1) rs).lines else ⟨n, inner r, (rowF r).1⟩ :: (go (n + 1) rs).lines, 0, 0⟩ := by rw [go]
theorem rows_app : ∀ (s t : Bs), rows (s ++ 10 :: t) = rows s ++ rows t
  | [], t => by simp [rows]
  | c :: s, t => by
    have ih := rows_app s t
    simp only [List.cons_append]
    by_cases hc : c = 10
    · subst hc
      rw [rows_10, rows_10, ih]; rfl
    · cases h : rows s with
      | nil => exact absurd h (rows_ne s)
      | cons x xs =>
        rw [h] at ih
        rw [rows_cons hc ih, rows_cons hc h]; rfl
def feeds (s : Bs) : Nat := 1 + s.countP (· == 10)
theorem rows_feeds : ∀ (s : Bs), (rows s).length = feeds s
  | [] => by simp [rows, feeds]
  | c :: s => by
    have ih := rows_feeds s
    unfold rows
    by_cases hc : c = 10
    · subst hc
      simp [feeds, ih]; omega
    · rw [if_neg hc]
      cases h : rows s with
      | nil => exact absurd h (rows_ne s)
      | cons x xs =>
        rw [h] at ih
        simp [feeds, hc] at ih ⊢
        exact ih
def shift (k : Int) (l : Ln) : Ln := ⟨l.number + k, l.inner, l.fields⟩
theorem go_shift : ∀ (rs : List Bs) (n k : Int), (go (n + k) rs).lines = (go n rs).lines.map (shift k) ∧ (go (n + k) rs).err = (go n rs).err ∧ ((go n rs).err ≠ 0 → (go (n + k) rs).number = (go n rs).number + k)
  | [], n, k => by simp [go]
  | r :: rs, n, k => by
    have ih := go_shift rs (n + 1) k
    rw [show n + 1 + k = n + k + 1 by omega] at ih
    obtain ⟨i1, i2, i3⟩ := ih
    unfold go
    by_cases h1 : (rowF r).2 ≠ 0
    · rw [if_pos h1, if_pos h1]; simp
    · rw [if_neg h1, if_neg h1, i2]
      by_cases h2 : (go (n + 1) rs).err ≠ 0
      · rw [if_pos h2, if_pos h2]
        simp [h2, i3 h2]
      · rw [if_neg h2, if_neg h2]
        by_cases h3 : (rowF r).1 = []
        · simp [h3, i1]
        · simp [h3, i1, shift]
theorem go_number : ∀ (rs : List Bs) (n : Int), (go n rs).err ≠ 0 → n ≤ (go n rs).number
  | [], n, h => by simp [go] at h
  | r :: rs, n, h => by
    have ih := go_number rs (n + 1)
    unfold go at h ⊢
    by_cases h1 : (rowF r).2 ≠ 0
    · rw [if_pos h1]; simp
    · rw [if_neg h1] at h ⊢
      by_cases h2 : (go (n + 1) rs).err ≠ 0
      · rw [if_pos h2]
        have := ih h2
        show n ≤ (go (n + 1) rs).number
        omega
      · rw [if_neg h2] at h; simp at h
theorem go_number2 : ∀ (rs : List Bs) (n : Int), (go n rs).err ≠ 0 → (go n rs).number < n + rs.length
  | [], n, h => by simp [go] at h
  | r :: rs, n, h => by
    have ih := go_number2 rs (n + 1)
    rw [go_cons] at h ⊢
    by_cases h1 : (rowF r).2 ≠ 0
    · rw [if_pos h1]; simp; omega
    · rw [if_neg h1] at h ⊢
      by_cases h2 : (go (n + 1) rs).err ≠ 0
      · rw [if_pos h2]
        have := ih h2
        show (go (n + 1) rs).number < n + ((r :: rs).length : Int)
        simp; omega
      · rw [if_neg h2] at h; simp at h
theorem go_line : ∀ (rs : List Bs) (n : Int), ∀ l ∈ (go n rs).lines, n ≤ l.number ∧ l.number < n + rs.length
  | [], n => by simp [go]
  | r :: rs, n => by
    intro l hl
    have ih := go_line rs (n + 1) l
    rw [go_cons] at hl
    simp only [List.length_cons]
    by_cases h1 : (rowF r).2 ≠ 0
    · rw [if_pos h1] at hl; simp at hl
    · rw [if_neg h1] at hl
      by_cases h2 : (go (n + 1) rs).err ≠ 0
      · rw [if_pos h2] at hl; simp at hl
      · rw [if_neg h2] at hl
        simp only at hl
        split at hl
        · have := ih hl; omega
        · simp at hl
          rcases hl with rfl | hl
          · simp only; omega
          · have := ih hl; omega
theorem split_numbers (t : Bs) (h : t.length ≤ 8000) : (0 ≤ (split t).number ∧ (split t).number ≤ 8001) ∧ ∀ l ∈ (split t).lines, 0 ≤ l.number ∧ l.number ≤ 8001 := by
  have hf : ((rows t).length : Int) ≤ 8001 := by
    rw [rows_feeds]
    unfold feeds
    have := List.countP_le_length (p := (· == 10)) (l := t)
    omega
  unfold split
  rw [if_neg (by omega)]
  split
  · rename_i q
    have h1 := go_number (rows t) 1 q
    have h2 := go_number2 (rows t) 1 q
    refine ⟨⟨by show 0 ≤ (go 1 (rows t)).number; omega, by show (go 1 (rows t)).number ≤ 8001; omega⟩, by simp⟩
  · split
    · simp
    · refine ⟨by simp, fun l hl => ?_⟩
      have := go_line (rows t) 1 l hl
      omega
theorem go_app : ∀ (xs ys : List Bs) (n : Int), (go n xs).err = 0 → go n (xs ++ ys) = if (go (n + xs.length) ys).err ≠ 0 then ⟨[], (go (n + xs.length) ys).number, (go (n + xs.length) ys).err⟩ else ⟨(go n xs).lines ++ (go (n + xs.length) ys).lines, 0, 0⟩
  | [], ys, n, _ => by
    have ht := go_tidy n ys
    unfold Tidy at ht
    simp only [List.nil_append, List.length_nil, Int.natCast_zero, Int.add_zero, go]
    generalize go n ys = R at *
    obtain ⟨a, b, c⟩ := R
    by_cases hc : c = 0
    · simp [hc] at ht ⊢; exact ht
    · simp [hc] at ht ⊢; exact ht
  | r :: xs, ys, n, h => by
    have ih := go_app xs ys (n + 1)
    rw [show n + 1 + (xs.length : Int) = n + ((r :: xs).length : Int) by simp; omega] at ih
    simp only [List.cons_append]
    unfold go at h
    by_cases h1 : (rowF r).2 ≠ 0
    · rw [if_pos h1] at h; exact absurd h h1
    · rw [if_neg h1] at h
      by_cases h2 : (go (n + 1) xs).err ≠ 0
      · rw [if_pos h2] at h; exact absurd h h2
      · have ih := ih (Decidable.not_not.1 h2)
        rw [go_cons n r (xs ++ ys), go_cons n r xs, if_neg h1, if_neg h1, if_neg h2, ih]
        by_cases h3 : (go (n + ((r :: xs).length : Int)) ys).err ≠ 0
        · simp only [if_pos h3]
        · simp only [if_neg h3]
          by_cases h4 : (rowF r).1 = []
          · simp [h4]
          · simp [h4]
section
variable {s t : Bs}
theorem split_parts0 (hs : (split s).err = 0) (h : s.length + t.length < 8000) : (go 1 (rows s)).err = 0 ∧ (split s).lines = (go 1 (rows s)).lines ∧ (go 1 (rows s)).lines.length ≤ 200 := by
  unfold split at hs ⊢
  rw [if_neg (by omega)] at hs ⊢
  split
  · rename_i q; rw [if_pos q] at hs; exact absurd hs q
  · rename_i q
    rw [if_neg q] at hs
    split
    · rename_i k; rw [if_pos k] at hs; simp at hs
    · exact ⟨Decidable.not_not.1 q, rfl, by omega⟩
theorem split_both (hs : (split s).err = 0) (h : s.length + t.length < 8000) : split (s ++ 10 :: t) = 
    if (go 1 (rows t)).err ≠ 0 then ⟨[], (go 1 (rows t)).number + feeds s, (go 1 (rows t)).err⟩
    else if 200 < (split s).lines.length + (go 1 (rows t)).lines.length then ⟨[], 0, 2⟩ else ⟨(split s).lines ++ (go 1 (rows t)).lines.map (shift (feeds s)), 0, 0⟩ := by
  obtain ⟨h1, h2, h3⟩ := split_parts0 (t := t) hs h
  obtain ⟨g1, g2, g3⟩ := go_shift (rows t) 1 (feeds s)
  have ha := go_app (rows s) (rows t) 1 h1
  rw [← rows_app, rows_feeds, g1, g2] at ha
  rw [h2]
  unfold split
  rw [if_neg (by simp; omega), ha]
  by_cases he : (go 1 (rows t)).err ≠ 0
  · simp only [if_pos he]
    simp [he, g3 he]
  · simp only [if_neg he]
    simp
theorem parts_form (hs : (split s).err = 0) (h : s.length + t.length < 8000) (ht : (split t).err ≠ 0) :
    (split (s ++ 10 :: t)).err = (split t).err ∧ ((split t).number = 0 ∧ (split (s ++ 10 :: t)).number = 0 ∨ 0 < (split t).number ∧ (split (s ++ 10 :: t)).number = (split t).number + feeds s) := by
  have hb := split_both hs h
  by_cases he : (go 1 (rows t)).err ≠ 0
  · have e : split t = ⟨[], (go 1 (rows t)).number, (go 1 (rows t)).err⟩ := by unfold split; rw [if_neg (by omega), if_pos he]
    have := go_number (rows t) 1 he
    rw [hb, if_pos he, e]
    exact ⟨rfl, .inr ⟨by show 0 < (go 1 (rows t)).number; omega, rfl⟩⟩
  · by_cases hl : 200 < (go 1 (rows t)).lines.length
    · have e : split t = ⟨[], 0, 2⟩ := by unfold split; rw [if_neg (by omega), if_neg he, if_pos hl]
      rw [hb, if_neg he, if_pos (by omega), e]
      exact ⟨rfl, .inl ⟨rfl, rfl⟩⟩
    · have e : split t = ⟨(go 1 (rows t)).lines, 0, 0⟩ := by unfold split; rw [if_neg (by omega), if_neg he, if_neg hl]
      rw [e] at ht
      exact absurd rfl ht
theorem parts_many (hs : (split s).err = 0) (h : s.length + t.length < 8000) (ht : (split t).err = 0) (hl : 200 < (split s).lines.length + (split t).lines.length) : split (s ++ 10 :: t) = ⟨[], 0, 2⟩ := by
  obtain ⟨h1, h2, h3⟩ := split_parts0 (s := t) (t := s) ht (by omega)
  rw [h2] at hl
  rw [split_both hs h, if_neg (by simp [h1]), if_pos hl]
theorem parts_ok (hs : (split s).err = 0) (h : s.length + t.length < 8000) (ht : (split t).err = 0) (hl : ¬ 200 < (split s).lines.length + (split t).lines.length) : split (s ++ 10 :: t) = ⟨(split s).lines ++ (split t).lines.map (shift (feeds s)), 0, 0⟩ := by
  obtain ⟨h1, h2, h3⟩ := split_parts0 (s := t) (t := s) ht (by omega)
  rw [h2] at hl ⊢
  rw [split_both hs h, if_neg (by simp [h1]), if_neg hl]
end
end Go.Proofs.YtgnopbmcnadmdabDoor.Tx
