/- Lines of fields in plain lists of bytes: what parts fields, what a field is, the fields of a line. -/
namespace Go.Proofs.Ytombhnjmelidcaa.Tx
set_option linter.unusedSimpArgs false
set_option linter.unusedVariables false

abbrev Bs := List UInt8
def gap (c : UInt8) : Bool := c == 32 || c == 9
def txt (c : UInt8) : Bool := decide (32 ≤ c.toNat ∧ c.toNat ≤ 126) || c == 9

/- what stands between two quotes, and what is behind the second one -/
def tq : Bs → Option (Bs × Bs)
  | [] => none
  | c :: r => if c = 34 then some ([], r) else if txt c = false then none else (tq r).map fun p => (c :: p.1, p.2)
/- a field without quotes around it, and what is behind it -/
def tu : Bs → Option (Bs × Bs)
  | [] => some ([], [])
  | c :: r => if gap c = true ∨ c = 35 then some ([], c :: r) else if txt c = false ∨ c = 34 then none else (tu r).map fun p => (c :: p.1, p.2)
/- does a field end here? -/
def ends : Bs → Bool
  | [] => true
  | c :: _ => gap c || c == 35
def skip : Bs → Bs
  | [] => []
  | c :: r => if gap c = true then skip r else c :: r
def field : Bs → Option (Bs × Bs)
  | [] => none
  | c :: r => if c = 34 then (match tq r with | none => none | some p => if ends p.2 = true then some p else none) else tu (c :: r)
/- the fields of a line from here on, n fields being ahead: those fields and 0, or none and what is wrong -/
def fields : Nat → Nat → Bs → List Bs × Int
  | 0, _, _ => ([], 0)
  | m + 1, n, l =>
    match skip l with
    | [] => ([], 0)
    | c :: r => if c = 35 then ([], 0) else
      match field (c :: r) with
      | none => ([], 1)
      | some p => if 24 < p.1.length ∨ 12 < n + 1 then ([], 2) else
        if (fields m (n + 1) p.2).2 = 0 then (p.1 :: (fields m (n + 1) p.2).1, 0) else ([], (fields m (n + 1) p.2).2)

theorem tq_len : ∀ (l : Bs) (p : Bs × Bs), tq l = some p → p.2.length < l.length ∧ p.1.length < l.length
  | [], p, h => by simp [tq] at h
  | c :: r, p, h => by
    unfold tq at h
    split at h
    · simp at h; subst h; simp
    · split at h
      · simp at h
      · cases hr : tq r with
        | none => simp [hr] at h
        | some q =>
          simp [hr] at h; subst h
          have := tq_len r q hr
          simp; omega
theorem tu_len : ∀ (l : Bs) (p : Bs × Bs), tu l = some p → p.1.length + p.2.length = l.length
  | [], p, h => by simp [tu] at h; subst h; simp
  | c :: r, p, h => by
    unfold tu at h
    split at h
    · simp at h; subst h; simp
    · split at h
      · simp at h
      · cases hr : tu r with
        | none => simp [hr] at h
        | some q =>
          simp [hr] at h; subst h
          have := tu_len r q hr
          simp; omega
theorem skip_len : ∀ (l : Bs), (skip l).length ≤ l.length
  | [] => by simp [skip]
  | c :: r => by
    unfold skip; split
    · have := skip_len r; simp; omega
    · simp
theorem skip_head : ∀ (l : Bs) (c : UInt8) (r : Bs), skip l = c :: r → gap c = false
  | [], c, r, h => by simp [skip] at h
  | d :: t, c, r, h => by
    unfold skip at h; split at h
    · exact skip_head t c r h
    · rename_i g; simp at h; obtain ⟨rfl, _⟩ := h; simpa using g
theorem field_q (r : Bs) : field (34 :: r) = match tq r with | none => none | some p => if ends p.2 = true then some p else none := by simp [field]
theorem field_u (c : UInt8) (r : Bs) (h : c ≠ 34) : field (c :: r) = tu (c :: r) := by simp [field, h]
theorem tu_go (c : UInt8) (r : Bs) (h1 : gap c = false) (h2 : c ≠ 35) (h3 : txt c = true) (h4 : c ≠ 34) : tu (c :: r) = (tu r).map fun p => (c :: p.1, p.2) := by
  conv => lhs; unfold tu
  rw [if_neg (by simp [h1, h2]), if_neg (by simp [h3, h4])]
theorem tu_bad (c : UInt8) (r : Bs) (h1 : gap c = false) (h2 : c ≠ 35) (h3 : txt c = false ∨ c = 34) : tu (c :: r) = none := by
  conv => lhs; unfold tu
  rw [if_neg (by simp [h1, h2]), if_pos h3]
theorem tu_end (c : UInt8) (r : Bs) (h : gap c = true ∨ c = 35) : tu (c :: r) = some ([], c :: r) := by
  conv => lhs; unfold tu
  rw [if_pos h]
theorem tq_go (c : UInt8) (r : Bs) (h1 : c ≠ 34) (h2 : txt c = true) : tq (c :: r) = (tq r).map fun p => (c :: p.1, p.2) := by
  conv => lhs; unfold tq
  rw [if_neg h1, if_neg (by simp [h2])]
theorem tq_bad (c : UInt8) (r : Bs) (h1 : c ≠ 34) (h2 : txt c = false) : tq (c :: r) = none := by
  conv => lhs; unfold tq
  rw [if_neg h1, if_pos h2]
theorem tq_end (r : Bs) : tq (34 :: r) = some ([], r) := by simp [tq]
theorem tu_rest : ∀ (l : Bs) (p : Bs × Bs), tu l = some p → ends p.2 = true
  | [], p, h => by simp [tu] at h; subst h; rfl
  | c :: r, p, h => by
    by_cases h1 : gap c = true ∨ c = 35
    · rw [tu_end c r h1] at h; simp at h; subst h
      rcases h1 with h1 | h1 <;> simp [ends, h1]
    · by_cases h2 : txt c = false ∨ c = 34
      · rw [tu_bad c r (by simpa using fun k => h1 (.inl k)) (fun k => h1 (.inr k)) h2] at h; cases h
      · rw [tu_go c r (by simpa using fun k => h1 (.inl k)) (fun k => h1 (.inr k)) (by simpa using fun k => h2 (.inl k)) (fun k => h2 (.inr k))] at h
        cases hr : tu r with
        | none => rw [hr] at h; cases h
        | some q =>
          rw [hr] at h; simp at h; subst h
          exact tu_rest r q hr
theorem field_len (c : UInt8) (r : Bs) (p : Bs × Bs) (hg : gap c = false) (h35 : c ≠ 35) (h : field (c :: r) = some p) : p.2.length < (c :: r).length := by
  by_cases h34 : c = 34
  · subst h34
    rw [field_q] at h
    cases hq : tq r with
    | none => rw [hq] at h; cases h
    | some q =>
      rw [hq] at h
      by_cases he : ends q.2 = true
      · simp [he] at h; subst h
        have := tq_len r q hq; simp; omega
      · simp [he] at h
  · rw [field_u c r h34] at h
    by_cases ht : txt c = false
    · rw [tu_bad c r hg h35 (.inl ht)] at h; cases h
    · rw [tu_go c r hg h35 (by simpa using ht) h34] at h
      cases hr : tu r with
      | none => rw [hr] at h; cases h
      | some q =>
        rw [hr] at h; simp at h; subst h
        have := tu_len r q hr
        simp; omega
/- enough is enough -/
theorem fields_more : ∀ (m k n : Nat) (l : Bs), l.length < m → l.length < k → fields m n l = fields k n l
  | 0, _, _, l, h, _ => by omega
  | _, 0, _, l, _, h => by omega
  | m + 1, k + 1, n, l, h1, h2 => by
    unfold fields
    have hs := skip_len l
    cases hk : skip l with
    | nil => rfl
    | cons c r =>
      simp only
      split
      · rfl
      · rename_i h35
        cases hf : field (c :: r) with
        | none => rfl
        | some p =>
          simp only
          have hl := field_len c r p (skip_head l c r hk) h35 hf
          rw [hk] at hs
          rw [fields_more m k (n + 1) p.2 (by simp at hl hs; omega) (by simp at hl hs; omega)]
theorem fields_step (M n : Nat) (l : Bs) (h : l.length < M) : fields M n l = (match skip l with
    | [] => ([], 0)
    | c :: r => if c = 35 then ([], 0) else
      match field (c :: r) with
      | none => ([], 1)
      | some p => if 24 < p.1.length ∨ 12 < n + 1 then ([], 2) else
        if (fields M (n + 1) p.2).2 = 0 then (p.1 :: (fields M (n + 1) p.2).1, 0) else ([], (fields M (n + 1) p.2).2)) := by
  cases M with
  | zero => omega
  | succ M =>
    conv => lhs; unfold fields
    have hs := skip_len l
    cases hk : skip l with
    | nil => rfl
    | cons c r =>
      simp only
      by_cases h35 : c = 35
      · rw [if_pos h35, if_pos h35]
      · rw [if_neg h35, if_neg h35]
        cases hf : field (c :: r) with
        | none => rfl
        | some p =>
          have hl := field_len c r p (skip_head l c r hk) h35 hf
          rw [hk] at hs
          simp only
          rw [fields_more M (M + 1) (n + 1) p.2 (by simp at hl hs; omega) (by simp at hl hs; omega)]
/- what is gathered so far, and what is to come, make the whole -/
def Rel (G : List Bs × Int) (out : List Bs) (R : List Bs × Int) : Prop := if R.2 = 0 then G = (out ++ R.1, 0) else G = ([], R.2)
theorem rel_start (G : List Bs × Int) (h : G.2 ≠ 0 → G.1 = []) : Rel G [] G := by
  unfold Rel
  obtain ⟨a, b⟩ := G
  by_cases hb : b = 0
  · simp [hb]
  · simp [hb]; exact h hb
theorem fields_err : ∀ (m n : Nat) (l : Bs), (fields m n l).2 ≠ 0 → (fields m n l).1 = []
  | 0, n, l => by simp [fields]
  | m + 1, n, l => by
    unfold fields
    cases hk : skip l with
    | nil => simp
    | cons c r =>
      simp only
      by_cases h35 : c = 35
      · rw [if_pos h35]; simp
      · rw [if_neg h35]
        cases hf : field (c :: r) with
        | none => simp
        | some p =>
          simp only
          split
          · simp
          · split <;> simp
section
variable {M n : Nat} {l : Bs} {G : List Bs × Int} {out : List Bs}
theorem rel_end (h : Rel G out (fields M n l)) (hl : l.length < M) (he : skip l = [] ∨ ∃ r, skip l = 35 :: r) : G = (out, 0) := by
  rw [fields_step M n l hl] at h
  rcases he with he | ⟨r, he⟩
  · rw [he] at h; simpa [Rel] using h
  · rw [he] at h; simpa [Rel] using h
theorem rel_form {c : UInt8} {r : Bs} (h : Rel G out (fields M n l)) (hl : l.length < M) (hs : skip l = c :: r) (hc : c ≠ 35) (hf : field (c :: r) = none) : G = ([], 1) := by
  rw [fields_step M n l hl, hs] at h
  simpa [Rel, hc, hf] using h
theorem rel_many {c : UInt8} {r : Bs} {p : Bs × Bs} (h : Rel G out (fields M n l)) (hl : l.length < M) (hs : skip l = c :: r) (hc : c ≠ 35) (hf : field (c :: r) = some p) (hm : 24 < p.1.length ∨ 12 < n + 1) : G = ([], 2) := by
  rw [fields_step M n l hl, hs] at h
  simp only [hf] at h
  rw [if_neg hc, if_pos hm] at h
  simpa [Rel] using h
theorem rel_next {c : UInt8} {r : Bs} {p : Bs × Bs} (h : Rel G out (fields M n l)) (hl : l.length < M) (hs : skip l = c :: r) (hc : c ≠ 35) (hf : field (c :: r) = some p) (hm : ¬ (24 < p.1.length ∨ 12 < n + 1)) : Rel G (out ++ [p.1]) (fields M (n + 1) p.2) := by
  rw [fields_step M n l hl, hs] at h
  simp only [hf] at h
  rw [if_neg hc, if_neg hm] at h
  unfold Rel at h ⊢
  by_cases h0 : (fields M (n + 1) p.2).2 = 0
  · rw [if_pos h0] at h ⊢
    simpa using h
  · rw [if_neg h0] at h ⊢
    simpa [h0] using h
end
end Go.Proofs.Ytombhnjmelidcaa.Tx
