/- What is joined is split as it was, on plain lists. -/
import Derived.Test.YtgnopbmcnadmdabDoorTxF
import Derived.Test.YtgnopbmcnadmdabDoorLnM
import Derived.Test.YtgnopbmcnadmdabDoorRfM
namespace Go.Proofs.YtgnopbmcnadmdabDoor.Tx
set_option linter.unusedSimpArgs false
set_option linter.unusedVariables false

theorem jok_txt {c : UInt8} (h : jok c = true) : txt c = true ∧ c ≠ 34 := by
  unfold jok at h
  simp only [Bool.and_eq_true, Bool.not_eq_true', beq_eq_false_iff_ne] at h
  refine ⟨h.1, ?_⟩
  rintro rfl
  exact h.2 rfl
theorem txt_jok {c : UInt8} (h : txt c = true) (h2 : c ≠ 34) : jok c = true := by
  unfold jok
  simp only [Bool.and_eq_true, Bool.not_eq_true', beq_eq_false_iff_ne]
  refine ⟨h, fun q => h2 ?_⟩
  apply UInt8.toNat_inj.1
  have : (34 : UInt8).toNat = 34 := rfl
  omega
theorem tq_jok : ∀ (l : Bs) (p : Bs × Bs), tq l = some p → p.1.all jok = true
  | [], p, h => by simp [tq] at h
  | c :: r, p, h => by
    unfold tq at h
    split at h
    · simp at h; subst h; rfl
    · rename_i h1
      split at h
      · simp at h
      · rename_i h2
        cases hr : tq r with
        | none => simp [hr] at h
        | some q =>
          simp [hr] at h; subst h
          have := tq_jok r q hr
          simp only [List.all_cons, this, Bool.and_true]
          exact txt_jok (by simpa using h2) h1
theorem tu_jok : ∀ (l : Bs) (p : Bs × Bs), tu l = some p → p.1.all jok = true
  | [], p, h => by simp [tu] at h; subst h; rfl
  | c :: r, p, h => by
    unfold tu at h
    split at h
    · simp at h; subst h; rfl
    · split at h
      · simp at h
      · rename_i h2
        cases hr : tu r with
        | none => simp [hr] at h
        | some q =>
          simp [hr] at h; subst h
          have := tu_jok r q hr
          simp only [List.all_cons, this, Bool.and_true]
          exact txt_jok (by simpa using fun k => h2 (.inl k)) (fun k => h2 (.inr k))
theorem field_jok (l : Bs) (p : Bs × Bs) (h : field l = some p) : p.1.all jok = true := by
  cases l with
  | nil => simp [field] at h
  | cons c r =>
    by_cases h34 : c = 34
    · subst h34
      rw [field_q] at h
      cases hq : tq r with
      | none => rw [hq] at h; cases h
      | some q =>
        rw [hq] at h
        by_cases he : ends q.2 = true
        · simp [he] at h; subst h; exact tq_jok r _ hq
        · simp [he] at h
    · rw [field_u c r h34] at h
      exact tu_jok _ _ h
theorem fields_jok : ∀ (m n : Nat) (l : Bs), ∀ f ∈ (fields m n l).1, f.all jok = true
  | 0, n, l => by simp [fields]
  | m + 1, n, l => by
    unfold fields
    cases hk : skip l with
    | nil => simp
    | cons c r =>
      simp only
      split
      · simp
      · cases hf : field (c :: r) with
        | none => simp
        | some p =>
          simp only
          split
          · simp
          · split
            · have := fields_jok m (n + 1) p.2
              intro f hf'
              simp at hf'
              rcases hf' with rfl | hf'
              · exact field_jok _ _ hf
              · exact this f hf'
            · simp
theorem jfErr_ok {f : Bs} (h : f.all jok = true) (h2 : f.length ≤ 24) : jfErr f = 0 := by
  rw [jfErr, if_neg (by simp [h]), if_neg (by omega)]
theorem jfErr_parts {f : Bs} (h : jfErr f = 0) : f.all jok = true ∧ f.length ≤ 24 := by
  unfold jfErr at h
  split at h
  · simp at h
  · rename_i h1
    split at h
    · simp at h
    · exact ⟨by simpa using h1, by omega⟩

/- the text of a line's fields -/
def rowText (first : Bool) : List Bs → Bs
  | [] => []
  | f :: r => (if first then [] else [32]) ++ jfText f ++ rowText false r
theorem jrow_ok : ∀ (fs : List Bs) (acc : Bs) (b : Bool), (∀ f ∈ fs, jfErr f = 0) → jrow acc b fs = (acc ++ rowText b fs ++ [10], 0)
  | [], acc, b, _ => by simp [jrow, rowText]
  | f :: r, acc, b, h => by
    rw [jrow, if_neg (by simp [h f (by simp)]), jrow_ok r _ false (fun g hg => h g (by simp [hg]))]
    simp [rowText]
theorem jrow_all : ∀ (fs : List Bs) (acc : Bs) (b : Bool), (jrow acc b fs).2 = 0 → ∀ f ∈ fs, jfErr f = 0
  | [], acc, b, _ => by simp
  | f :: r, acc, b, h => by
    rw [jrow] at h
    split at h
    · rename_i g; exact absurd h g
    · rename_i g
      intro x hx
      simp at hx
      rcases hx with rfl | hx
      · exact Decidable.not_not.1 g
      · exact jrow_all r _ false h x hx
theorem rowText_ends (fs : List Bs) : ends (rowText false fs) = true := by
  cases fs with
  | nil => rfl
  | cons f r => simp [rowText, ends, gap]
theorem tq_text : ∀ (f rest : Bs), f.all jok = true → tq (f ++ 34 :: rest) = some (f, rest)
  | [], rest, _ => by simp [tq]
  | c :: f, rest, h => by
    simp only [List.all_cons, Bool.and_eq_true] at h
    obtain ⟨h1, h2⟩ := jok_txt h.1
    rw [List.cons_append, tq_go c _ h2 h1, tq_text f rest h.2]
    rfl
theorem tu_text : ∀ (f rest : Bs), f.all jok = true → marks f = false → ends rest = true → tu (f ++ rest) = some (f, rest)
  | [], rest, _, _, he => by
    cases rest with
    | nil => simp [tu]
    | cons c r =>
      simp only [ends, Bool.or_eq_true, beq_iff_eq] at he
      exact tu_end c r he
  | c :: f, rest, h, hm, he => by
    simp only [List.all_cons, Bool.and_eq_true] at h
    obtain ⟨h1, h2⟩ := jok_txt h.1
    simp only [marks, List.any_cons, Bool.or_eq_false_iff, beq_eq_false_iff_ne] at hm
    rw [List.cons_append, tu_go c _ hm.1.1 hm.1.2 h1 h2, tu_text f rest h.2 hm.2 he]
    rfl
/- a field's text opens with neither a gap nor a sharp sign, and is read as the field -/
theorem jfText_field (f rest : Bs) (h : f.all jok = true) (he : ends rest = true) : ∃ c r, jfText f ++ rest = c :: r ∧ gap c = false ∧ c ≠ 35 ∧ field (c :: r) = some (f, rest) := by
  by_cases hq : f = [] ∨ marks f = true
  · refine ⟨34, f ++ 34 :: rest, by rw [jfText, if_pos hq]; simp, by decide, by decide, ?_⟩
    rw [field_q, tq_text f rest h]
    simp [he]
  · rw [jfText, if_neg hq]
    cases f with
    | nil => exact absurd (.inl rfl) hq
    | cons c f =>
      have hm : marks (c :: f) = false := by
        cases k : marks (c :: f)
        · rfl
        · exact absurd (.inr k) hq
      have ht := tu_text (c :: f) rest h hm he
      simp only [marks, List.any_cons, Bool.or_eq_false_iff, beq_eq_false_iff_ne] at hm
      simp only [List.all_cons, Bool.and_eq_true] at h
      refine ⟨c, f ++ rest, rfl, hm.1.1, hm.1.2, ?_⟩
      rw [field_u c _ (jok_txt h.1).2]
      exact ht
theorem skip_text (b : Bool) (f rest : Bs) (c : UInt8) (r : Bs) (h : jfText f ++ rest = c :: r) (hg : gap c = false) : skip ((if b then [] else [32]) ++ jfText f ++ rest) = c :: r := by
  have e : skip (c :: r) = c :: r := by rw [skip, if_neg (by simp [hg])]
  cases b
  · simp only [Bool.false_eq_true, if_false, List.append_assoc, h, List.cons_append, List.nil_append]
    rw [skip, if_pos (by decide), e]
  · simp only [if_true, List.nil_append, h, e]
theorem fields_text : ∀ (fs : List Bs) (M n : Nat) (b : Bool), (∀ f ∈ fs, jfErr f = 0) → n + fs.length ≤ 12 → (rowText b fs).length < M → fields M n (rowText b fs) = (fs, 0)
  | [], M, n, b, _, _, hM => by
    rw [fields_step M n _ hM]
    simp [rowText, skip]
  | f :: r, M, n, b, h, hn, hM => by
    obtain ⟨hj, hl⟩ := jfErr_parts (h f (by simp))
    obtain ⟨c, t, e, hg, h35, hf⟩ := jfText_field f (rowText false r) hj (rowText_ends r)
    have ih := fields_text r M (n + 1) false (fun g hg => h g (by simp [hg])) (by simp at hn; omega) (by
      unfold rowText at hM
      simp only [List.length_append] at hM
      omega)
    rw [fields_step M n _ hM]
    rw [show rowText b (f :: r) = (if b then [] else [32]) ++ jfText f ++ rowText false r from rfl, skip_text b f _ c t e hg]
    simp only [hf]
    rw [if_neg h35, if_neg (by simp at hn; omega), ih]
    simp
theorem rowF_text (inn : Bool) (fs : List Bs) (h : ∀ f ∈ fs, jfErr f = 0) (h12 : fs.length ≤ 12) : rowF ((if inn then [32] else []) ++ rowText true fs) = (fs, 0) := by
  cases inn
  · simp only [Bool.false_eq_true, if_false, List.nil_append, rowF]
    exact fields_text fs _ 0 true h (by omega) (by omega)
  · simp only [if_true, rowF]
    have e : ∀ (l : Bs) (M : Nat), l.length + 1 < M → fields M 0 ([32] ++ l) = fields M 0 l := by
      intro l M hM
      rw [fields_step M 0 ([32] ++ l) (by simp; omega), fields_step M 0 l (by omega)]
      rw [show skip ([32] ++ l) = skip l by rw [List.cons_append, List.nil_append, skip, if_pos (by decide)]]
    rw [e _ _ (by simp)]
    exact fields_text fs _ 0 true h (by omega) (by simp; omega)
theorem rowText_head (fs : List Bs) (h : ∀ f ∈ fs, jfErr f = 0) (h0 : fs ≠ []) : inner (rowText true fs) = false := by
  cases fs with
  | nil => exact absurd rfl h0
  | cons f r =>
    obtain ⟨hj, hl⟩ := jfErr_parts (h f (by simp))
    obtain ⟨c, t, e, hg, _, _⟩ := jfText_field f (rowText false r) hj (rowText_ends r)
    simp only [rowText, if_true, List.nil_append, e, inner]
    exact hg
theorem jok_ne10 {c : UInt8} (h : jok c = true) : c ≠ 10 := by
  rintro rfl; exact absurd h (by decide)
theorem rowText_ne10 : ∀ (fs : List Bs) (b : Bool), (∀ f ∈ fs, jfErr f = 0) → ∀ c ∈ rowText b fs, c ≠ 10
  | [], b, _ => by simp [rowText]
  | f :: r, b, h => by
    obtain ⟨hj, hl⟩ := jfErr_parts (h f (by simp))
    intro c hc
    simp only [rowText, List.mem_append] at hc
    rcases hc with (hc | hc) | hc
    · split at hc
      · simp at hc
      · simp at hc; subst hc; decide
    · unfold jfText at hc
      split at hc
      · simp at hc
        rcases hc with rfl | hc | rfl
        · decide
        · exact jok_ne10 (List.all_eq_true.1 hj c hc)
        · decide
      · exact jok_ne10 (List.all_eq_true.1 hj c hc)
    · exact rowText_ne10 r false (fun g hg => h g (by simp [hg])) c hc

/- a line that may be joined -/
def Good (l : Ln) : Prop := l.fields ≠ [] ∧ l.fields.length ≤ 12 ∧ ∀ f ∈ l.fields, jfErr f = 0
def lineText (l : Ln) : Bs := (if l.inner then [32] else []) ++ rowText true l.fields
theorem jline_good {l : Ln} (h : Good l) : jline l.inner l.fields = (lineText l ++ [10], 0) := by
  rw [jline, if_neg h.1, if_neg (by have := h.2.1; omega), jrow_ok _ _ _ h.2.2]
  rfl
theorem good_of {l : Ln} (h : (jline l.inner l.fields).2 = 0) : Good l := by
  unfold jline at h
  split at h
  · simp at h
  · rename_i h1
    split at h
    · simp at h
    · exact ⟨h1, by omega, jrow_all _ _ _ h⟩
def linesText : List Ln → Bs
  | [] => []
  | l :: r => lineText l ++ 10 :: linesText r
theorem jgo_good : ∀ (ls : List Ln) (acc : Bs) (n : Int), (∀ l ∈ ls, Good l) → jgo acc n ls = if 8000 < (acc ++ linesText ls).length then ([], 0, 2) else (acc ++ linesText ls, 0, 0)
  | [], acc, n, _ => by simp [jgo, linesText]
  | l :: r, acc, n, h => by
    rw [jgo, jline_good (h l (by simp)), if_neg (by simp), jgo_good r _ _ (fun x hx => h x (by simp [hx]))]
    simp [linesText]
theorem jgo_all : ∀ (ls : List Ln) (acc : Bs) (n : Int), (jgo acc n ls).2.2 = 0 → ∀ l ∈ ls, Good l
  | [], acc, n, _ => by simp
  | l :: r, acc, n, h => by
    rw [jgo] at h
    split at h
    · rename_i g; exact absurd h g
    · rename_i g
      intro x hx
      simp at hx
      rcases hx with rfl | hx
      · exact good_of (Decidable.not_not.1 g)
      · exact jgo_all r _ _ h x hx
theorem join_good {ls : List Ln} (h : (join ls).2.2 = 0) : ls.length ≤ 200 ∧ (∀ l ∈ ls, Good l) ∧ (linesText ls).length ≤ 8000 ∧ (join ls).1 = linesText ls := by
  unfold join at h ⊢
  split
  · rename_i q; rw [if_pos q] at h; simp at h
  · rename_i q
    rw [if_neg q] at h
    have hg := jgo_all ls _ _ h
    rw [jgo_good ls _ _ hg] at h ⊢
    split
    · rename_i k; rw [if_pos k] at h; simp at h
    · rename_i k
      exact ⟨by omega, hg, by simpa using k, by simp⟩
def renum : Int → List Ln → List Ln
  | _, [] => []
  | n, l :: r => ⟨n, l.inner, l.fields⟩ :: renum (n + 1) r
theorem renum_len : ∀ (ls : List Ln) (n : Int), (renum n ls).length = ls.length
  | [], n => rfl
  | l :: r, n => by simp [renum, renum_len r (n + 1)]
theorem lineText_ne10 {l : Ln} (h : Good l) : ∀ c ∈ lineText l, c ≠ 10 := by
  intro c hc
  simp only [lineText, List.mem_append] at hc
  rcases hc with hc | hc
  · split at hc
    · simp at hc; subst hc; decide
    · simp at hc
  · exact rowText_ne10 _ _ h.2.2 c hc
theorem lineText_inner {l : Ln} (h : Good l) : inner (lineText l) = l.inner := by
  unfold lineText
  cases hi : l.inner
  · simpa using rowText_head _ h.2.2 h.1
  · simp [inner, gap]
theorem go_text : ∀ (ls : List Ln) (n : Int), (∀ l ∈ ls, Good l) → go n (rows (linesText ls)) = ⟨renum n ls, 0, 0⟩
  | [], n, _ => by
    simp [linesText, rows, go, rowF_nil, renum]
  | l :: r, n, h => by
    have hl := h l (by simp)
    rw [linesText, rows_feed _ _ (lineText_ne10 hl), go]
    have hr : rowF (lineText l) = (l.fields, 0) := rowF_text l.inner l.fields hl.2.2 hl.2.1
    have ih := go_text r (n + 1) (fun x hx => h x (by simp [hx]))
    rw [hr, ih, if_neg (by simp), if_neg (by simp), if_neg hl.1, lineText_inner hl]
    rfl
theorem split_join {ls : List Ln} (h : (join ls).2.2 = 0) : split (join ls).1 = ⟨renum 1 ls, 0, 0⟩ := by
  obtain ⟨h1, h2, h3, h4⟩ := join_good h
  rw [h4]
  exact split_ok (by omega) (go_text ls 1 h2) (by rw [renum_len]; omega)
/- lines that were split may be joined, but for the text's length -/
theorem split_good (s : Bs) : ∀ l ∈ (split s).lines, Good l := by
  intro l hl
  obtain ⟨r, hf, _, _, h0⟩ := (split_lines s).2 l hl
  obtain ⟨h1, h2⟩ := split_counts s l hl
  refine ⟨by rw [hf]; exact h0, h1, fun f hf' => jfErr_ok ?_ (h2 f hf')⟩
  rw [hf] at hf'
  exact fields_jok _ _ _ f hf'
theorem join_split (s : Bs) : (join (split s).lines).2.2 = 0 ∨ (join (split s).lines).2.2 = 2 := by
  have hl := (split_lines s).1
  rw [join, if_neg (by omega), jgo_good _ _ _ (split_good s)]
  split
  · exact .inr rfl
  · exact .inl rfl
theorem renum_alike : ∀ (ls : List Ln) (n : Int), Alike false (renum n ls) ls ∧ Alike false ls (renum n ls) := by
  have key : ∀ (ls : List Ln) (n : Int) (i : Nat) (a b : Ln), (renum n ls)[i]? = some a → ls[i]? = some b → a.inner = b.inner ∧ a.fields = b.fields := by
    intro ls
    induction ls with
    | nil => intro n i a b h; simp [renum] at h
    | cons l r ih =>
      intro n i a b h1 h2
      cases i with
      | zero => simp [renum] at h1 h2; subst h1 h2; exact ⟨rfl, rfl⟩
      | succ i => exact ih (n + 1) i a b (by simpa [renum] using h1) (by simpa using h2)
  intro ls n
  refine ⟨⟨renum_len ls n, fun i a b ha hb => ⟨fun q => (by cases q), key ls n i a b ha hb⟩⟩, ⟨(renum_len ls n).symm, fun i a b ha hb => ⟨fun q => (by cases q), ?_⟩⟩⟩
  obtain ⟨h1, h2⟩ := key ls n i b a hb ha
  exact ⟨h1.symm, h2.symm⟩
end Go.Proofs.YtgnopbmcnadmdabDoor.Tx
