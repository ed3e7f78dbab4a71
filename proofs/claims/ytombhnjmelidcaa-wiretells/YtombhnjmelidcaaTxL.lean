/- Lines of a text in plain lists: rows, lines with fields, and what is wrong with them. -/
import Derived.Test.YtombhnjmelidcaaTx
namespace Go.Proofs.Ytombhnjmelidcaa.Tx
set_option linter.unusedSimpArgs false
set_option linter.unusedVariables false

structure Ln where
  number : Int
  inner : Bool
  fields : List Bs

structure Res where
  lines : List Ln
  number : Int
  err : Int

def rows : Bs → List Bs
  | [] => [[]]
  | c :: r => if c = 10 then [] :: rows r else (match rows r with | [] => [[c]] | x :: xs => (c :: x) :: xs)
def inner : Bs → Bool
  | [] => false
  | c :: _ => gap c
def rowF (r : Bs) : List Bs × Int := fields (r.length + 1) 0 r
def go : Int → List Bs → Res
  | _, [] => ⟨[], 0, 0⟩
  | n, r :: rs => if (rowF r).2 ≠ 0 then ⟨[], n, (rowF r).2⟩ else if (go (n + 1) rs).err ≠ 0 then ⟨[], (go (n + 1) rs).number, (go (n + 1) rs).err⟩ else
      ⟨if (rowF r).1 = [] then (go (n + 1) rs).lines else ⟨n, inner r, (rowF r).1⟩ :: (go (n + 1) rs).lines, 0, 0⟩
def split (s : Bs) : Res := if 8000 < s.length then ⟨[], 0, 2⟩ else if (go 1 (rows s)).err ≠ 0 then ⟨[], (go 1 (rows s)).number, (go 1 (rows s)).err⟩ else if 200 < (go 1 (rows s)).lines.length then ⟨[], 0, 2⟩ else ⟨(go 1 (rows s)).lines, 0, 0⟩

/- what is gathered so far, and what is to come, make the whole -/
def RelL (T : Res) (out : List Ln) (R : Res) : Prop := if R.err = 0 then T = ⟨out ++ R.lines, 0, 0⟩ else T = ⟨[], R.number, R.err⟩
def Tidy (R : Res) : Prop := if R.err = 0 then R.number = 0 else R.lines = []
theorem go_tidy (n : Int) (l : List Bs) : Tidy (go n l) := by
  cases l with
  | nil => simp [go, Tidy]
  | cons r rs =>
    unfold go
    split
    · rename_i h; simp [Tidy, h]
    · split
      · rename_i h; simp [Tidy, h]
      · simp [Tidy]
theorem relL_start (R : Res) (h : Tidy R) : RelL R [] R := by
  unfold RelL; unfold Tidy at h
  obtain ⟨a, b, c⟩ := R
  by_cases hc : c = 0
  · simp [hc] at h ⊢; exact h
  · simp [hc] at h ⊢; exact h
section
variable {T : Res} {out : List Ln} {n : Int} {r : Bs} {rs : List Bs}
theorem relL_err (h : RelL T out (go n (r :: rs))) (he : (rowF r).2 ≠ 0) : T = ⟨[], n, (rowF r).2⟩ := by
  unfold go at h
  rw [if_pos he] at h
  simpa [RelL, he] using h
theorem relL_none (h : RelL T out (go n (r :: rs))) (he : (rowF r).2 = 0) (h0 : (rowF r).1 = []) : RelL T out (go (n + 1) rs) := by
  unfold go at h
  rw [if_neg (by simp [he])] at h
  by_cases hr : (go (n + 1) rs).err = 0
  · rw [if_neg (by simp [hr])] at h
    simpa [RelL, h0, hr] using h
  · rw [if_pos hr] at h
    simpa [RelL, hr] using h
theorem relL_some (h : RelL T out (go n (r :: rs))) (he : (rowF r).2 = 0) (h0 : (rowF r).1 ≠ []) : RelL T (out ++ [⟨n, inner r, (rowF r).1⟩]) (go (n + 1) rs) := by
  unfold go at h
  rw [if_neg (by simp [he])] at h
  by_cases hr : (go (n + 1) rs).err = 0
  · rw [if_neg (by simp [hr])] at h
    simpa [RelL, h0, hr] using h
  · rw [if_pos hr] at h
    simpa [RelL, hr] using h
theorem relL_end (h : RelL T out (go n [])) : T = ⟨out, 0, 0⟩ := by simpa [RelL, go] using h
end
theorem rows_ne : ∀ (l : Bs), rows l ≠ []
  | [] => by simp [rows]
  | c :: r => by
    unfold rows; split
    · simp
    · split <;> simp
/- a row that ends at a line feed, and one that ends with the text -/
theorem rows_feed : ∀ (a b : Bs), (∀ c ∈ a, c ≠ 10) → rows (a ++ 10 :: b) = a :: rows b
  | [], b, _ => by simp [rows]
  | c :: a, b, h => by
    have hc : c ≠ 10 := h c (by simp)
    have := rows_feed a b (fun d hd => h d (by simp [hd]))
    simp only [List.cons_append]
    conv => lhs; unfold rows
    rw [if_neg hc, this]
theorem rows_last : ∀ (a : Bs), (∀ c ∈ a, c ≠ 10) → rows a = [a]
  | [], _ => by simp [rows]
  | c :: a, h => by
    have hc : c ≠ 10 := h c (by simp)
    have := rows_last a (fun d hd => h d (by simp [hd]))
    unfold rows
    rw [if_neg hc, this]
theorem rowF_nil : rowF [] = ([], 0) := by simp [rowF, fields, skip]
theorem split_many {s : Bs} (h : 8000 < s.length) : split s = ⟨[], 0, 2⟩ := by unfold split; rw [if_pos h]
theorem split_err {s : Bs} (h : ¬ 8000 < s.length) {n e : Int} (hT : go 1 (rows s) = ⟨[], n, e⟩) (he : e ≠ 0) : split s = ⟨[], n, e⟩ := by unfold split; rw [if_neg h, hT]; simp [he]
theorem split_over {s : Bs} (h : ¬ 8000 < s.length) {o : List Ln} (hT : go 1 (rows s) = ⟨o, 0, 0⟩) (ho : 200 < o.length) : split s = ⟨[], 0, 2⟩ := by unfold split; rw [if_neg h, hT]; simp [ho]
theorem split_ok {s : Bs} (h : ¬ 8000 < s.length) {o : List Ln} (hT : go 1 (rows s) = ⟨o, 0, 0⟩) (ho : ¬ 200 < o.length) : split s = ⟨o, 0, 0⟩ := by unfold split; rw [if_neg h, hT]; simp [ho]
end Go.Proofs.Ytombhnjmelidcaa.Tx
