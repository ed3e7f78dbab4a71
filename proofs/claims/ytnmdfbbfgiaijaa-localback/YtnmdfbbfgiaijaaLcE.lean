/- Each time is one of those at which clocks show what they show then, and at each of those they do: in plain terms. -/
import Derived.Test.YtnmdfbbfgiaijaaLcP
namespace Go.Proofs.Ytnmdfbbfgiaijaa.Tb
set_option linter.unusedVariables false
set_option linter.unusedSimpArgs false

theorem lookL_none : ∀ (l : List Cg) (o : Lc) (n : Int), (∀ c ∈ l, n < c.at_) → lookL o n l = o
  | [], _, _, _ => rfl
  | c :: r, o, n, h => by
    have := h c (by simp)
    simp only [lookL]
    rw [if_neg (by omega)]
    exact lookL_none r o n fun d hd => h d (by simp [hd])
theorem mem_spans : ∀ (l : List Cg) (f N n : Int) (o : Lc), Rise l → (∀ c ∈ l, f ≤ c.at_ ∧ c.at_ ≤ most) → f ≤ n → n ≤ most → (n ∈ spans N f o.shift l ↔ N = n + (lookL o n l).shift)
  | [], f, N, n, o, _, _, h1, h2 => by
    simp only [spans, lookL]
    split
    · simp; omega
    · simp; omega
  | c :: r, f, N, n, o, hr, hb, h1, h2 => by
    have hc := hb c (by simp)
    have hrise : ∀ d ∈ r, c.at_ < d.at_ := rise_all r c hr
    have hb' : ∀ d ∈ r, c.at_ ≤ d.at_ ∧ d.at_ ≤ most := fun d hd => ⟨Int.le_of_lt (hrise d hd), (hb d (by simp [hd])).2⟩
    have hs := (spans_sorted r N c.at_ c.lc.shift (rise_tail hr) hb').1
    simp only [spans, lookL]
    by_cases q : c.at_ ≤ n
    · rw [if_pos q]
      have ih := mem_spans r c.at_ N n c.lc (rise_tail hr) hb' q h2
      rw [← ih, List.mem_append]
      constructor
      · rintro (h | h)
        · split at h
          · simp at h; omega
          · simp at h
        · exact h
      · exact .inr
    · rw [if_neg q, lookL_none r o n (fun d hd => by have := hrise d hd; omega), List.mem_append]
      constructor
      · rintro (h | h)
        · split at h
          · simp at h; omega
          · simp at h
        · have := hs n h; omega
      · intro h
        left
        rw [if_pos (by omega)]
        simp; omega
theorem mem_when {t : Tbl} (h : tableE t = 0) (N n : Int) (h1 : least ≤ n) (h2 : n ≤ most) : n ∈ spans N least t.first.shift t.ch ↔ N = wallN t n := by
  obtain ⟨_, _, g3⟩ := good_parts h
  obtain ⟨r1, r2, _⟩ := goE_rise t.ch t.first none g3
  exact mem_spans t.ch least N n t.first r1 (fun c hc => ⟨(r2 c hc).1, (r2 c hc).2.1⟩) h1 h2
theorem wallErr_parts {t : Tbl} {n : Int} (h : wallErr t n = 0) : tableE t = 0 ∧ least ≤ n ∧ n ≤ most ∧ -719162 ≤ wallD t n ∧ wallD t n ≤ 2932896 := by
  unfold wallErr at h
  split at h
  · rename_i q; exact absurd h q
  · rename_i q
    split at h
    · omega
    · rename_i q2
      have q3 := eq_true_of_ne_false q2
      simp only [inYears, Sx.inB, decide_eq_true_eq] at q3
      unfold wallE at h
      split at h
      · rename_i q4; exact ⟨by simpa using q, q3.1, q3.2, q4.1, q4.2⟩
      · omega
theorem wallErr_ok {t : Tbl} {n : Int} (h : tableE t = 0) (h1 : least ≤ n) (h2 : n ≤ most) (h3 : -719162 ≤ wallD t n) (h4 : wallD t n ≤ 2932896) : wallErr t n = 0 := by
  unfold wallErr
  rw [if_neg (by simp [h]), if_neg (by simp only [inYears, Sx.inB]; rw [decide_eq_true ⟨h1, h2⟩]; simp)]
  unfold wallE
  rw [if_pos ⟨h3, h4⟩]
theorem whenErr_parts {t : Tbl} {y m d s : Int} (h : whenErr t y m d s = 0) : tableE t = 0 ∧ Cv.vldB y m d = true ∧ 0 ≤ s ∧ s < 86400 := by
  unfold whenErr at h
  split at h
  · rename_i q; exact absurd h q
  · rename_i q
    split at h
    · omega
    · rename_i q2
      have q3 := eq_true_of_ne_false q2
      simp only [dayB, Bool.and_eq_true, decide_eq_true_eq] at q3
      exact ⟨by simpa using q, q3.1, q3.2.1, q3.2.2⟩
theorem whenErr_ok {t : Tbl} {y m d s : Int} (h : tableE t = 0) (hv : Cv.vldB y m d = true) (h1 : 0 ≤ s) (h2 : s < 86400) : whenErr t y m d s = 0 := by
  unfold whenErr
  rw [if_neg (by simp [h]), if_neg (by simp only [dayB]; rw [hv, decide_eq_true ⟨h1, h2⟩]; simp)]
/- to: each time is one of those -/
theorem back_to {t : Tbl} {n y m d s : Int} (h : wallErr t n = 0) (hv : Cv.vldB y m d = true) (hn : Cv.num y m d = wallD t n) (hs : s = wallN t n - 86400 * wallD t n) : whenErr t y m d s = 0 ∧ n ∈ whenL t y m d s := by
  obtain ⟨g, b1, b2, d1, d2⟩ := wallErr_parts h
  have hd : wallD t n = wallN t n / 86400 := rfl
  have e := whenErr_ok g hv (s := s) (by omega) (by omega)
  refine ⟨e, ?_⟩
  unfold whenL
  rw [if_pos e]
  exact (mem_when g _ n b1 b2).2 (by rw [hn, hs]; omega)
/- fro: at each of those they show it -/
theorem back_fro {t : Tbl} {n y m d s : Int} (h : whenErr t y m d s = 0) (hn : n ∈ whenL t y m d s) : wallErr t n = 0 ∧ wallD t n = Cv.num y m d ∧ wallN t n - 86400 * wallD t n = s := by
  obtain ⟨g, hv, s1, s2⟩ := whenErr_parts h
  unfold whenL at hn
  rw [if_pos h] at hn
  obtain ⟨_, _, g3⟩ := good_parts g
  obtain ⟨b, _⟩ := good_spans g3 (Cv.num y m d * 86400 + s) t.first.shift
  obtain ⟨b1, b2⟩ := b n hn
  have e := (mem_when g _ n b1 b2).1 hn
  have hd : wallD t n = wallN t n / 86400 := rfl
  have nb := Cv.num_bd hv
  have hD : wallD t n = Cv.num y m d := by rw [hd, ← e]; omega
  exact ⟨wallErr_ok g b1 b2 (by omega) (by omega), hD, by rw [hD, ← e]; omega⟩
theorem when_rise {t : Tbl} {y m d s : Int} (h : whenErr t y m d s = 0) : (whenL t y m d s).Pairwise (· < ·) ∧ (whenL t y m d s).length ≤ 1001 := by
  obtain ⟨g, _⟩ := whenErr_parts h
  obtain ⟨g1, _, g3⟩ := good_parts g
  unfold whenL
  rw [if_pos h]
  exact ⟨(good_spans g3 _ _).2, by have := spans_len t.ch (Cv.num y m d * 86400 + s) least t.first.shift; omega⟩
end Go.Proofs.Ytnmdfbbfgiaijaa.Tb
