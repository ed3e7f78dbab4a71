/- The calendar in plain numbers: leap years, lengths of months, how many days a date is behind the first of January 1970, and that days stand in order as dates do. -/
namespace Go.Proofs.Ytombhnjmelidcaa.Cv

def lpB (y : Int) : Bool := decide (y % 4 = 0 ∧ (y % 100 ≠ 0 ∨ y % 400 = 0))
def dim (y m : Int) : Int := if m = 4 ∨ m = 6 ∨ m = 9 ∨ m = 11 then 30 else if m = 2 then (if lpB y = true then 29 else 28) else 31
def dby (y : Int) : Int := (y - 1) * 365 + (y - 1) / 4 - (y - 1) / 100 + (y - 1) / 400
def cum (y m : Int) : Int := (367 * m - 362) / 12 + (if m ≤ 2 then 0 else if lpB y = true then -1 else -2)
def num (y m d : Int) : Int := dby y + cum y m + d - 1 - 719162
def vldB (y m d : Int) : Bool := decide (1 ≤ y ∧ y ≤ 9999 ∧ 1 ≤ m ∧ m ≤ 12 ∧ 1 ≤ d ∧ d ≤ dim y m)
def monB (y m : Int) : Bool := decide (1 ≤ y ∧ y ≤ 9999 ∧ 1 ≤ m ∧ m ≤ 12)
def wd (n : Int) : Int := (n + 4) % 7
def lp (y : Int) : Int := if lpB y = true then 1 else 0

theorem lpB_iff (y : Int) : lpB y = true ↔ (y % 4 = 0 ∧ (y % 100 ≠ 0 ∨ y % 400 = 0)) := by simp [lpB]
theorem lp_01 (y : Int) : 0 ≤ lp y ∧ lp y ≤ 1 := by unfold lp; split <;> omega
theorem vld_iff {y m d : Int} : vldB y m d = true ↔ (1 ≤ y ∧ y ≤ 9999 ∧ 1 ≤ m ∧ m ≤ 12 ∧ 1 ≤ d ∧ d ≤ dim y m) := by simp [vldB]
theorem mon_iff {y m : Int} : monB y m = true ↔ (1 ≤ y ∧ y ≤ 9999 ∧ 1 ≤ m ∧ m ≤ 12) := by simp [monB]
theorem dim_bd (y m : Int) : 28 ≤ dim y m ∧ dim y m ≤ 31 := by unfold dim; split <;> (try split) <;> (try split) <;> omega

theorem twelve {m : Int} (h1 : 1 ≤ m) (h2 : m ≤ 12) : m = 1 ∨ m = 2 ∨ m = 3 ∨ m = 4 ∨ m = 5 ∨ m = 6 ∨ m = 7 ∨ m = 8 ∨ m = 9 ∨ m = 10 ∨ m = 11 ∨ m = 12 := by omega

theorem cum_succ (y m : Int) (h1 : 1 ≤ m) (h2 : m ≤ 12) : cum y (m + 1) = cum y m + dim y m := by
  cases hl : lpB y <;> rcases twelve h1 h2 with rfl | rfl | rfl | rfl | rfl | rfl | rfl | rfl | rfl | rfl | rfl | rfl <;> simp [cum, dim, hl]
theorem cum_one (y : Int) : cum y 1 = 0 := by simp [cum]
theorem cum_13 (y : Int) : cum y 13 = 365 + lp y := by cases hl : lpB y <;> simp [cum, lp, hl]
theorem cum_bd (y m : Int) (h1 : 1 ≤ m) (h2 : m ≤ 13) : 0 ≤ cum y m ∧ cum y m ≤ 366 := by
  unfold cum; split
  · omega
  · split <;> omega
theorem cum_lt (y m k : Int) (h1 : 1 ≤ m) (h : m < k) (h2 : k ≤ 13) : cum y m + dim y m ≤ cum y k := by
  have h3 : m ≤ 12 := by omega
  cases hl : lpB y <;> rcases twelve h1 h3 with rfl | rfl | rfl | rfl | rfl | rfl | rfl | rfl | rfl | rfl | rfl | rfl <;> simp [cum, dim, hl] <;> (try split) <;> omega
theorem dby_succ (y : Int) : dby (y + 1) = dby y + 365 + lp y := by
  unfold dby lp
  have h := lpB_iff y
  by_cases hl : lpB y = true
  · rw [if_pos hl]; have := h.1 hl; omega
  · rw [if_neg hl]
    have : ¬ (y % 4 = 0 ∧ (y % 100 ≠ 0 ∨ y % 400 = 0)) := fun k => hl (h.2 k)
    omega
theorem dby_le (a b : Int) (h : a ≤ b) : dby a ≤ dby b := by unfold dby; omega
theorem dby_one : dby 1 = 0 := by decide
theorem dby_max : dby 10000 = 3652059 := by decide
theorem dby_bd (y : Int) (h1 : 1 ≤ y) (h2 : y ≤ 10000) : 0 ≤ dby y ∧ dby y ≤ 3652059 := by
  have a := dby_le 1 y h1; have b := dby_le y 10000 h2
  rw [dby_one] at a; rw [dby_max] at b; exact ⟨a, b⟩
theorem dby_lt (a b : Int) (h : a < b) : dby a + 365 + lp a ≤ dby b := by
  have := dby_le (a + 1) b (by omega); rw [dby_succ] at this; exact this

theorem yday {y m d : Int} (h : vldB y m d = true) : 0 ≤ cum y m + d - 1 ∧ cum y m + d - 1 < 365 + lp y := by
  have h := vld_iff.1 h
  have a := cum_bd y m (by omega) (by omega)
  have b := cum_lt y m 13 (by omega) (by omega) (by omega)
  rw [cum_13] at b
  omega
theorem num_bd {y m d : Int} (h : vldB y m d = true) : -719162 ≤ num y m d ∧ num y m d ≤ 2932896 := by
  have hy := yday h
  have h' := vld_iff.1 h
  have a := dby_bd y (by omega) (by omega)
  have b := dby_lt y 10000 (by omega)
  rw [dby_max] at b
  unfold num; omega
theorem num_lt {y m d y' m' d' : Int} (h : vldB y m d = true) (h' : vldB y' m' d' = true) (hl : y < y' ∨ y = y' ∧ (m < m' ∨ m = m' ∧ d < d')) : num y m d < num y' m' d' := by
  have a := yday h
  have a' := yday h'
  have v := vld_iff.1 h
  have v' := vld_iff.1 h'
  unfold num
  rcases hl with hl | ⟨rfl, hl | ⟨rfl, hl⟩⟩
  · have := dby_lt y y' hl; omega
  · have := cum_lt y m m' (by omega) hl (by omega); omega
  · omega
theorem num_inj {y m d y' m' d' : Int} (h : vldB y m d = true) (h' : vldB y' m' d' = true) (e : num y m d = num y' m' d') : y = y' ∧ m = m' ∧ d = d' := by
  by_cases h1 : y < y' ∨ y = y' ∧ (m < m' ∨ m = m' ∧ d < d')
  · have := num_lt h h' h1; omega
  · by_cases h2 : y' < y ∨ y' = y ∧ (m' < m ∨ m' = m ∧ d' < d)
    · have := num_lt h' h h2; omega
    · omega
theorem num_ahead {y m d y' m' d' : Int} (h : vldB y m d = true) (h' : vldB y' m' d' = true) : num y m d < num y' m' d' ↔ (y < y' ∨ y = y' ∧ (m < m' ∨ m = m' ∧ d < d')) := by
  constructor
  · intro hn
    by_cases h1 : y < y' ∨ y = y' ∧ (m < m' ∨ m = m' ∧ d < d')
    · exact h1
    · by_cases h2 : y' < y ∨ y' = y ∧ (m' < m ∨ m' = m ∧ d' < d)
      · have := num_lt h' h h2; omega
      · have e : y = y' ∧ m = m' ∧ d = d' := by omega
        obtain ⟨rfl, rfl, rfl⟩ := e; omega
  · exact num_lt h h'

theorem lpB_400 (y : Int) : lpB (y + 400) = lpB y := by
  have a := lpB_iff y
  have b := lpB_iff (y + 400)
  rw [Bool.eq_iff_iff, a, b]; omega
theorem dim_400 (y m : Int) : dim (y + 400) m = dim y m := by simp [dim, lpB_400]
theorem num_400 (y m d : Int) : num (y + 400) m d = num y m d + 146097 := by
  have c : cum (y + 400) m = cum y m := by simp [cum, lpB_400]
  have b : dby (y + 400) = dby y + 146097 := by unfold dby; omega
  unfold num; rw [c, b]; omega
theorem wd_400 (n : Int) : wd (n + 146097) = wd n := by unfold wd; omega
theorem wd_bd (n : Int) : 0 ≤ wd n ∧ wd n ≤ 6 := by unfold wd; omega
theorem wd_next (n : Int) : wd (n + 1) = (wd n + 1) % 7 := by unfold wd; omega

/- the day behind a date -/
theorem num_next {y m d : Int} (h : vldB y m d = true) (hn : num y m d + 1 ≤ 2932896) : (vldB y m (d + 1) = true ∧ num y m (d + 1) = num y m d + 1) ∨ (28 ≤ d ∧ vldB y (m + 1) 1 = true ∧ num y (m + 1) 1 = num y m d + 1) ∨ (m = 12 ∧ d = 31 ∧ vldB (y + 1) 1 1 = true ∧ num (y + 1) 1 1 = num y m d + 1) := by
  have v := vld_iff.1 h
  have hb := dim_bd y m
  by_cases h1 : d < dim y m
  · left; exact ⟨vld_iff.2 (by omega), by unfold num; omega⟩
  · have hd : d = dim y m := by omega
    by_cases h2 : m < 12
    · right; left
      have c := cum_succ y m (by omega) (by omega)
      have hb' := dim_bd y (m + 1)
      exact ⟨by omega, vld_iff.2 (by omega), by unfold num; omega⟩
    · right; right
      have hm : m = 12 := by omega
      subst hm
      have c := cum_succ y 12 (by omega) (by omega)
      have c13 := cum_13 y
      have ds := dby_succ y
      have e31 : dim y 12 = 31 := by simp [dim]
      have hb' := dim_bd (y + 1) 1
      have o := cum_one (y + 1)
      have e : (12 : Int) + 1 = 13 := rfl
      rw [e] at c
      have hy : y + 1 ≤ 9999 := by
        by_cases h9 : y = 9999
        · subst h9
          unfold num at hn
          have := dby_max
          have e2 : (9999 : Int) + 1 = 10000 := rfl
          rw [e2] at ds
          omega
        · omega
      exact ⟨rfl, by omega, vld_iff.2 (by omega), by unfold num; omega⟩
theorem num_last {y m d : Int} (h : vldB y m d = true) (hn : num y m d = 2932896) : y = 9999 ∧ m = 12 ∧ d = 31 := by
  have e : num 9999 12 31 = 2932896 := by decide
  exact num_inj h (by decide) (by rw [hn, e])

/- the guess of a year -/
theorem guess_le (n : Int) (h0 : 0 ≤ n) (h1 : n < 3652059) : 1 ≤ n * 400 / 146097 + 1 ∧ n * 400 / 146097 + 1 ≤ 9999 ∧ dby (n * 400 / 146097 + 1) ≤ n := by
  unfold dby; omega
theorem year_lt {n y : Int} (h1 : n < 3652059) (h : dby y ≤ n) : y ≤ 9999 := by
  rcases Int.lt_or_le y 10000 with k | k
  · omega
  · have := dby_le 10000 y k; rw [dby_max] at this; omega

end Go.Proofs.Ytombhnjmelidcaa.Cv
