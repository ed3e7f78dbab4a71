/- The document's own reckoning of days, by eras of 400 years that begin with March, is the plain calendar's. -/
import Derived.Test.YtombhnjmelidcaaCalOn
namespace Go.Proofs.Ytombhnjmelidcaa.Cv

def rday (y m d : Int) : Int := y / 400 * 146097 + y % 400 * 365 + y % 400 / 4 - y % 400 / 100 + (153 * m + 2) / 5 + d - 1 - 719468

theorem rday_late (y m d : Int) (h1 : 3 ≤ m) (h2 : m ≤ 12) : rday y (m - 3) d = num y m d := by
  have h := lpB_iff y
  have t : m = 3 ∨ m = 4 ∨ m = 5 ∨ m = 6 ∨ m = 7 ∨ m = 8 ∨ m = 9 ∨ m = 10 ∨ m = 11 ∨ m = 12 := by omega
  have c : (367 * m - 362) / 12 - 61 = (153 * (m - 3) + 2) / 5 := by omega
  have c2 : ¬ m ≤ 2 := by omega
  unfold rday num dby cum
  rw [if_neg c2]
  by_cases hl : lpB y = true
  · rw [if_pos hl]; have := h.1 hl; omega
  · rw [if_neg hl]
    have : ¬ (y % 4 = 0 ∧ (y % 100 ≠ 0 ∨ y % 400 = 0)) := fun k => hl (h.2 k)
    omega
theorem rday_early (y m d : Int) (h1 : 1 ≤ m) (h2 : m < 3) : rday (y - 1) (m - 3 + 12) d = num y m d := by
  have c : (367 * m - 362) / 12 + 306 = (153 * (m - 3 + 12) + 2) / 5 := by omega
  have c2 : m ≤ 2 := by omega
  unfold rday num dby cum
  rw [if_pos c2]
  omega
theorem year_of {n y : Int} (hy : 1 ≤ y) (hy2 : y ≤ 9999) (m : Int) (m1 : 1 ≤ m) (m2 : m ≤ 12) (a : 0 ≤ n - num y m 1) (b : n - num y m 1 < dim y m) : vldB y m (n - num y m 1 + 1) = true ∧ num y m (n - num y m 1 + 1) = n :=
  ⟨vld_iff.2 (by omega), by unfold num; omega⟩
end Go.Proofs.Ytombhnjmelidcaa.Cv
