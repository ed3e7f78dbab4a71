/- Days of forms in plain numbers: what a form asks for, and which day it is. -/
import Derived.Test.YtombhnjmelidcaaCal
namespace Go.Proofs.Ytombhnjmelidcaa.Cv

def fitB (k wk n len : Int) : Bool := decide (0 ≤ wk ∧ wk ≤ 6 ∧ (k = 2 ∧ n = 0 ∨ k ≠ 2 ∧ ¬ (k = 1 ∧ wk ≠ 0) ∧ 1 ≤ n ∧ n ≤ len))
def upto (x wk : Int) : Int := x - (wd x - wk + 7) % 7
def frm (x wk : Int) : Int := x + (wk - wd x + 7) % 7
def tgt (y m k wk n : Int) : Int :=
  if k = 2 then upto (num y m 1 + dim y m - 1) wk else if k = 3 then frm (num y m 1 + n - 1) wk else if k = 4 then upto (num y m 1 + n - 1) wk else num y m 1 + n - 1
def onE (y m k wk n : Int) : Int :=
  if monB y m = false then 3 else if k < 1 ∨ 4 < k then 7 else if fitB k wk n (dim y m) = false then 3 else if tgt y m k wk n < -719162 ∨ 2932896 < tgt y m k wk n then 3 else 0

theorem fit_iff {k wk n len : Int} : fitB k wk n len = true ↔ (0 ≤ wk ∧ wk ≤ 6 ∧ (k = 2 ∧ n = 0 ∨ k ≠ 2 ∧ ¬ (k = 1 ∧ wk ≠ 0) ∧ 1 ≤ n ∧ n ≤ len)) := by unfold fitB; exact decide_eq_true_iff
theorem vld_one {y m : Int} (h : monB y m = true) : vldB y m 1 = true := by
  have a := mon_iff.1 h
  have b := dim_bd y m
  exact vld_iff.2 (by omega)
theorem upto_bd (x wk : Int) (h : 0 ≤ wk) (h' : wk ≤ 6) : x - 6 ≤ upto x wk ∧ upto x wk ≤ x ∧ wd (upto x wk) = wk := by unfold upto wd; omega
theorem frm_bd (x wk : Int) (h : 0 ≤ wk) (h' : wk ≤ 6) : x ≤ frm x wk ∧ frm x wk ≤ x + 6 ∧ wd (frm x wk) = wk := by unfold frm wd; omega
theorem onE_bd (y m k wk n : Int) : onE y m k wk n = 0 ∨ onE y m k wk n = 3 ∨ onE y m k wk n = 7 := by
  unfold onE; split
  · omega
  · split
    · omega
    · split
      · omega
      · split <;> omega
theorem onE_zero {y m k wk n : Int} (h : onE y m k wk n = 0) : monB y m = true ∧ 1 ≤ k ∧ k ≤ 4 ∧ fitB k wk n (dim y m) = true ∧ -719162 ≤ tgt y m k wk n ∧ tgt y m k wk n ≤ 2932896 := by
  unfold onE at h
  split at h
  · omega
  rename_i h1
  split at h
  · omega
  rename_i h2
  split at h
  · omega
  rename_i h3
  split at h
  · omega
  rename_i h4
  refine ⟨by simpa using h1, by omega, by omega, by simpa using h3, by omega, by omega⟩
end Go.Proofs.Ytombhnjmelidcaa.Cv
