/- Signs as numbers: letters, digits, signs of names and of formats. -/
import Derived.Test.YtombhnjmelidcaaBaB
import Derived.Test.YtombhnjmelidcaaSx
namespace Go.Proofs.Ytombhnjmelidcaa
open Go.RowKit
set_option linter.unusedVariables false
set_option linter.unusedSimpArgs false

theorem dec_or {p q : Prop} [Decidable p] [Decidable q] : (decide p || decide q) = decide (p ∨ q) := by
  by_cases h : p <;> by_cases h' : q <;> simp [h, h']
theorem let_eq (c : UInt8) : Sx.letB c = (decide ((97 : Int) ≤ (c.toNat : Int) ∧ (c.toNat : Int) ≤ 122) || decide ((65 : Int) ≤ (c.toNat : Int) ∧ (c.toNat : Int) ≤ 90)) := by
  simp only [Sx.letB]
  have e1 : decide (97 ≤ c.toNat ∧ c.toNat ≤ 122) = decide ((97 : Int) ≤ (c.toNat : Int) ∧ (c.toNat : Int) ≤ 122) := decide_eq_decide.2 (by omega)
  have e2 : decide (65 ≤ c.toNat ∧ c.toNat ≤ 90) = decide ((65 : Int) ≤ (c.toNat : Int) ∧ (c.toNat : Int) ≤ 90) := decide_eq_decide.2 (by omega)
  rw [e1, e2]
theorem dig_eq (c : UInt8) : Sx.digB c = decide ((48 : Int) ≤ (c.toNat : Int) ∧ (c.toNat : Int) ≤ 57) := by
  simp only [Sx.digB]
  exact decide_eq_decide.2 (by omega)
theorem between_is (n a b : Int) (w : World) {r : Bool} (h : decide (a ≤ n ∧ n ≤ b) = r) :
    Calls Try.prog 31 #[.int .i64 n, .int .i64 a, .int .i64 b] w fun e w' => e = .returned (.bool r) ∧ w' = w := by
  subst h; exact between_any n a b w

set_option maxHeartbeats 400000 in
theorem rLetter_any (c : UInt8) (w : World) :
    Calls Try.prog 65 #[.int .u8 (c.toNat : Int)] w fun e w' => e = .returned (.bool (Sx.letB c)) ∧ w' = w := by
  have hh : Hid (Sx.letB c = (decide ((97 : Int) ≤ (c.toNat : Int) ∧ (c.toNat : Int) ≤ 122) || decide ((65 : Int) ≤ (c.toNat : Int) ∧ (c.toNat : Int) ≤ 90))) := let_eq c
  have hb : (c.toNat : Int) < 256 := by have := c.toNat_lt; omega
  have hb0 : 0 ≤ (c.toNat : Int) := by omega
  generalize (c.toNat : Int) = n at *
  by_cases h1 : 97 ≤ n ∧ n ≤ 122 <;> by_cases h2 : 65 ≤ n ∧ n ≤ 90
  all_goals
    go_enter Try.func65, Try.ntmps65
    go_wp2_with (go_at_call 31; refine (between_any _ _ _ _).mono ?_; rintro e w1 ⟨rfl, rfl⟩; simp only [h1, h2])
    go_ret
    exact ⟨ret_bool (by rw [hh.out]; simp [h1, h2]), rfl⟩
theorem rLetter_is (c : UInt8) (w : World) {b : Bool} (h : Sx.letB c = b) :
    Calls Try.prog 65 #[.int .u8 (c.toNat : Int)] w fun e w' => e = .returned (.bool b) ∧ w' = w := by subst h; exact rLetter_any c w
set_option maxHeartbeats 400000 in
theorem rDigit_any (c : UInt8) (w : World) :
    Calls Try.prog 66 #[.int .u8 (c.toNat : Int)] w fun e w' => e = .returned (.bool (Sx.digB c)) ∧ w' = w := by
  have hh : Hid (Sx.digB c = decide ((48 : Int) ≤ (c.toNat : Int) ∧ (c.toNat : Int) ≤ 57)) := dig_eq c
  have hb : (c.toNat : Int) < 256 := by have := c.toNat_lt; omega
  have hb0 : 0 ≤ (c.toNat : Int) := by omega
  generalize (c.toNat : Int) = n at *
  by_cases h1 : 48 ≤ n ∧ n ≤ 57
  all_goals
    go_enter Try.func66, Try.ntmps66
    go_wp2_with (go_at_call 31; refine (between_any _ _ _ _).mono ?_; rintro e w1 ⟨rfl, rfl⟩; simp only [h1])
    go_ret
    exact ⟨ret_bool (by rw [hh.out]; simp [h1]), rfl⟩
theorem rDigit_is (c : UInt8) (w : World) {b : Bool} (h : Sx.digB c = b) :
    Calls Try.prog 66 #[.int .u8 (c.toNat : Int)] w fun e w' => e = .returned (.bool b) ∧ w' = w := by subst h; exact rDigit_any c w
end Go.Proofs.Ytombhnjmelidcaa
