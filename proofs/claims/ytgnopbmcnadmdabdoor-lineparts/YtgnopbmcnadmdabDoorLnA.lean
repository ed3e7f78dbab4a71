/- Contracts of package line's small functions: isGap, isText, require, and the two tests that are handed to take. -/
import Derived.Test.YtgnopbmcnadmdabDoorRfW
namespace Go.Proofs.YtgnopbmcnadmdabDoor
open Go.RowKit
set_option linter.unusedVariables false
set_option linter.unusedSimpArgs false

set_option maxHeartbeats 400000 in
theorem isGap_any (c : UInt8) (w : World) :
    Calls Tryd.prog 31 #[.int .u8 (c.toNat : Int)] w fun e w' => e = .returned (.bool (Tx.gap c)) ∧ w' = w := by
  have hh : Hid (Tx.gap c = (((c.toNat : Int) == 32) || ((c.toNat : Int) == 9))) := gap_eq c
  generalize (c.toNat : Int) = n at *
  cases h1 : (n == 32) <;> cases h2 : (n == 9)
  all_goals
    go_enter Tryd.func31, Tryd.ntmps31
    go_wp2
    go_ret
    exact ⟨ret_bool (by rw [hh.out]; simp [h1, h2]), rfl⟩
theorem isGap_is (c : UInt8) (w : World) {b : Bool} (h : Tx.gap c = b) :
    Calls Tryd.prog 31 #[.int .u8 (c.toNat : Int)] w fun e w' => e = .returned (.bool b) ∧ w' = w := by subst h; exact isGap_any c w

set_option maxHeartbeats 400000 in
theorem isText_any (c : UInt8) (w : World) :
    Calls Tryd.prog 45 #[.int .u8 (c.toNat : Int)] w fun e w' => e = .returned (.bool (Tx.txt c)) ∧ w' = w := by
  have hh : Hid (Tx.txt c = (decide ((32 : Int) ≤ (c.toNat : Int) ∧ (c.toNat : Int) ≤ 126) || ((c.toNat : Int) == 9))) := txt_eq c
  generalize (c.toNat : Int) = n at *
  cases h2 : (n == 9) <;> by_cases h1 : 32 ≤ n <;> by_cases h3 : n ≤ 126
  all_goals
    go_enter Tryd.func45, Tryd.ntmps45
    go_wp2
    go_ret
    exact ⟨ret_bool (by rw [hh.out]; simp [h1, h2, h3]), rfl⟩
theorem isText_is (c : UInt8) (w : World) {b : Bool} (h : Tx.txt c = b) :
    Calls Tryd.prog 45 #[.int .u8 (c.toNat : Int)] w fun e w' => e = .returned (.bool b) ∧ w' = w := by subst h; exact isText_any c w

def goesU (c : UInt8) : Bool := !Tx.gap c && ((c.toNat : Int) != 35) && ((c.toNat : Int) != 34)
set_option maxHeartbeats 400000 in
theorem field1_any (c : UInt8) (w : World) :
    Calls Tryd.prog 43 #[.int .u8 (c.toNat : Int)] w fun e w' => e = .returned (.bool (goesU c)) ∧ w' = w := by
  have hh : Hid (goesU c = (!Tx.gap c && ((c.toNat : Int) != 35) && ((c.toNat : Int) != 34))) := rfl
  cases h0 : Tx.gap c <;> cases h1 : ((c.toNat : Int) != 35) <;> cases h2 : ((c.toNat : Int) != 34)
  all_goals
    have H0 := hid h0
    clear h0
    go_enter Tryd.func43, Tryd.ntmps43
    go_wp2_with (go_at_call 31; refine (isGap_is _ _ H0.out).mono ?_; rintro e w1 ⟨rfl, rfl⟩)
    go_ret
    exact ⟨ret_bool (by rw [hh.out, H0.out, h1, h2]; rfl), rfl⟩
theorem field1_is (c : UInt8) (w : World) {b : Bool} (h : goesU c = b) :
    Calls Tryd.prog 43 #[.int .u8 (c.toNat : Int)] w fun e w' => e = .returned (.bool b) ∧ w' = w := by subst h; exact field1_any c w
def goesQ (c : UInt8) : Bool := ((c.toNat : Int) != 34)
set_option maxHeartbeats 400000 in
theorem quoted1_any (c : UInt8) (w : World) :
    Calls Tryd.prog 51 #[.int .u8 (c.toNat : Int)] w fun e w' => e = .returned (.bool (goesQ c)) ∧ w' = w := by
  have hh : Hid (goesQ c = ((c.toNat : Int) != 34)) := rfl
  cases h2 : ((c.toNat : Int) != 34)
  all_goals
    go_enter Tryd.func51, Tryd.ntmps51
    go_wp2
    go_ret
    exact ⟨ret_bool (by rw [hh.out, h2]), rfl⟩
theorem quoted1_is (c : UInt8) (w : World) {b : Bool} (h : goesQ c = b) :
    Calls Tryd.prog 51 #[.int .u8 (c.toNat : Int)] w fun e w' => e = .returned (.bool b) ∧ w' = w := by subst h; exact quoted1_any c w

def faultV (n e : Int) : Value := .iface 45 (.agg #[.int .i64 n, .int .i64 e])
set_option maxHeartbeats 400000 in
theorem require_yes (n e : Int) (w : World) :
    Calls Tryd.prog 22 #[.bool true, .int .i64 n, .int .i64 e] w fun x w' => x = .returned (.tuple #[]) ∧ w' = w := by
  go_enter Tryd.func22, Tryd.ntmps22
  go_wp2
  go_end0
  exact ⟨rfl, rfl⟩
set_option maxHeartbeats 400000 in
theorem require_no (n e : Int) (w : World) :
    Calls Tryd.prog 22 #[.bool false, .int .i64 n, .int .i64 e] w fun x w' => x = .panicked [{ v := faultV n e, recovered := false }] ∧ w' = w := by
  go_enter Tryd.func22, Tryd.ntmps22
  go_wp2
  exact ⟨rfl, rfl, rfl⟩
end Go.Proofs.YtgnopbmcnadmdabDoor
