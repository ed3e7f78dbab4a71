/- Contracts of the document's own functions over bytes: between, isBlank, isPlain. -/
import Derived.Test.YtgnopbmcnadmdabDoorRows
import Derived.Test.YtgnopbmcnadmdabDoorTx
import Derived.WalkKit
import Derived.WalkSpells
import Derived.WalkLawsBesides
import Derived.WalkSmall
import Derived.Deep.QuietTactic
import Derived.BigQuiet
import Derived.Deep.LoopGhost
namespace Go.Proofs.YtgnopbmcnadmdabDoor
open Go.RowKit
set_option linter.unusedVariables false
set_option linter.unusedSimpArgs false

theorem bcell {W w1 : World} (hb : Below W.heap.size W w1) : (∀ b o, b < W.heap.size → w1.cell? ⟨b, o, none⟩ = W.cell? ⟨b, o, none⟩) ∧ (∀ b o, b < W.heap.size → w1.frozen? ⟨b, o, none⟩ = W.frozen? ⟨b, o, none⟩) :=
  ⟨fun b o h => hb.cell (p := ⟨b, o, none⟩) h, fun b o h => hb.frozen (p := ⟨b, o, none⟩) h⟩
theorem hid {p : Prop} (h : p) : Hid p := h
theorem ret_int {k : IntKind} {a b : Int} (h : a = b) : Ending.returned (.int k a) = .returned (.int k b) := by rw [h]
theorem ret_bool {a b : Bool} (h : a = b) : Ending.returned (.bool a) = .returned (.bool b) := by rw [h]

set_option maxHeartbeats 400000 in
theorem between_any (n a b : Int) (w : World) :
    Calls Tryd.prog 29 #[.int .i64 n, .int .i64 a, .int .i64 b] w fun e w' => e = .returned (.bool (decide (a ≤ n ∧ n ≤ b))) ∧ w' = w := by
  by_cases h1 : a ≤ n <;> by_cases h2 : n ≤ b
  all_goals
    go_enter Tryd.func29, Tryd.ntmps29
    go_wp2
    go_ret
    exact ⟨ret_bool (by simp [h1, h2]), rfl⟩

theorem u8_eq (c : UInt8) (k : UInt8) : ((c.toNat : Int) == (k.toNat : Int)) = (c == k) := by
  rw [Bool.eq_iff_iff]; simp
  constructor
  · intro h; exact UInt8.toNat_inj.1 (by omega)
  · intro h; rw [h]
theorem gap_eq (c : UInt8) : Tx.gap c = (((c.toNat : Int) == 32) || ((c.toNat : Int) == 9)) := by
  have a := u8_eq c 32
  have b := u8_eq c 9
  simp only [Tx.gap]
  rw [← a, ← b]; rfl
theorem txt_eq (c : UInt8) : Tx.txt c = (decide ((32 : Int) ≤ (c.toNat : Int) ∧ (c.toNat : Int) ≤ 126) || ((c.toNat : Int) == 9)) := by
  have b := u8_eq c 9
  simp only [Tx.txt]
  have e : decide (32 ≤ c.toNat ∧ c.toNat ≤ 126) = decide ((32 : Int) ≤ (c.toNat : Int) ∧ (c.toNat : Int) ≤ 126) := decide_eq_decide.2 (by omega)
  rw [← b, e]; rfl

set_option maxHeartbeats 400000 in
theorem isBlank_any (c : UInt8) (w : World) :
    Calls Tryd.prog 17 #[.int .u8 (c.toNat : Int)] w fun e w' => e = .returned (.bool (Tx.gap c)) ∧ w' = w := by
  have hh : Hid (Tx.gap c = (((c.toNat : Int) == 32) || ((c.toNat : Int) == 9))) := gap_eq c
  generalize (c.toNat : Int) = n at *
  cases h1 : (n == 32) <;> cases h2 : (n == 9)
  all_goals
    go_enter Tryd.func17, Tryd.ntmps17
    go_wp2
    go_ret
    exact ⟨ret_bool (by rw [hh.out]; simp [h1, h2]), rfl⟩

set_option maxHeartbeats 400000 in
theorem isPlain_any (c : UInt8) (w : World) :
    Calls Tryd.prog 20 #[.int .u8 (c.toNat : Int)] w fun e w' => e = .returned (.bool (Tx.txt c)) ∧ w' = w := by
  have hh : Hid (Tx.txt c = (decide ((32 : Int) ≤ (c.toNat : Int) ∧ (c.toNat : Int) ≤ 126) || ((c.toNat : Int) == 9))) := txt_eq c
  have hb : (c.toNat : Int) < 256 := by have := c.toNat_lt; omega
  have hb0 : 0 ≤ (c.toNat : Int) := by omega
  generalize (c.toNat : Int) = n at *
  cases h2 : (n == 9) <;> by_cases h1 : 32 ≤ n ∧ n ≤ 126
  all_goals
    go_enter Tryd.func20, Tryd.ntmps20
    go_wp2_with (go_at_call 29; refine (between_any _ _ _ _).mono ?_; rintro e w1 ⟨rfl, rfl⟩; simp only [h1])
    go_ret
    exact ⟨ret_bool (by rw [hh.out]; simp [h1, h2]), rfl⟩
end Go.Proofs.YtgnopbmcnadmdabDoor
