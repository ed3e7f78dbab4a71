/- The contract of joinRow: no field, or too many. -/
import Derived.Test.YtgnopbmcnadmdabDoorLnJ
namespace Go.Proofs.YtgnopbmcnadmdabDoor
open Go.RowKit
set_option linter.unusedVariables false
set_option linter.unusedSimpArgs false

set_option maxRecDepth 100000 in
set_option maxHeartbeats 400000 in
theorem joinRow_none (n m : Int) (inn : Bool) (fv : Value) (w : World) (hr : RdStrs w fv []) :
    Calls Tryd.prog 26 #[.int .i64 n, .agg #[.int .i64 m, .bool inn, fv]] w fun e w' => RowJ inn n [] w e w' := by
  obtain ⟨a, cap, rfl, _⟩ := hr
  go_enter Tryd.func26, Tryd.ntmps26
  go_wp2_with (go_at_call 22; refine (require_no _ _ _).mono ?_; rintro e w1 ⟨rfl, rfl⟩)
  exact ⟨rfl, (Below.refl _ _).alloc (Nat.le_refl _) _, .inr ⟨by simp [Tx.jline], by simp [Tx.jline]⟩⟩

set_option maxRecDepth 100000 in
set_option maxHeartbeats 400000 in
theorem joinRow_many (n m : Int) (inn : Bool) (fv : Value) (fs : List Tx.Bs) (w : World) (hr : RdStrs w fv fs) (h : 12 < fs.length) :
    Calls Tryd.prog 26 #[.int .i64 n, .agg #[.int .i64 m, .bool inn, fv]] w fun e w' => RowJ inn n fs w e w' := by
  obtain ⟨a, cap, rfl, _⟩ := hr
  have h3 : Hid (Tx.jline inn fs = ([], 2)) := by
    show _ = _
    rw [Tx.jline, if_neg (by intro q; subst q; simp at h), if_pos h]
  obtain ⟨L, hL⟩ : ∃ L, fs.length = L := ⟨_, rfl⟩
  rw [hL] at h ⊢
  have h1 : 0 < L := by omega
  have h2 : ¬ ((L : Int) ≤ 12) := by omega
  have h6 : ¬ L ≤ 12 := by omega
  have h4 : ¬ L = 0 := by omega
  have h5 : (0 : Int) < (L : Int) := by omega
  clear h hL
  go_enter Tryd.func26, Tryd.ntmps26
  go_wp2_with fail
  go_must (refine (require_yes _ _ _).mono ?_)
  rintro e w1 ⟨rfl, rfl⟩
  go_wp2_with fail
  rw [show decide ((L : Int) ≤ 12) = false from by simp; omega]
  refine (require_no _ _ _).mono ?_
  rintro e w1 ⟨rfl, rfl⟩
  exact ⟨rfl, (Below.refl _ _).alloc (Nat.le_refl _) _, .inr ⟨by rw [h3.out]; decide, by rw [h3.out]⟩⟩

end Go.Proofs.YtgnopbmcnadmdabDoor
