/- The document's SameInts, at lists that are the same. -/
import Derived.Test.YtnmdfbbfgiaijaaTbM
namespace Go.Proofs.Ytnmdfbbfgiaijaa
open Go.RowKit
set_option linter.unusedVariables false
set_option linter.unusedSimpArgs false

set_option maxRecDepth 100000 in
set_option maxHeartbeats 2000000 in
theorem sameInts_yes (u v : Value) (l : List Int) (w : World) (hu : RdInts w u l) (hv : RdInts w v l) (hl : l.length ≤ 1000000) :
    Calls Try.prog 14 #[u, v] w fun e w' => e = .returned (.bool true) ∧ Below w.heap.size w w' := by
  have hu' := hu
  have hv' := hv
  obtain ⟨ua, ucap, rfl, _⟩ := hu'
  obtain ⟨va, vcap, rfl, _⟩ := hv'
  have HU := hid hu
  have HV := hid hv
  clear hu hv
  go_enter Try.func14, Try.ntmps14
  go_wp2_with fail
  go_loopw [5] (fun b wr => ∃ i : Nat, i ≤ l.length ∧ b = .int .i64 i ∧ Hid (Below w.heap.size w wr)) (fun b _ => l.length - (intOf b).toNat)
  case atStart => exact ⟨0, by omega, rfl, Below.refl _ _⟩
  case round =>
    obtain ⟨i, hi, rfl, B0⟩ := hrel
    by_cases hlt : i < l.length
    · obtain ⟨n, hn⟩ : ∃ n, l[i]? = some n := ⟨_, List.getElem?_eq_getElem hlt⟩
      obtain ⟨ub, uo, _, e1, ul, uc⟩ := rdInts_at (rd_below HU.out B0.out) hn
      obtain ⟨vb, vo, _, e2, vl, vc⟩ := rdInts_at (rd_below HV.out B0.out) hn
      simp only [Value.slice.injEq] at e1 e2
      obtain ⟨rfl, _, rfl⟩ := e1
      obtain ⟨rfl, _, rfl⟩ := e2
      clear hn
      go_wp2_with fail
      go_quiet (fail)
      go_wp2
      go_roundw
      case rel => exact ⟨i + 1, by omega, by go_num, below_drewN B0.out _⟩
      case measure => simp [intOf]; omega
    · go_wp2
      go_ret
      exact ⟨rfl, B0.out⟩

end Go.Proofs.Ytnmdfbbfgiaijaa
