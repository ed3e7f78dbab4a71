/- The contracts of the document's SameTable and SameInts, at what is the same. -/
import Derived.Test.YtombhnjmelidcaaTbM
namespace Go.Proofs.Ytombhnjmelidcaa
open Go.RowKit
set_option linter.unusedVariables false
set_option linter.unusedSimpArgs false

set_option maxRecDepth 100000 in
set_option maxHeartbeats 2000000 in
theorem sameTable_yes (f : Tb.Lc) (u v : Value) (l : List Tb.Cg) (w : World) (hu : RdCh w u l) (hv : RdCh w v l) (hl : l.length ≤ 1000000) :
    Calls Try.prog 16 #[tbV f u, tbV f v] w fun e w' => e = .returned (.bool true) ∧ Below w.heap.size w w' := by
  have hu' := hu
  have hv' := hv
  obtain ⟨ua, ucap, rfl, _⟩ := hu'
  obtain ⟨va, vcap, rfl, _⟩ := hv'
  have HU := hid hu
  have HV := hid hv
  clear hu hv
  obtain ⟨W, hW⟩ : ∃ W, (w.alloc (.cells [Value.int .i64 f.shift, .int .i64 f.save, strV f.name, .slice ua l.length ucap].toArray 26)).alloc (.cells [Value.int .i64 f.shift, .int .i64 f.save, strV f.name, .slice va l.length vcap].toArray 26) = W := ⟨_, rfl⟩
  have B1 : Hid (Below w.heap.size w W) := by
    rw [← hW]; show Below _ _ _
    exact ((Below.refl _ _).alloc (Nat.le_refl _) _).alloc (by simp) _
  have X1 : Hid (CellsAt W w.heap.size [.int .i64 f.shift, .int .i64 f.save, strV f.name, .slice ua l.length ucap]) := by
    rw [← hW]; exact ca_alloc (ca_new _ _ _) _
  have Y1 : Hid (CellsAt W (w.heap.size + 1) [.int .i64 f.shift, .int .i64 f.save, strV f.name, .slice va l.length vcap]) := by
    rw [← hW]; show CellsAt _ _ _
    have := ca_new (w.alloc (.cells [Value.int .i64 f.shift, .int .i64 f.save, strV f.name, .slice ua l.length ucap].toArray 26)) [Value.int .i64 f.shift, .int .i64 f.save, strV f.name, .slice va l.length vcap] 26
    simpa using this
  have HW := hid hW
  clear hW
  go_enter Try.func16, Try.ntmps16
  go_wp2_with fail
  go_loopw [5] (fun b wr => ∃ i : Nat, i ≤ l.length ∧ b = .int .i64 i ∧ Hid (Below w.heap.size w wr) ∧ Hid (CellsAt wr w.heap.size [.int .i64 f.shift, .int .i64 f.save, strV f.name, .slice ua l.length ucap]) ∧ Hid (CellsAt wr (w.heap.size + 1) [.int .i64 f.shift, .int .i64 f.save, strV f.name, .slice va l.length vcap])) (fun b _ => l.length - (intOf b).toNat)
  case atStart => exact ⟨0, by omega, rfl, by rw [← HW.out] at B1; exact B1, by rw [← HW.out] at X1; exact X1, by rw [← HW.out] at Y1; exact Y1⟩
  case round =>
    clear HW B1 X1 Y1
    obtain ⟨i, hi, rfl, B0, X0, Y0⟩ := hrel
    obtain ⟨x3, f3⟩ := ca_at X0.out 3 rfl
    obtain ⟨y3, g3⟩ := ca_at Y0.out 3 rfl
    have sx := X0.out.1
    have sy := Y0.out.1
    by_cases hlt : i < l.length
    · obtain ⟨c, hn⟩ : ∃ c, l[i]? = some c := ⟨_, List.getElem?_eq_getElem hlt⟩
      obtain ⟨ub, uo, _, e1, ul, u0, u1, u2, u3⟩ := rdCh_at (rdCh_below HU.out B0.out) hn
      obtain ⟨vb, vo, _, e2, vl, v0, v1, v2, v3⟩ := rdCh_at (rdCh_below HV.out B0.out) hn
      simp only [Value.slice.injEq] at e1 e2
      obtain ⟨rfl, _, rfl⟩ := e1
      obtain ⟨rfl, _, rfl⟩ := e2
      clear hn
      go_wp2_with fail
      go_quiet (fail)
      go_wp2
      go_roundw
      case rel => exact ⟨i + 1, by omega, by go_num, below_drewN B0.out _, X0.out, Y0.out⟩
      case measure => simp [intOf]; omega
    · go_wp2
      go_ret
      exact ⟨rfl, B0.out⟩
end Go.Proofs.Ytombhnjmelidcaa
