/- The contract of the document's LookAt. -/
import Derived.Test.YtnmdfbbfgiaijaaTbA
namespace Go.Proofs.Ytnmdfbbfgiaijaa
open Go.RowKit
set_option linter.unusedVariables false
set_option linter.unusedSimpArgs false

abbrev lcL (l : Tb.Lc) : List Value := [.int .i64 l.shift, .int .i64 l.save, strV l.name]
abbrev tbL (l : Tb.Lc) (v : Value) : List Value := [.int .i64 l.shift, .int .i64 l.save, strV l.name, v]
def lc0 : Tb.Lc := ⟨0, 0, []⟩

set_option maxRecDepth 100000 in
set_option maxHeartbeats 2000000 in
theorem lookAt_any (t : Tb.Tbl) (v : Value) (n : Int) (w : World) (h : RdCh w v t.ch) (hl : t.ch.length ≤ 1000) :
    Calls Try.prog 26 #[tbV t.first v, .int .i64 n] w fun e w' => e = .returned (lcV (Tb.look t n)) ∧ Below w.heap.size w w' := by
  obtain ⟨f, ch⟩ := t
  obtain ⟨R, hR⟩ : ∃ R, Tb.look ⟨f, ch⟩ n = R := ⟨_, rfl⟩
  rw [hR]
  have HR : Hid (R = Tb.lookL f n (ch.drop 0)) := by show _ = _; rw [← hR]; simp [Tb.look]
  clear hR
  simp only at h hl
  have h' := h
  obtain ⟨a, cap, rfl, hc⟩ := h'
  have H := hid h
  clear h hc
  obtain ⟨W, hW⟩ : ∃ W, ((w.alloc (.cells (tbL f (.slice a ch.length cap)).toArray 26)).alloc (.cells (lcL lc0).toArray 23)).alloc (.cells (lcL f).toArray 23) = W := ⟨_, rfl⟩
  have B0 : Hid (Below w.heap.size w W) := by
    rw [← hW]; show Below _ _ _
    exact (((Below.refl _ _).alloc (Nat.le_refl _) _).alloc (by simp) _).alloc (by simp; omega) _
  have X0 : Hid (CellsAt W w.heap.size (tbL f (.slice a ch.length cap))) := by
    rw [← hW]; exact ca_alloc (ca_alloc (ca_new _ _ _) _) _
  have Y0 : Hid (CellsAt W (w.heap.size + 1) (lcL lc0)) := by
    rw [← hW]; show CellsAt _ _ _
    have := ca_alloc (ca_new (w.alloc (.cells (tbL f (.slice a ch.length cap)).toArray 26)) (lcL lc0) 23) (.cells (lcL f).toArray 23)
    simpa using this
  have Z0 : Hid (CellsAt W (w.heap.size + 1 + 1) (lcL f)) := by
    rw [← hW]; show CellsAt _ _ _
    have := ca_new ((w.alloc (.cells (tbL f (.slice a ch.length cap)).toArray 26)).alloc (.cells (lcL lc0).toArray 23)) (lcL f) 23
    simpa using this
  have HW := hid hW
  clear hW
  go_enter Try.func26, Try.ntmps26
  go_wp2_with fail
  go_loopw [6] (fun b wr => ∃ (i : Nat) (o : Tb.Lc), i ≤ ch.length ∧ b = .int .i64 i ∧ Hid (R = Tb.lookL o n (ch.drop i)) ∧ Hid (Below w.heap.size w wr) ∧ Hid (CellsAt wr w.heap.size (tbL f (.slice a ch.length cap))) ∧ Hid (CellsAt wr (w.heap.size + 1) (lcL lc0)) ∧ Hid (CellsAt wr (w.heap.size + 1 + 1) (lcL o))) (fun b _ => ch.length - (intOf b).toNat)
  case atStart => exact ⟨0, f, by omega, rfl, HR, by rw [← HW.out] at B0; exact B0, by rw [← HW.out] at X0; exact X0, by rw [← HW.out] at Y0; exact Y0, by rw [← HW.out] at Z0; exact Z0⟩
  case round =>
    clear HW B0 X0 Y0 Z0 HR
    obtain ⟨i, o, hi, rfl, HR, B0, X0, Y0, Z0⟩ := hrel
    obtain ⟨x3, f3⟩ := ca_at X0.out 3 rfl
    have sx := X0.out.1
    by_cases hlt : i < ch.length
    · obtain ⟨c, hcc⟩ : ∃ c, ch[i]? = some c := ⟨_, List.getElem?_eq_getElem hlt⟩
      obtain ⟨bb, bo, bcap, e, hbb, c0, c1, c2, c3⟩ := rdCh_at (rdCh_below H.out B0.out) hcc
      simp only [Value.slice.injEq] at e
      obtain ⟨rfl, _, rfl⟩ := e
      have HC := hid hcc
      clear hcc
      by_cases hle : c.at_ ≤ n
      · have HR2 := hid (Tb.lookL_yes HC.out HR.out hle)
        obtain ⟨z0, g0⟩ := ca_at Z0.out 0 rfl
        obtain ⟨z1, g1⟩ := ca_at Z0.out 1 rfl
        obtain ⟨z2, g2⟩ := ca_at Z0.out 2 rfl
        have sz := Z0.out.1
        clear HR HC
        go_wp2
        go_roundw
        case rel =>
          refine ⟨i + 1, c.lc, by omega, by go_num, HR2, ?_, ?_, ?_, ?_⟩
          · exact below_set (below_set (below_set B0.out (by omega) _) (by omega) _) (by omega) _
          · exact ca_far (ca_far (ca_far X0.out (by omega)) (by omega)) (by omega)
          · exact ca_far (ca_far (ca_far Y0.out (by omega)) (by omega)) (by omega)
          · exact ca_put (ca_put (ca_put Z0.out 0 _ (by simp)) 1 _ (by simp)) 2 _ (by simp)
        case measure => simp [intOf]; omega
      · have HR2 := hid (Tb.lookL_no HC.out HR.out hle)
        clear HR HC
        go_wp2
        go_roundw
        case rel => exact ⟨i + 1, o, by omega, by go_num, HR2, B0, X0, Y0, Z0⟩
        case measure => simp [intOf]; omega
    · have HR2 := hid (Tb.lookL_end hlt HR.out)
      obtain ⟨z0, g0⟩ := ca_at Z0.out 0 rfl
      obtain ⟨z1, g1⟩ := ca_at Z0.out 1 rfl
      obtain ⟨z2, g2⟩ := ca_at Z0.out 2 rfl
      obtain ⟨y0, q0⟩ := ca_at Y0.out 0 rfl
      obtain ⟨y1, q1⟩ := ca_at Y0.out 1 rfl
      obtain ⟨y2, q2⟩ := ca_at Y0.out 2 rfl
      have sz := Z0.out.1
      have sy := Y0.out.1
      clear HR
      go_wp2
      refine bodyPost_ret (v := lcV o) (by simp [results, Try.results26, go_sem, *]) rfl ⟨by rw [HR2.out], ?_⟩
      exact below_set (below_set (below_set B0.out (by omega) _) (by omega) _) (by omega) _
end Go.Proofs.Ytnmdfbbfgiaijaa
