/- The contract of the program's table.Check. -/
import Derived.Test.YtombhnjmelidcaaPrC
import Derived.Test.YtombhnjmelidcaaTbC
import Derived.Test.YtombhnjmelidcaaLcP
namespace Go.Proofs.Ytombhnjmelidcaa
open Go.RowKit
set_option linter.unusedVariables false
set_option linter.unusedSimpArgs false

set_option maxRecDepth 100000 in
set_option maxHeartbeats 4000000 in
theorem pCheck_any (t : Tb.Tbl) (v : Value) (w : World) (h : RdCh w v t.ch) (hS : Tb.Sized t) :
    Calls Try.prog 24 #[tbV t.first v] w fun e w' => e = .returned (.int .i64 (Tb.tableE t)) ∧ Below w.heap.size w w' := by
  obtain ⟨hl, hf, hn⟩ := hS
  obtain ⟨f, ch⟩ := t
  obtain ⟨R, hR⟩ : ∃ R, Tb.tableE ⟨f, ch⟩ = R := ⟨_, rfl⟩
  rw [hR]
  have HR : Hid (R = if 1000 < ch.length then 2 else if Tb.localE f ≠ 0 then Tb.localE f else Tb.goE f none ch) := by show _ = _; rw [← hR]; rfl
  clear hR
  simp only at h hl hf hn
  have h' := h
  obtain ⟨a, cap, rfl, hc⟩ := h'
  have H := hid h
  have HN := hid hn
  have HF := hid hf
  clear h hc hn hf
  unfold maxLen at hl
  by_cases h1000 : 1000 < ch.length
  · have HR2 : Hid (R = 2) := by show _ = _; rw [HR.out, if_pos h1000]
    go_enter Try.func24, Try.ntmps24
    go_wp2_with fail
    go_ret
    exact ⟨ret_int (by rw [HR2.out]), (Below.refl _ _).alloc (Nat.le_refl _) _⟩
  have HR2 : Hid (R = if Tb.localE f ≠ 0 then Tb.localE f else Tb.goE f none ch) := by show _ = _; rw [HR.out, if_neg h1000]
  clear HR hl
  go_enter Try.func24, Try.ntmps24
  go_wp2_with fail
  refine (pCheckLocal_any f _ HF.out).mono ?_
  rintro e w1 ⟨rfl, hb1⟩
  obtain ⟨L, hL⟩ : ∃ L, Tb.localE f = L := ⟨_, rfl⟩
  rw [hL] at HR2
  rw [hL]
  clear hL
  have X1 : Hid (CellsAt w1 w.heap.size (tbL f (.slice a ch.length cap))) := ca_below (ca_new w (tbL f (.slice a ch.length cap)) 26) hb1
  have B1 : Hid (Below w.heap.size w w1) := ((Below.refl w.heap.size w).alloc (Nat.le_refl _) _).trans (hb1.mono (by simp))
  clear hb1
  by_cases h0 : L = 0
  case neg =>
    have HR3 : Hid (R = L) := by show _ = _; rw [HR2.out, if_pos h0]
    have h0' : (L != 0) = true := by simp [h0]
    go_wp2
    go_ret
    exact ⟨ret_int (by rw [HR3.out]), B1.out⟩
  have HR3 : Hid (R = Tb.goE f (prevOf ch 0) (ch.drop 0)) := by show _ = _; rw [HR2.out, if_neg (by simp [h0])]; rfl
  subst h0
  clear HR2
  obtain ⟨x0, f0⟩ := ca_at X1.out 0 rfl
  obtain ⟨x1, f1⟩ := ca_at X1.out 1 rfl
  obtain ⟨x2, f2⟩ := ca_at X1.out 2 rfl
  obtain ⟨x3, f3⟩ := ca_at X1.out 3 rfl
  have sx := X1.out.1
  go_wp2_with fail
  obtain ⟨M, hM⟩ : ∃ M, w1.heap.size = M := ⟨_, rfl⟩
  have X2 := hid (ca_alloc X1.out (.cells (cgCells ⟨-62135596801, f⟩).toArray 32))
  have B2 := hid (Below.alloc B1.out B1.out.size (.cells (cgCells ⟨-62135596801, f⟩).toArray 32))
  have Y2 : Hid (CellsAt (w1.alloc (.cells (cgCells ⟨-62135596801, f⟩).toArray 32)) M (cgCells ⟨-62135596801, f⟩)) := by rw [← hM]; exact ca_new _ _ _
  have hNM : ¬ w.heap.size = M := by omega
  have hNM' : w.heap.size < M := by omega
  rw [hM]
  clear X1 B1 x0 f0 x1 f1 x2 f2 x3 f3 sx hM
  go_loopw [24] (fun b wr => ∃ (i : Nat) (p : Int) (o : Tb.Lc), i ≤ ch.length ∧ b = .int .i64 i ∧ Hid (R = Tb.goE o (prevOf ch i) (ch.drop i)) ∧ Hid (p = pvOf (prevOf ch i)) ∧ Hid (Below w.heap.size w wr) ∧ Hid (CellsAt wr w.heap.size (tbL f (.slice a ch.length cap))) ∧ Hid (CellsAt wr M (cgCells ⟨p, o⟩))) (fun b _ => ch.length - (intOf b).toNat)
  case atStart => exact ⟨0, -62135596801, f, by omega, rfl, HR3, rfl, B2, X2, Y2⟩
  case round =>
    clear B2 X2 Y2 HR3
    obtain ⟨i, p, o, hi, rfl, HR, HP, B0, X0, Y0⟩ := hrel
    by_cases hlt : i < ch.length
    case neg =>
      have HR2 : Hid (R = 0) := by show _ = _; rw [HR.out, List.drop_eq_nil_of_le (by omega)]; rfl
      go_wp2
      go_ret
      exact ⟨ret_int (by rw [HR2.out]), B0.out⟩
    obtain ⟨c, hcc⟩ : ∃ c, ch[i]? = some c := ⟨_, List.getElem?_eq_getElem hlt⟩
    obtain ⟨bb, bo, bcap, e, hbb, c0, c1, c2, c3⟩ := rdCh_at (rdCh_below H.out B0.out) hcc
    simp only [Value.slice.injEq] at e
    obtain ⟨rfl, _, rfl⟩ := e
    have HC := hid hcc
    have HR1 : Hid (R = if chgE o p c ≠ 0 then chgE o p c else Tb.goE c.lc (some c.at_) (ch.drop (i + 1))) := by show _ = _; rw [HR.out, Tb.drop_get hcc, goE_chg, ← HP.out]
    clear hcc HR HP
    have BV := hid (Below.alloc B0.out B0.out.size (.cells (cgCells c).toArray 32))
    have XV := hid (ca_alloc X0.out (.cells (cgCells c).toArray 32))
    have YV := hid (ca_alloc Y0.out (.cells (cgCells c).toArray 32))
    have ZV := hid (ca_new wr (cgCells c) 32)
    have sx := X0.out.1
    have sy := Y0.out.1
    obtain ⟨y0, g0⟩ := ca_at Y0.out 0 rfl
    obtain ⟨y1, g1⟩ := ca_at Y0.out 1 rfl
    obtain ⟨y2, g2⟩ := ca_at Y0.out 2 rfl
    obtain ⟨y3, g3⟩ := ca_at Y0.out 3 rfl
    obtain ⟨C, hC⟩ : ∃ C, wr.heap.size = C := ⟨_, rfl⟩
    have hMC : M < C := by omega
    have hNC : w.heap.size < C := by omega
    rw [hC] at ZV
    go_wp2_with fail
    refine (checkChange_any p o c _ (HN.out c (List.mem_of_getElem? HC.out))).mono ?_
    rintro e w5 ⟨rfl, hb5⟩
    have XU := hid (ca_below XV.out hb5)
    have YU := hid (ca_below YV.out hb5)
    have ZU := hid (ca_below ZV.out hb5)
    have BU : Hid (Below w.heap.size w w5) := BV.out.trans (hb5.mono BV.out.size)
    clear XV YV ZV BV hb5 sx sy y0 g0 y1 g1 y2 g2 y3 g3 B0 X0 Y0 c0 c1 c2 c3 hbb hC
    obtain ⟨L, hL⟩ : ∃ L, chgE o p c = L := ⟨_, rfl⟩
    rw [hL] at HR1 ⊢
    clear hL
    by_cases h0 : L = 0
    case neg =>
      have HR2 : Hid (R = L) := by show _ = _; rw [HR1.out, if_pos h0]
      have h0' : (L != 0) = true := by simp [h0]
      clear HR1
      go_wp2
      go_ret
      exact ⟨ret_int (by rw [HR2.out]), BU.out⟩
    subst h0
    have HR2 : Hid (R = Tb.goE c.lc (some c.at_) (ch.drop (i + 1))) := by show _ = _; rw [HR1.out]; simp
    clear HR1
    obtain ⟨z0, k0⟩ := ca_at ZU.out 0 rfl
    obtain ⟨z1, k1⟩ := ca_at ZU.out 1 rfl
    obtain ⟨z2, k2⟩ := ca_at ZU.out 2 rfl
    obtain ⟨z3, k3⟩ := ca_at ZU.out 3 rfl
    obtain ⟨y0, g0⟩ := ca_at YU.out 0 rfl
    obtain ⟨y1, g1⟩ := ca_at YU.out 1 rfl
    obtain ⟨y2, g2⟩ := ca_at YU.out 2 rfl
    obtain ⟨y3, g3⟩ := ca_at YU.out 3 rfl
    have sz := ZU.out.1
    have sx := XU.out.1
    have sy := YU.out.1
    go_wp2
    go_roundw
    case rel =>
      refine ⟨i + 1, c.at_, c.lc, by omega, by go_num, ?_, ?_, ?_, ?_, ?_⟩
      · show R = _
        rw [HR2.out]
        congr 1
        simp [prevOf, HC.out]
      · show _ = _
        simp [prevOf, HC.out, pvOf]
      · exact below_set (below_set (below_set (below_set BU.out (by omega) _) (by omega) _) (by omega) _) (by omega) _
      · exact ca_far (ca_far (ca_far (ca_far XU.out (by omega)) (by omega)) (by omega)) (by omega)
      · exact ca_put (ca_put (ca_put (ca_put YU.out 0 _ (by simp [cgCells])) 1 _ (by simp [cgCells])) 2 _ (by simp [cgCells])) 3 _ (by simp [cgCells])
    case measure => simp [intOf]; omega
end Go.Proofs.Ytombhnjmelidcaa
