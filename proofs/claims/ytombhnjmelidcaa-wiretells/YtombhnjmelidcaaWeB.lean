/- The contracts of the writer's number and local. -/
import Derived.Test.YtombhnjmelidcaaWeA
import Derived.Test.YtombhnjmelidcaaWrA
import Derived.Test.YtombhnjmelidcaaTbA
import Derived.Deep.RegionHeld3
namespace Go.Proofs.Ytombhnjmelidcaa
open Go.RowKit
set_option linter.unusedVariables false
set_option linter.unusedSimpArgs false

theorem cells_snoc (bs : List Value) (l : List UInt8) (c : UInt8) : bs ++ Lib.byteCells (l ++ [c]) = (bs ++ Lib.byteCells l) ++ [.int .u8 (c.toNat : Int)] := by
  simp [Lib.byteCells]
theorem isB_below {B b : Nat} {bs : List Value} {w w' : World} (h : IsB B b bs w) (hb : Below w.heap.size w w') : IsB B b bs w' := by
  have go : ∀ p, Lib.BuilderAt 57 5 B b p bs w → Lib.BuilderAt 57 5 B b p bs w' := by
    rintro p ⟨h1, v, h2, h3, h4⟩
    exact ⟨h1, v, (hb.block b (heap_lt h2)).trans h2, owns_below h3 hb, h4⟩
  rcases h with h | h
  · exact .inl (go _ h)
  · exact .inr (go _ h)
set_option maxRecDepth 100000 in
set_option maxHeartbeats 2000000 in
theorem number_any (B b k : Nat) (n : Int) (bs : List Value) (w : World) (h : IsB B b bs w) (h1 : 0 ≤ n) (h2 : n ≤ 1000000000000) (hk : k ≤ 8) (hl : bs.length ≤ 500000000) (hBw : B ≤ w.heap.size) :
    Calls Try.prog 42 #[.pointer (some ⟨b, 0, none⟩), .int .i64 n, .int .i64 k] w fun e w' => e = .returned (.tuple #[]) ∧ IsB B b (bs ++ Lib.byteCells (Wr.num k n)) w' ∧ Below B w w' ∧ BT b w w' := by
  obtain ⟨R, hR⟩ : ∃ R, Wr.num k n = R := ⟨_, rfl⟩
  rw [hR]
  have HR : Hid (R = [] ++ Wr.num (k - 0) n) := by show _ = _; rw [← hR]; simp
  have HB : Hid (IsB B b (bs ++ Lib.byteCells []) w) := by show IsB _ _ _ _; simpa [Lib.byteCells] using h
  clear hR h
  go_enter Try.func42, Try.ntmps42
  go_wp2_with fail
  go_loopw [1, 7] (fun nv iv wr => ∃ (i : Nat) (acc : Tx.Bs) (m : Int), i ≤ k ∧ nv = .int .i64 m ∧ iv = .int .i64 i ∧ 0 ≤ m ∧ m ≤ 1000000000000 ∧ Hid (acc.length = i) ∧ Hid (R = acc ++ Wr.num (k - i) m) ∧ Hid (IsB B b (bs ++ Lib.byteCells acc) wr) ∧ Hid (Below B w wr) ∧ Hid (BT b w wr)) (fun _ iv _ => k - (intOf iv).toNat)
  case atStart => exact ⟨0, [], n, by omega, rfl, rfl, h1, h2, rfl, HR, HB, Below.refl _ _, bt_refl _ _⟩
  case round =>
    clear HR HB h1 h2
    obtain ⟨i, acc, m, hi, rfl, rfl, m1, m2, HA, HR, HB, HW, HT⟩ := hrel
    by_cases hlt : i < k
    · have hb : Hid (((Wr.byteOf m).toNat : Int) = m % 256) := byte_nat m m1
      have ha : acc.length ≤ 8 := by rw [HA.out]; omega
      have hbw : B ≤ wr.heap.size := Nat.le_trans hBw HW.out.size
      have HC := hid (writeByte_any B b _ (m % 256) wr HB.out (by rw [List.length_append, Lib.byteCells_length]; omega) hbw)
      go_wp2_with fail
      refine HC.out.mono ?_
      rintro e w1 ⟨rfl, hB1, hb1, ht1⟩
      have HB1 : Hid (IsB B b (bs ++ Lib.byteCells (acc ++ [Wr.byteOf m])) w1) := by show IsB _ _ _ _; rw [cells_snoc, hb.out]; exact .inr hB1
      have HW1 : Hid (Below B w w1) := HW.out.trans (hb1.mono (Nat.le_refl _))
      have HT1 : Hid (BT b w w1) := bt_trans HT.out ht1
      clear hB1 hb1 HB HW HC HT ht1
      go_wp2
      go_roundw
      case rel =>
        refine ⟨i + 1, acc ++ [Wr.byteOf m], m / 256, by omega, ?_, by go_num, by omega, by omega, ?_, ?_, HB1, HW1, HT1⟩
        · rfl
        · show _ = _; simp; exact HA.out
        · show R = _
          rw [HR.out, show k - i = (k - (i + 1)) + 1 by omega]
          simp [Wr.num]
      case measure => simp [intOf]; omega
    · have HR2 : Hid (R = acc) := by show _ = _; rw [HR.out, show k - i = 0 by omega]; simp [Wr.num]
      go_wp2
      go_end0
      exact ⟨rfl, by rw [HR2.out]; exact HB.out, HW.out, HT.out⟩
set_option maxRecDepth 100000 in
set_option maxHeartbeats 2000000 in
theorem local_any (B b : Nat) (l : Tb.Lc) (bs : List Value) (w : World) (h : IsB B b bs w) (hl : Tb.localE l = 0) (hn : bs.length ≤ 400000000) (hBw : B ≤ w.heap.size) :
    Calls Try.prog 43 #[.pointer (some ⟨b, 0, none⟩), lcV l] w fun e w' => e = .returned (.tuple #[]) ∧ IsB B b (bs ++ Lib.byteCells (Wr.kindB l)) w' ∧ Below B w w' ∧ BT b w w' := by
  obtain ⟨g1, g2, g3, g4, g5, g6, g7⟩ := Tb.goodL_bd hl
  obtain ⟨X, hX⟩ : ∃ X, w.heap.size = X := ⟨_, rfl⟩
  obtain ⟨W0, hW⟩ : ∃ W, w.alloc (.cells (lcL l).toArray 23) = W := ⟨_, rfl⟩
  have hbX : ¬ X = b := by
    rcases h with q | q
    · have := q.lt; omega
    · have := q.lt; omega
  have b0 : Below w.heap.size w W0 := by rw [← hW]; exact (Below.refl _ _).alloc (Nat.le_refl _) _
  have HB0 := hid (isB_below h b0)
  have HW0 : Hid (Below B w W0) := b0.mono hBw
  have HT0 : Hid (BT b w W0) := bt_below b0
  have HX0 : Hid (BoxAt W0 X 23 (lcL l)) := by rw [← hW, ← hX]; exact box_new _ _ _
  have hBW0 : B ≤ W0.heap.size := Nat.le_trans hBw b0.size
  clear h b0
  have x0 := (ca_at (box_cells HX0.out) 0 rfl).1
  have sx := (box_cells HX0.out).1
  have C1 := hid (number_any B b 3 (l.shift + 100000) bs W0 HB0.out (by omega) (by omega) (by omega) (by omega) hBW0)
  go_enter Try.func43, Try.ntmps43
  go_wp2_with fail
  refine C1.out.mono ?_
  rintro e w1 ⟨rfl, hB1, hb1, ht1⟩
  obtain ⟨D1, hD1⟩ : ∃ D, bs ++ Lib.byteCells (Wr.num 3 (l.shift + 100000)) = D := ⟨_, rfl⟩
  rw [hD1] at hB1
  have hn1 : D1.length ≤ bs.length + 3 := by rw [← hD1, List.length_append, Lib.byteCells_length, Wr.num_len]; omega
  have HD1 := hid hD1
  have HX1 := hid (box_bt HX0.out ht1 hbX (by decide))
  have HW1 : Hid (Below B w w1) := HW0.out.trans hb1
  have HT1 : Hid (BT b w w1) := bt_trans HT0.out ht1
  have hBW1 : B ≤ w1.heap.size := Nat.le_trans hBW0 ht1.size
  have C2 := hid (number_any B b 2 l.save D1 w1 hB1 (by omega) (by omega) (by omega) (by omega) hBW1)
  clear hB1 hb1 ht1 hD1 HX0 HW0 HT0 HB0 C1 x0 sx hW hX
  have x1 := (ca_at (box_cells HX1.out) 1 rfl).1
  have sx := (box_cells HX1.out).1
  go_wp2_with fail
  refine C2.out.mono ?_
  rintro e w2 ⟨rfl, hB2, hb2, ht2⟩
  obtain ⟨D2, hD2⟩ : ∃ D, D1 ++ Lib.byteCells (Wr.num 2 l.save) = D := ⟨_, rfl⟩
  rw [hD2] at hB2
  have hn2 : D2.length ≤ bs.length + 5 := by rw [← hD2, List.length_append, Lib.byteCells_length, Wr.num_len]; omega
  have HD2 := hid hD2
  have HX2 := hid (box_bt HX1.out ht2 hbX (by decide))
  have HW2 : Hid (Below B w w2) := HW1.out.trans hb2
  have HT2 : Hid (BT b w w2) := bt_trans HT1.out ht2
  have hBW2 : B ≤ w2.heap.size := Nat.le_trans hBW1 ht2.size
  have C3 := hid (number_any B b 1 (l.name.length : Int) D2 w2 hB2 (by omega) (by omega) (by omega) (by omega) hBW2)
  clear hB2 hb2 ht2 hD2 HX1 HW1 HT1 C2 x1 sx
  have x2 := (ca_at (box_cells HX2.out) 2 rfl).1
  have sx := (box_cells HX2.out).1
  go_wp2_with fail
  refine C3.out.mono ?_
  rintro e w3 ⟨rfl, hB3, hb3, ht3⟩
  obtain ⟨D3, hD3⟩ : ∃ D, D2 ++ Lib.byteCells (Wr.num 1 (l.name.length : Int)) = D := ⟨_, rfl⟩
  rw [hD3] at hB3
  have hn3 : D3.length ≤ bs.length + 6 := by rw [← hD3, List.length_append, Lib.byteCells_length, Wr.num_len]; omega
  have HD3 := hid hD3
  have HX3 := hid (box_bt HX2.out ht3 hbX (by decide))
  have HW3 : Hid (Below B w w3) := HW2.out.trans hb3
  have HT3 : Hid (BT b w w3) := bt_trans HT2.out ht3
  have hBW3 : B ≤ w3.heap.size := Nat.le_trans hBW2 ht3.size
  have HB3 := hid hB3
  clear hB3 hb3 ht3 hD3 HX2 HW2 HT2 C3 x2 sx
  have x2 := (ca_at (box_cells HX3.out) 2 rfl).1
  have sx := (box_cells HX3.out).1
  have hsz : (⟨l.name.toArray⟩ : ByteArray).size = l.name.length := by simp [ByteArray.size]
  have CW : Calls Try.prog 63 #[.pointer (some ⟨b, 0, none⟩), strV l.name] w3.drew fun e w' => e = .returned (.tuple #[.int .i64 (⟨l.name.toArray⟩ : ByteArray).size, .nilIface]) ∧ BAt B b (D3 ++ Lib.strCells ⟨l.name.toArray⟩) w' ∧ Below B w3.drew w' ∧ BT b w3.drew w' := writeString_any B b D3 ⟨l.name.toArray⟩ w3.drew HB3.out (by rw [hsz]; omega) hBW3
  have HSZ := hid hsz
  clear hsz
  go_wp2_with fail
  go_region_held3 (fun w' => w'.cell? ⟨X, 2, none⟩ = some (strV l.name))
    (first | (with_reducible exact x2) | (with_reducible exact x4) | go_keep)
    (first | (go_at_call 63; (with_reducible refine CW.mono ?_); rintro e w4 ⟨rfl, hB4, hb4, ht4⟩; have X4 := box_bt (w := w3.drew) HX3.out ht4 hbX (by decide); have x4 := (ca_at (box_cells X4) 2 rfl).1))
  all_goals
    go_wp2
    go_end0
    refine ⟨rfl, ?_, (HW3.out.trans (⟨rfl, rfl, rfl, Nat.le_refl _, fun _ _ => rfl⟩ : Below B w3 w3.drew)).trans hb4, bt_trans (bt_trans HT3.out (⟨Nat.le_refl _, fun _ _ _ h _ => h⟩ : BT b w3 w3.drew)) ht4⟩
    have e : bs ++ Lib.byteCells (Wr.kindB l) = D3 ++ Lib.strCells ⟨l.name.toArray⟩ := by
      rw [← HD3.out, ← HD2.out, ← HD1.out]
      simp [Wr.kindB, Lib.byteCells, Lib.strCells]
    rw [e]
    exact .inr hB4
end Go.Proofs.Ytombhnjmelidcaa
