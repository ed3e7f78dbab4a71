/- The contract of joinRow. -/
import Derived.Test.YtgnopbmcnadmdabDoorLnK
namespace Go.Proofs.YtgnopbmcnadmdabDoor
open Go.RowKit
set_option linter.unusedVariables false
set_option linter.unusedSimpArgs false

def Short (f : Tx.Bs) : Prop := (f.length : Int) ≤ 9223372036854775807
theorem short_size {f : Tx.Bs} (h : Short f) : ((⟨f.toArray⟩ : ByteArray).size : Int) ≤ 9223372036854775807 := by
  have : (⟨f.toArray⟩ : ByteArray).size = f.length := by simp [ByteArray.size]
  rw [this]; exact h
theorem joinField_str (n : Int) (f : Tx.Bs) (w : World) (hx : Short f) :
    Calls Tryd.prog 37 #[.int .i64 n, strV f] w fun e w' => Below w.heap.size w w' ∧
      ((Tx.jfErr f = 0 ∧ e = .returned (strV (Tx.jfText f))) ∨
       (Tx.jfErr f ≠ 0 ∧ e = .panicked [{ v := faultV n (Tx.jfErr f), recovered := false }])) := by
  simpa [strV] using joinField_is n ⟨f.toArray⟩ w (short_size hx)

theorem isB_below {B b : Nat} {bs : List Value} {w w' : World} (h : IsB B b bs w) (hb : Below w.heap.size w w') : IsB B b bs w' := by
  have key : ∀ p, Lib.BuilderAt 53 5 B b p bs w → Lib.BuilderAt 53 5 B b p bs w' := by
    rintro p ⟨h1, v, h2, h3, h4⟩
    exact ⟨h1, v, (hb.block b (heap_lt h2)).trans h2, owns_below h3 hb, h4⟩
  rcases h with h | h
  · exact .inl (key _ h)
  · exact .inr (key _ h)
theorem isB_lt {B b : Nat} {bs : List Value} {w : World} (h : IsB B b bs w) : b < w.heap.size := h.elim (·.lt) (·.lt)
theorem byteCells_len (a : Tx.Bs) : (Lib.byteCells a).length = a.length := by simp [Lib.byteCells]
theorem byteCells_one (a : Tx.Bs) (c : UInt8) : Lib.byteCells a ++ [.int .u8 c.toNat] = Lib.byteCells (a ++ [c]) := by simp [Lib.byteCells]
theorem size_arr (f : Tx.Bs) : (⟨f.toArray⟩ : ByteArray).size = f.length := by simp [ByteArray.size]
def DropIs (fs : List Tx.Bs) (i : Nat) (f : Tx.Bs) : Prop := fs.drop i = f :: fs.drop (i + 1)
def RowI (inn : Bool) (fs : List Tx.Bs) (W : World) (H : Nat) (i : Nat) (acc : Tx.Bs) (wr : World) : Prop :=
  IsB (H + 1) (H + 1) (Lib.byteCells acc) wr ∧ Below (H + 1) W wr ∧ acc.length ≤ 1 + 27 * i ∧ Tx.jline inn fs = Tx.jrow acc (decide (i = 0)) (fs.drop i)
section
variable {inn : Bool} {fs : List Tx.Bs} {W : World} {H i : Nat} {acc f : Tx.Bs} {wr w' : World}
theorem rowI_err (h : RowI inn fs W H i acc wr) (hd : DropIs fs i f) (he : Tx.jfErr f ≠ 0) : Tx.jline inn fs = ([], Tx.jfErr f) := by
  rw [h.2.2.2, hd, Tx.jrow, if_pos he]
theorem rowI_first (h : RowI inn fs W H i acc wr) (hi : i = 0) (hd : DropIs fs i f) (he : Tx.jfErr f = 0) (h1 : IsB (H + 1) (H + 1) (Lib.byteCells (acc ++ Tx.jfText f)) w') (h2 : Below (H + 1) W w') : RowI inn fs W H (i + 1) (acc ++ Tx.jfText f) w' := by
  refine ⟨h1, h2, ?_, ?_⟩
  · have := h.2.2.1; have := Tx.jfText_len he; simp; omega
  · rw [h.2.2.2, hd, Tx.jrow, if_neg (by simp [he])]; simp [hi]
theorem rowI_next (h : RowI inn fs W H i acc wr) (hi : ¬ i = 0) (hd : DropIs fs i f) (he : Tx.jfErr f = 0) (h1 : IsB (H + 1) (H + 1) (Lib.byteCells (acc ++ [32] ++ Tx.jfText f)) w') (h2 : Below (H + 1) W w') : RowI inn fs W H (i + 1) (acc ++ [32] ++ Tx.jfText f) w' := by
  refine ⟨h1, h2, ?_, ?_⟩
  · have := h.2.2.1; have := Tx.jfText_len he; simp; omega
  · rw [h.2.2.2, hd, Tx.jrow, if_neg (by simp [he])]; simp [hi]
theorem rowI_end (h : RowI inn fs W H i acc wr) (hi : fs.length ≤ i) (h0 : ¬ i = 0) : Tx.jline inn fs = (acc ++ [10], 0) := by
  rw [h.2.2.2, List.drop_eq_nil_of_le hi, Tx.jrow]
end
theorem writeByte_b (B b : Nat) (acc : Tx.Bs) (c : UInt8) (w : World) (h : IsB B b (Lib.byteCells acc) w) (hlen : acc.length < 1000000000) (hBw : B ≤ w.heap.size) :
    Calls Tryd.prog 36 #[.pointer (some ⟨b, 0, none⟩), .int .u8 c.toNat] w fun e w' => e = .returned .nilIface ∧ IsB B b (Lib.byteCells (acc ++ [c])) w' ∧ Below B w w' :=
  (writeByte_any B b _ c.toNat w h (by rw [byteCells_len]; exact hlen) hBw).mono (by rintro e w' ⟨a, b, c⟩; exact ⟨a, .inr (by rw [← byteCells_one]; exact b), c⟩)
theorem writeByte_32 (B b : Nat) (acc : Tx.Bs) (w : World) (h : IsB B b (Lib.byteCells acc) w) (hlen : acc.length < 1000000000) (hBw : B ≤ w.heap.size) :
    Calls Tryd.prog 36 #[.pointer (some ⟨b, 0, none⟩), .int .u8 32] w fun e w' => e = .returned .nilIface ∧ IsB B b (Lib.byteCells (acc ++ [32])) w' ∧ Below B w w' := writeByte_b B b acc 32 w h hlen hBw
theorem writeByte_10 (B b : Nat) (acc : Tx.Bs) (w : World) (h : IsB B b (Lib.byteCells acc) w) (hlen : acc.length < 1000000000) (hBw : B ≤ w.heap.size) :
    Calls Tryd.prog 36 #[.pointer (some ⟨b, 0, none⟩), .int .u8 10] w fun e w' => e = .returned .nilIface ∧ IsB B b (Lib.byteCells (acc ++ [10])) w' ∧ Below B w w' := writeByte_b B b acc 10 w h hlen hBw
theorem writeString_b (B b : Nat) (acc t : Tx.Bs) (w : World) (h : IsB B b (Lib.byteCells acc) w) (hlen : acc.length + t.length < 1000000000) (hBw : B ≤ w.heap.size) :
    Calls Tryd.prog 25 #[.pointer (some ⟨b, 0, none⟩), strV t] w fun e w' => e = .returned (.tuple #[.int .i64 t.length, .nilIface]) ∧ IsB B b (Lib.byteCells (acc ++ t)) w' ∧ Below B w w' :=
  (writeString_any B b _ ⟨t.toArray⟩ w h (by rw [byteCells_len, size_arr]; exact hlen) hBw).mono (by
    rintro e w' ⟨a, b, c⟩
    refine ⟨by rw [a, size_arr], .inr ?_, c⟩
    rw [byteCells_app, ← strCells_is]; exact b)
theorem string_b (B b : Nat) (l : Tx.Bs) (w : World) (h : IsB B b (Lib.byteCells l) w) (hBw : B ≤ w.heap.size) :
    Calls Tryd.prog 28 #[.pointer (some ⟨b, 0, none⟩)] w fun e w' => e = .returned (strV l) ∧ Below B w w' := Tryd.Builder_String_any B b l w h hBw
theorem row_below {w W w' : World} {o : Obj} (hW : W = w.alloc o) (h : Below (w.heap.size + 1) W w') : Below w.heap.size w w' := by
  subst hW; exact ((Below.refl _ _).alloc (Nat.le_refl _) _).trans (h.mono (by omega))

set_option maxRecDepth 100000 in
set_option maxHeartbeats 400000 in
theorem joinRow_some (n m : Int) (inn : Bool) (fv : Value) (fs : List Tx.Bs) (w : World) (hr : RdStrs w fv fs) (h0 : fs ≠ []) (h : fs.length ≤ 12) (hsh : Hid (∀ f ∈ fs, Short f)) :
    Calls Tryd.prog 26 #[.int .i64 n, .agg #[.int .i64 m, .bool inn, fv]] w fun e w' => RowJ inn n fs w e w' := by
  obtain ⟨a, cap, rfl, hr⟩ := hr
  obtain ⟨b, o, rfl, hb, hc⟩ := hr h0
  have HC := hid hc
  clear hc hr
  have HJ : Hid (Tx.jline inn fs = Tx.jrow (if inn then [32] else []) true fs) := by
    show _ = _
    rw [Tx.jline, if_neg h0, if_neg (by omega)]
  obtain ⟨L, hL⟩ : ∃ L, fs.length = L := ⟨_, rfl⟩
  have HL := hid hL
  rw [hL] at h ⊢
  have h1 : 0 < L := by rw [← hL]; exact List.length_pos_iff.2 h0
  clear hL h0
  have h2 : decide ((L : Int) ≤ 12) = true := by simp; omega
  have h5 : (0 : Int) < (L : Int) := by omega
  go_enter Tryd.func26, Tryd.ntmps26
  go_wp2_with fail
  go_must (refine (require_yes _ _ _).mono ?_)
  rintro e w1 ⟨rfl, rfl⟩
  go_wp2_with fail
  refine (require_yes _ _ _).mono ?_
  rintro e w1 ⟨rfl, rfl⟩
  have hz : b < w.heap.size + 1 := by omega
  cases inn
  · have I0 : Hid (RowI false fs (w.alloc (.cells #[.int .i64 m, .bool false, .slice (some ⟨b, o, none⟩) L cap] 29)) w.heap.size 0 [] ((w.alloc (.cells #[.int .i64 m, .bool false, .slice (some ⟨b, o, none⟩) L cap] 29)).alloc (.cells #[.pointer none, .slice none 0 0] 53))) :=
      ⟨by simpa [Lib.byteCells] using Lib.fresh_isBuilder 53 5 (w.alloc (.cells #[.int .i64 m, .bool false, .slice (some ⟨b, o, none⟩) L cap] 29)), (Below.refl _ _).alloc (by simp) _, by simp, by rw [HJ.out]; rfl⟩
    clear HJ
    go_wp2_with fail
    go_loopw [26] (fun a wr => ∃ i : Nat, i ≤ L ∧ a = .int .i64 i ∧ ∃ acc, Hid (RowI false fs (w.alloc (.cells #[.int .i64 m, .bool false, .slice (some ⟨b, o, none⟩) L cap] 29)) w.heap.size i acc wr)) (fun a _ => L - (intOf a).toNat)
    case atStart => exact ⟨0, by omega, rfl, [], I0⟩
    case round =>
      clear I0
      obtain ⟨i, hi, rfl, acc, I⟩ := hrel
      by_cases hlt : i < L
      · obtain ⟨f, hf⟩ : ∃ f, fs[i]? = some f := ⟨_, List.getElem?_eq_getElem (by rw [HL.out]; exact hlt)⟩
        have hd : DropIs fs i f := by
          show _ = _
          obtain ⟨h1, h2⟩ := List.getElem?_eq_some_iff.1 hf
          rw [List.drop_eq_getElem_cons h1, h2]
        have hc : wr.cell? ⟨b, o + i, none⟩ = some (strV f) := by
          rw [I.out.2.1.cell (p := ⟨b, o + i, none⟩) (by simpa using hz)]
          rw [((Below.refl w.heap.size w).alloc (Nat.le_refl _) _).cell (p := ⟨b, o + i, none⟩) hb]
          exact HC.out i f hf
        have HM : Hid (f ∈ fs) := List.mem_of_getElem? hf
        clear hf
        by_cases h0 : i = 0
        · have H0 := hid h0
          have hn : ¬ (0 : Int) < (i : Int) := by omega
          have hn' : ¬ 0 < i := by omega
          clear h0
          go_wp2_with fail
          refine (joinField_str _ _ _ (hsh.out f HM.out)).mono ?_
          rintro e w1 ⟨hb1, hE⟩
          rcases hE with ⟨hz1, rfl⟩ | ⟨hz1, rfl⟩
          · have hl := isB_lt I.out.1
            have hB1 := hid (isB_below I.out.1 hb1)
            have hb2 := hid (I.out.2.1.trans (hb1.mono (show w.heap.size + 1 ≤ wr.heap.size by omega)))
            have ha : acc.length + (Tx.jfText f).length < 1000000000 := by have := I.out.2.2.1; have := Tx.jfText_len hz1; omega
            have hs1 := hb1.size
            have HZ := hid hz1
            clear hb1 hz1
            go_wp2_with fail
            refine (writeString_b _ _ acc (Tx.jfText f) _ hB1.out ha (by omega)).mono ?_
            rintro e w2 ⟨rfl, hB2, hb3⟩
            have I' := hid (rowI_first I.out H0.out hd HZ.out hB2 (hb2.out.trans hb3))
            clear hB2 hb3 ha
            go_wp2
            go_roundw
            case rel => exact ⟨i + 1, by omega, by go_num, _, I'⟩
            case measure => simp [intOf]; omega
          · go_wp2_with fail
            have hJ := rowI_err I.out hd hz1
            exact ⟨rfl, row_below rfl (I.out.2.1.trans (hb1.mono (by have := isB_lt I.out.1; omega))), .inr (by rw [hJ]; exact ⟨hz1, rfl⟩)⟩
        · have H0 := hid h0
          have hn : (0 : Int) < (i : Int) := by omega
          clear h0
          go_wp2_with fail
          refine (writeByte_32 _ _ acc _ I.out.1 (by have := I.out.2.2.1; omega) (by have := isB_lt I.out.1; omega)).mono ?_
          rintro e w0 ⟨rfl, hB0, hb0⟩
          have hl0 := isB_lt hB0
          have HB0 := hid hB0
          have Hb0 := hid (I.out.2.1.trans hb0)
          clear hB0 hb0
          go_wp2_with fail
          refine (joinField_str _ _ _ (hsh.out f HM.out)).mono ?_
          rintro e w1 ⟨hb1, hE⟩
          rcases hE with ⟨hz1, rfl⟩ | ⟨hz1, rfl⟩
          · have hB1 := hid (isB_below HB0.out hb1)
            have hb2 := hid (Hb0.out.trans (hb1.mono (show w.heap.size + 1 ≤ w0.heap.size by omega)))
            have ha : (acc ++ [32]).length + (Tx.jfText f).length < 1000000000 := by have := I.out.2.2.1; have := Tx.jfText_len hz1; simp; omega
            have hs1 := hb1.size
            have HZ := hid hz1
            clear hb1 hz1
            go_wp2_with fail
            refine (writeString_b _ _ (acc ++ [32]) (Tx.jfText f) _ hB1.out ha (by omega)).mono ?_
            rintro e w2 ⟨rfl, hB2, hb3⟩
            have I' := hid (rowI_next I.out H0.out hd HZ.out hB2 (hb2.out.trans hb3))
            clear hB2 hb3 ha
            go_wp2
            go_roundw
            case rel => exact ⟨i + 1, by omega, by go_num, _, I'⟩
            case measure => simp [intOf]; omega
          · go_wp2_with fail
            have hJ := rowI_err I.out hd hz1
            exact ⟨rfl, row_below rfl (Hb0.out.trans (hb1.mono (by omega))), .inr (by rw [hJ]; exact ⟨hz1, rfl⟩)⟩
      · have hJ := hid (rowI_end I.out (by rw [HL.out]; omega) (by omega))
        go_wp2_with fail
        refine (writeByte_10 _ _ acc _ I.out.1 (by have := I.out.2.2.1; omega) (by have := isB_lt I.out.1; omega)).mono ?_
        rintro e w0 ⟨rfl, hB0, hb0⟩
        have HB0 := hid hB0
        have Hb0 := hid (I.out.2.1.trans hb0)
        clear hB0 hb0
        go_wp2_with fail
        refine (string_b _ _ _ _ HB0.out (by have := isB_lt HB0.out; omega)).mono ?_
        rintro e w1 ⟨rfl, hb1⟩
        go_wp2
        go_ret
        exact ⟨row_below rfl (Hb0.out.trans hb1), .inl (by rw [hJ.out]; exact ⟨rfl, rfl⟩)⟩
  · have J0 : Hid (IsB (w.heap.size + 1) (w.heap.size + 1) (Lib.byteCells []) ((w.alloc (.cells #[.int .i64 m, .bool true, .slice (some ⟨b, o, none⟩) L cap] 29)).alloc (.cells #[.pointer none, .slice none 0 0] 53))) := by
      show IsB _ _ _ _
      simpa [Lib.byteCells] using Lib.fresh_isBuilder 53 5 (w.alloc (.cells #[.int .i64 m, .bool true, .slice (some ⟨b, o, none⟩) L cap] 29))
    have HJ' : Hid (Tx.jline true fs = Tx.jrow [32] true fs) := by
      show _ = _
      rw [HJ.out]; rfl
    clear HJ
    go_wp2_with fail
    refine (writeByte_32 (w.heap.size + 1) (w.heap.size + 1) [] _ J0.out (by decide) (by simp)).mono ?_
    rintro e w1 ⟨rfl, hB1, hb1⟩
    have hsz1 : w.heap.size < w1.heap.size := by have := isB_lt hB1; omega
    have hq0 : w1.cell? ⟨w.heap.size, 2, none⟩ = some (.slice (some ⟨b, o, none⟩) L cap) := by
      rw [hb1.cell (p := ⟨w.heap.size, 2, none⟩) (by simp)]; simp
    have I0 : Hid (RowI true fs (w.alloc (.cells #[.int .i64 m, .bool true, .slice (some ⟨b, o, none⟩) L cap] 29)) w.heap.size 0 [32] w1) := ⟨hB1, ((Below.refl _ _).alloc (by simp) _).trans hb1, by simp, by rw [HJ'.out]; rfl⟩
    have HJ := HJ'
    clear HJ J0 hB1 hb1
    go_wp2_with fail
    go_loopw [26] (fun a wr => ∃ i : Nat, i ≤ L ∧ a = .int .i64 i ∧ ∃ acc, Hid (RowI true fs (w.alloc (.cells #[.int .i64 m, .bool true, .slice (some ⟨b, o, none⟩) L cap] 29)) w.heap.size i acc wr)) (fun a _ => L - (intOf a).toNat)
    case atStart => exact ⟨0, by omega, rfl, [32], I0⟩
    case round =>
      clear I0
      obtain ⟨i, hi, rfl, acc, I⟩ := hrel
      by_cases hlt : i < L
      · obtain ⟨f, hf⟩ : ∃ f, fs[i]? = some f := ⟨_, List.getElem?_eq_getElem (by rw [HL.out]; exact hlt)⟩
        have hd : DropIs fs i f := by
          show _ = _
          obtain ⟨h1, h2⟩ := List.getElem?_eq_some_iff.1 hf
          rw [List.drop_eq_getElem_cons h1, h2]
        have hc : wr.cell? ⟨b, o + i, none⟩ = some (strV f) := by
          rw [I.out.2.1.cell (p := ⟨b, o + i, none⟩) (by simpa using hz)]
          rw [((Below.refl w.heap.size w).alloc (Nat.le_refl _) _).cell (p := ⟨b, o + i, none⟩) hb]
          exact HC.out i f hf
        have HM : Hid (f ∈ fs) := List.mem_of_getElem? hf
        clear hf
        by_cases h0 : i = 0
        · have H0 := hid h0
          have hn : ¬ (0 : Int) < (i : Int) := by omega
          have hn' : ¬ 0 < i := by omega
          clear h0
          go_wp2_with fail
          refine (joinField_str _ _ _ (hsh.out f HM.out)).mono ?_
          rintro e w1 ⟨hb1, hE⟩
          rcases hE with ⟨hz1, rfl⟩ | ⟨hz1, rfl⟩
          · have hl := isB_lt I.out.1
            have hB1 := hid (isB_below I.out.1 hb1)
            have hb2 := hid (I.out.2.1.trans (hb1.mono (show w.heap.size + 1 ≤ wr.heap.size by omega)))
            have ha : acc.length + (Tx.jfText f).length < 1000000000 := by have := I.out.2.2.1; have := Tx.jfText_len hz1; omega
            have hs1 := hb1.size
            have HZ := hid hz1
            clear hb1 hz1
            go_wp2_with fail
            refine (writeString_b _ _ acc (Tx.jfText f) _ hB1.out ha (by omega)).mono ?_
            rintro e w2 ⟨rfl, hB2, hb3⟩
            have I' := hid (rowI_first I.out H0.out hd HZ.out hB2 (hb2.out.trans hb3))
            clear hB2 hb3 ha
            go_wp2
            go_roundw
            case rel => exact ⟨i + 1, by omega, by go_num, _, I'⟩
            case measure => simp [intOf]; omega
          · go_wp2_with fail
            have hJ := rowI_err I.out hd hz1
            exact ⟨rfl, row_below rfl (I.out.2.1.trans (hb1.mono (by have := isB_lt I.out.1; omega))), .inr (by rw [hJ]; exact ⟨hz1, rfl⟩)⟩
        · have H0 := hid h0
          have hn : (0 : Int) < (i : Int) := by omega
          clear h0
          go_wp2_with fail
          refine (writeByte_32 _ _ acc _ I.out.1 (by have := I.out.2.2.1; omega) (by have := isB_lt I.out.1; omega)).mono ?_
          rintro e w0 ⟨rfl, hB0, hb0⟩
          have hl0 := isB_lt hB0
          have HB0 := hid hB0
          have Hb0 := hid (I.out.2.1.trans hb0)
          clear hB0 hb0
          go_wp2_with fail
          refine (joinField_str _ _ _ (hsh.out f HM.out)).mono ?_
          rintro e w1 ⟨hb1, hE⟩
          rcases hE with ⟨hz1, rfl⟩ | ⟨hz1, rfl⟩
          · have hB1 := hid (isB_below HB0.out hb1)
            have hb2 := hid (Hb0.out.trans (hb1.mono (show w.heap.size + 1 ≤ w0.heap.size by omega)))
            have ha : (acc ++ [32]).length + (Tx.jfText f).length < 1000000000 := by have := I.out.2.2.1; have := Tx.jfText_len hz1; simp; omega
            have hs1 := hb1.size
            have HZ := hid hz1
            clear hb1 hz1
            go_wp2_with fail
            refine (writeString_b _ _ (acc ++ [32]) (Tx.jfText f) _ hB1.out ha (by omega)).mono ?_
            rintro e w2 ⟨rfl, hB2, hb3⟩
            have I' := hid (rowI_next I.out H0.out hd HZ.out hB2 (hb2.out.trans hb3))
            clear hB2 hb3 ha
            go_wp2
            go_roundw
            case rel => exact ⟨i + 1, by omega, by go_num, _, I'⟩
            case measure => simp [intOf]; omega
          · go_wp2_with fail
            have hJ := rowI_err I.out hd hz1
            exact ⟨rfl, row_below rfl (Hb0.out.trans (hb1.mono (by omega))), .inr (by rw [hJ]; exact ⟨hz1, rfl⟩)⟩
      · have hJ := hid (rowI_end I.out (by rw [HL.out]; omega) (by omega))
        go_wp2_with fail
        refine (writeByte_10 _ _ acc _ I.out.1 (by have := I.out.2.2.1; omega) (by have := isB_lt I.out.1; omega)).mono ?_
        rintro e w0 ⟨rfl, hB0, hb0⟩
        have HB0 := hid hB0
        have Hb0 := hid (I.out.2.1.trans hb0)
        clear hB0 hb0
        go_wp2_with fail
        refine (string_b _ _ _ _ HB0.out (by have := isB_lt HB0.out; omega)).mono ?_
        rintro e w1 ⟨rfl, hb1⟩
        go_wp2
        go_ret
        exact ⟨row_below rfl (Hb0.out.trans hb1), .inl (by rw [hJ.out]; exact ⟨rfl, rfl⟩)⟩

theorem joinRow_any (n m : Int) (inn : Bool) (fv : Value) (fs : List Tx.Bs) (w : World) (hr : RdStrs w fv fs) (hsh : ∀ f ∈ fs, Short f) :
    Calls Tryd.prog 26 #[.int .i64 n, .agg #[.int .i64 m, .bool inn, fv]] w fun e w' => RowJ inn n fs w e w' := by
  by_cases h0 : fs = []
  · subst h0; exact joinRow_none n m inn fv w hr
  · by_cases h : 12 < fs.length
    · exact joinRow_many n m inn fv fs w hr h
    · exact joinRow_some n m inn fv fs w hr h0 (by omega) hsh
end Go.Proofs.YtgnopbmcnadmdabDoor
