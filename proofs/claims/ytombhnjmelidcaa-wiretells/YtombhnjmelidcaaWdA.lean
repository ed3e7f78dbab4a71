/- The contracts of the reader's take and number. -/
import Derived.Test.YtombhnjmelidcaaBaA
import Derived.Test.YtombhnjmelidcaaTbA
import Derived.Test.YtombhnjmelidcaaWrD
import Derived.Test.YtombhnjmelidcaaWeC
import Derived.RegionTactic
import Derived.Lib.ConvBytes
namespace Go.Proofs.Ytombhnjmelidcaa
open Go.RowKit
set_option linter.unusedVariables false
set_option linter.unusedSimpArgs false

abbrev faultV (n e : Int) : Value := .iface 84 (.agg #[.int .i64 n, .int .i64 e])
abbrev gaveUp : Ending := .panicked [{ v := faultV 0 1, recovered := false }]
theorem grown_refl (w : World) (g : Option Nat) : w.grownBy w g := ⟨rfl, rfl, rfl, Nat.le_refl _, fun _ _ _ => rfl⟩
theorem grown_trans {w w1 w2 : World} {g : Option Nat} (h : w.grownBy w1 g) (h' : w1.grownBy w2 g) : w.grownBy w2 g :=
  ⟨h'.os.trans h.os, h'.tape.trans h.tape, h'.output.trans h.output, Nat.le_trans h.size h'.size, fun k hk hn => (h'.block k (Nat.lt_of_lt_of_le hk h.size) hn).trans (h.block k hk hn)⟩
theorem grown_set {w w1 : World} {r : Nat} (h : w.grownBy w1 (some r)) (o : Nat) (u : Value) : w.grownBy (w1.setCell ⟨r, o, none⟩ u) (some r) :=
  ⟨by rw [← h.os]; rfl, by rw [← h.tape]; rfl, by rw [← h.output]; rfl, by simpa using h.size, fun k hk hn => by rw [Below.heap_setCell _ _ _ _ (show k ≠ r by intro q; subst q; exact hn rfl)]; exact h.block k hk hn⟩
theorem grown_alloc {w w1 : World} {g : Option Nat} (h : w.grownBy w1 g) (o : Obj) : w.grownBy (w1.alloc o) g :=
  ⟨h.os, h.tape, h.output, by have := h.size; simp; omega, fun k hk hn => (Below.heap_alloc _ _ _ (Nat.lt_of_lt_of_le hk h.size)).trans (h.block k hk hn)⟩
theorem grown_drewN {w w1 : World} {g : Option Nat} (h : w.grownBy w1 g) (n : Nat) : w.grownBy (w1.drewN n) g := ⟨h.os, h.tape, h.output, h.size, h.block⟩
set_option maxHeartbeats 400000 in
theorem require_yes (n e : Int) (w : World) :
    Calls Try.prog 50 #[.bool true, .int .i64 n, .int .i64 e] w fun x w' => x = .returned (.tuple #[]) ∧ w' = w := by
  go_enter Try.func50, Try.ntmps50
  go_wp2
  go_end0
  exact ⟨rfl, rfl⟩
set_option maxHeartbeats 400000 in
theorem require_no (n e : Int) (w : World) :
    Calls Try.prog 50 #[.bool false, .int .i64 n, .int .i64 e] w fun x w' => x = .panicked [{ v := faultV n e, recovered := false }] ∧ w' = w := by
  go_enter Try.func50, Try.ntmps50
  go_wp2
  exact ⟨rfl, rfl, rfl⟩
/- the reader: what is not yet read -/
abbrev Rr (w : World) (r : Nat) (s : Tx.Bs) : Prop := CellsAt w r [strV s]
theorem slice_take (s : Tx.Bs) (k : Nat) : (⟨s.toArray⟩ : ByteArray).extract 0 k = ⟨(s.take k).toArray⟩ := by
  apply bytes_ext
  rw [Lib.extract_data]
  simp
theorem slice_drop (s : Tx.Bs) (k : Nat) : (⟨s.toArray⟩ : ByteArray).extract k s.length = ⟨(s.drop k).toArray⟩ := by
  apply bytes_ext
  rw [Lib.extract_data]
  simp [List.take_of_length_le]
set_option maxRecDepth 100000 in
set_option maxHeartbeats 2000000 in
theorem take_yes (r k : Nat) (s : Tx.Bs) (w : World) (h : Rr w r s) (hk : k ≤ s.length) (hs : s.length ≤ maxLen) :
    Calls Try.prog 64 #[.pointer (some ⟨r, 0, none⟩), .int .i64 k] w fun e w' => e = .returned (strV (s.take k)) ∧ Rr w' r (s.drop k) ∧ w.grownBy w' (some r) := by
  have H := hid h
  obtain ⟨c0, f0⟩ := ca_at h 0 rfl
  have sr := h.1
  clear h
  unfold maxLen at hs
  have hz : (⟨s.toArray⟩ : ByteArray).size = s.length := by simp [ByteArray.size]
  have t1 := slice_take s k
  have t2 := slice_drop s k
  have hk' : (k : Int) ≤ s.length := by omega
  go_enter Try.func64, Try.ntmps64
  go_wp2_with (go_at_call 50; refine (require_yes _ _ _).mono ?_; rintro e w1 ⟨rfl, rfl⟩)
  go_ret
  exact ⟨rfl, ca_put H.out 0 _ (by simp), grown_set (grown_refl _ _) 0 _⟩
set_option maxRecDepth 100000 in
set_option maxHeartbeats 2000000 in
theorem take_no (r : Nat) (k : Int) (s : Tx.Bs) (w : World) (h : Rr w r s) (hk : ¬ k ≤ s.length) :
    Calls Try.prog 64 #[.pointer (some ⟨r, 0, none⟩), .int .i64 k] w fun e w' => e = gaveUp ∧ w' = w := by
  have H := hid h
  obtain ⟨c0, f0⟩ := ca_at h 0 rfl
  have sr := h.1
  clear h
  have hz : (⟨s.toArray⟩ : ByteArray).size = s.length := by simp [ByteArray.size]
  go_enter Try.func64, Try.ntmps64
  go_wp2_with fail
  refine (require_no _ _ _).mono ?_
  rintro e w1 ⟨rfl, rfl⟩
  exact ⟨rfl, rfl, rfl⟩
theorem i64_or_nat (a b : Nat) (ha : a < 9223372036854775808) (hb : b < 9223372036854775808) : bits BinOp.or IntKind.i64 (a : Int) (b : Int) = ((a ||| b : Nat) : Int) := by
  have hx : a ||| b < 2 ^ 63 := Nat.or_lt_two_pow (by omega) (by omega)
  have e : ∀ c : Nat, c < 9223372036854775808 → (BitVec.ofInt 64 (c : Int)).toNat = c := fun c hc => by
    rw [BitVec.ofInt_natCast, BitVec.toNat_ofNat]; exact Nat.mod_eq_of_lt (by omega)
  show IntKind.i64.wrap ((BitVec.ofInt 64 (a : Int) ||| BitVec.ofInt 64 (b : Int)).toNat : Int) = _
  rw [BitVec.toNat_or, e a ha, e b hb, IntKind.wrap_i64]
  omega
theorem or_add (n B k : Nat) (p : Int) (hp : p = ((2 ^ k : Nat) : Int)) (hn : n < 2 ^ k) (hb : 2 ^ k * B < 9223372036854775808) (hn2 : n < 9223372036854775808) : bits BinOp.or IntKind.i64 (n : Int) ((B : Int) * p) = ((n + B * 2 ^ k : Nat) : Int) := by
  have e : (B : Int) * p = ((2 ^ k * B : Nat) : Int) := by rw [hp, Int.natCast_mul, Int.mul_comm]
  rw [e, i64_or_nat n (2 ^ k * B) hn2 hb, Nat.or_comm, ← Nat.two_pow_add_eq_or_of_lt hn, Nat.add_comm, Nat.mul_comm]
theorem or_zero (B : Nat) (hB : B < 256) : bits BinOp.or IntKind.i64 0 (B : Int) = (B : Int) := by
  have := i64_or_nat 0 B (by omega) (by omega)
  rw [Nat.zero_or] at this
  exact this
theorem take_one {T : Tx.Bs} {i : Nat} {b : UInt8} (h : T[i]? = some b) : T.take (i + 1) = T.take i ++ [b] := by
  obtain ⟨hi, rfl⟩ := List.getElem?_eq_some_iff.1 h
  exact List.take_succ_eq_append_getElem hi
theorem conv_bytes (T : Tx.Bs) (w : World) : ∃ c W, (convert 9 53 (strV T)).run Try.prog w = .ok (.slice (some ⟨w.heap.size, 0, none⟩) T.length c) W ∧ (∀ j b, T[j]? = some b → W.cell? ⟨w.heap.size, j, none⟩ = some (.int .u8 (b.toNat : Int))) ∧ Below w.heap.size w W := by
  have hz : (⟨T.toArray⟩ : ByteArray).size = T.length := by simp [ByteArray.size]
  refine ⟨_, Lib.bytesWorld w 5 ⟨T.toArray⟩, by rw [← hz]; exact Lib.run_convert_string_bytes w _ _ _ ⟨T.toArray⟩ Try.underlying9 Try.underlying53 Try.underlying5, fun j b hj => ?_, ⟨rfl, rfl, rfl, by rw [Lib.bytesWorld_size]; omega, fun k hk => Lib.bytesWorld_at_old w _ _ k hk⟩⟩
  have hl := (List.getElem?_eq_some_iff.1 hj).1
  rw [Lib.bytesWorld_cell w 5 ⟨T.toArray⟩ j (by rw [hz]; exact hl)]
  simp [List.getD, hj]
set_option maxRecDepth 100000 in
set_option maxHeartbeats 2000000 in
theorem rnumber_yes (r k : Nat) (s : Tx.Bs) (w : World) (h : Rr w r s) (hk : k ≤ s.length) (hk5 : k ≤ 5) (hs : s.length ≤ maxLen) :
    Calls Try.prog 49 #[.pointer (some ⟨r, 0, none⟩), .int .i64 k] w fun e w' => e = .returned (.int .i64 (Wr.leN (s.take k))) ∧ Rr w' r (s.drop k) ∧ w.grownBy w' (some r) := by
  have C0 := hid (take_yes r k s w h hk hs)
  obtain ⟨T, hT⟩ : ∃ T, s.take k = T := ⟨_, rfl⟩
  have lT : T.length = k := by rw [← hT]; simp; omega
  obtain ⟨Z, hZ⟩ : ∃ Z, s.drop k = Z := ⟨_, rfl⟩
  rw [hT, hZ] at C0
  rw [hT, hZ]
  have LT := hid lT
  clear h hT hZ hk lT hs
  go_enter Try.func49, Try.ntmps49
  go_wp2_with fail
  refine C0.out.mono ?_
  rintro e w1 ⟨rfl, R1, G1⟩
  have HR1 := hid R1
  have HG1 := hid G1
  clear R1 G1 C0
  obtain ⟨c, W, hcv, hcell, hbW⟩ := conv_bytes T w1
  have HCL := hid hcell
  have R2 := hid (ca_below HR1.out hbW)
  have G2 : Hid (w.grownBy W (some r)) := grown_trans HG1.out ⟨hbW.os, hbW.tape, hbW.output, hbW.size, fun k hk _ => hbW.block k hk⟩
  have sW : w1.heap.size < W.heap.size ∨ T = [] := by
    cases T with
    | nil => exact .inr rfl
    | cons b l => exact .inl (by have := hcell 0 b rfl; exact World.block_lt_of_cell? _ _ this)
  obtain ⟨X, hX⟩ : ∃ X, w1.heap.size = X := ⟨_, rfl⟩
  rw [hX] at hcv HCL sW
  clear hcell hbW HR1 HG1
  go_wp2_with fail
  clear hX hcv
  go_loopw [5, 13] (fun nv iv wr => ∃ (i n : Nat), i ≤ T.length ∧ iv = .int .i64 i ∧ nv = .int .i64 n ∧ Hid (n = Wr.leN (T.take i)) ∧ wr = W) (fun _ iv _ => T.length - (intOf iv).toNat)
  case atStart => exact ⟨0, 0, by omega, rfl, rfl, rfl, rfl⟩
  case round =>
    obtain ⟨i, n, hi, rfl, rfl, HN, rfl⟩ := hrel
    by_cases hlt : i < T.length
    · obtain ⟨b, hb⟩ : ∃ b, T[i]? = some b := ⟨_, List.getElem?_eq_getElem hlt⟩
      have cb := HCL.out i b hb
      have hbl : (b.toNat : Int) < 256 := by have := b.toNat_lt; omega
      obtain ⟨B, hB⟩ : ∃ B : Nat, b.toNat = B := ⟨_, rfl⟩
      rw [hB] at cb hbl
      have HB := hid hB
      have hi5 : i < 5 := by rw [LT.out] at hlt; omega
      have sX : X < wr.heap.size := by
        rcases sW with q | q
        · exact q
        · rw [q] at hlt; simp at hlt
      have HBT := hid hb
      clear hb hB
      have i5 : i = 0 ∨ i = 1 ∨ i = 2 ∨ i = 3 ∨ i = 4 := by omega
      rcases i5 with rfl | rfl | rfl | rfl | rfl
      · have hn : n = 0 := HN.out
        subst hn
        have HS : Hid (B = Wr.leN (T.take 1)) := by
          show _ = _
          rw [take_one HBT.out, Wr.leN_snoc, ← HN.out, HB.out]; simp
        go_wp2
        refine ⟨⟨1, B, by omega, by go_num, ?_, HS, trivial⟩, by simp [intOf]; omega⟩
        rw [or_zero B (by omega)]
      · have hn : n < 256 := by have := Wr.leN_lt (T.take 1); rw [← HN.out, List.length_take, Nat.min_eq_left (by omega)] at this; exact this
        have HS : Hid (n + B * 2 ^ 8 = Wr.leN (T.take (1 + 1))) := by
          show _ = _
          rw [take_one HBT.out, Wr.leN_snoc, ← HN.out, HB.out, List.length_take, Nat.min_eq_left (by omega)]
        go_wp2
        refine ⟨⟨1 + 1, n + B * 2 ^ 8, by omega, by go_num, ?_, HS, trivial⟩, by simp [intOf]; omega⟩
        rw [or_add n B 8 256 (by decide) (by omega) (by omega) (by omega)]
      · have hn : n < 65536 := by have := Wr.leN_lt (T.take 2); rw [← HN.out, List.length_take, Nat.min_eq_left (by omega)] at this; exact this
        have HS : Hid (n + B * 2 ^ 16 = Wr.leN (T.take (2 + 1))) := by
          show _ = _
          rw [take_one HBT.out, Wr.leN_snoc, ← HN.out, HB.out, List.length_take, Nat.min_eq_left (by omega)]
        go_wp2
        refine ⟨⟨2 + 1, n + B * 2 ^ 16, by omega, by go_num, ?_, HS, trivial⟩, by simp [intOf]; omega⟩
        rw [or_add n B 16 65536 (by decide) (by omega) (by omega) (by omega)]
      · have hn : n < 16777216 := by have := Wr.leN_lt (T.take 3); rw [← HN.out, List.length_take, Nat.min_eq_left (by omega)] at this; exact this
        have HS : Hid (n + B * 2 ^ 24 = Wr.leN (T.take (3 + 1))) := by
          show _ = _
          rw [take_one HBT.out, Wr.leN_snoc, ← HN.out, HB.out, List.length_take, Nat.min_eq_left (by omega)]
        go_wp2
        refine ⟨⟨3 + 1, n + B * 2 ^ 24, by omega, by go_num, ?_, HS, trivial⟩, by simp [intOf]; omega⟩
        rw [or_add n B 24 16777216 (by decide) (by omega) (by omega) (by omega)]
      · have hn : n < 4294967296 := by have := Wr.leN_lt (T.take 4); rw [← HN.out, List.length_take, Nat.min_eq_left (by omega)] at this; exact this
        have HS : Hid (n + B * 2 ^ 32 = Wr.leN (T.take (4 + 1))) := by
          show _ = _
          rw [take_one HBT.out, Wr.leN_snoc, ← HN.out, HB.out, List.length_take, Nat.min_eq_left (by omega)]
        go_wp2
        refine ⟨⟨4 + 1, n + B * 2 ^ 32, by omega, by go_num, ?_, HS, trivial⟩, by simp [intOf]; omega⟩
        rw [or_add n B 32 4294967296 (by decide) (by omega) (by omega) (by omega)]
    · have HN2 : Hid (n = Wr.leN T) := by show _ = _; rw [HN.out, List.take_of_length_le (by omega)]
      go_wp2
      go_ret
      exact ⟨ret_int (by rw [HN2.out]), R2.out, G2.out⟩
end Go.Proofs.Ytombhnjmelidcaa
