/- The contract of the document's Take: a number of so many bytes. -/
import Derived.Test.YtombhnjmelidcaaWdA
import Derived.Test.YtombhnjmelidcaaWrE
namespace Go.Proofs.Ytombhnjmelidcaa
open Go.RowKit
set_option linter.unusedVariables false
set_option linter.unusedSimpArgs false

/- the bytes, where one is, whether something was bad -/
abbrev Nb (w : World) (X : Nat) (s : Tx.Bs) (p : Nat) (bad : Bool) : Prop := CellsAt w X [strV s, .int .i64 p, .bool bad]
structure Took (s : Tx.Bs) (k p : Nat) (bad : Bool) (A p' : Nat) (bad' : Bool) : Prop where
  le : p' ≤ s.length
  lt : A < 256 ^ k
  ok : bad' = false → bad = false ∧ Wr.pNum k (s.drop p) = some (A, s.drop p')
  no : bad' = true → (bad = true ∨ Wr.pNum k (s.drop p) = none) ∧ A = 0
set_option maxRecDepth 100000 in
set_option maxHeartbeats 4000000 in
theorem nTake_any (X k : Nat) (s : Tx.Bs) (p : Nat) (bad : Bool) (w : World) (h : Nb w X s p bad) (hp : p ≤ s.length) (hs : s.length ≤ maxLen) (hk : k ≤ 5) :
    Calls Try.prog 35 #[.pointer (some ⟨X, 0, none⟩), .int .i64 k] w fun e w' => ∃ (A p' : Nat) (bad' : Bool), e = .returned (.int .i64 A) ∧ Nb w' X s p' bad' ∧ w.grownBy w' (some X) ∧ Took s k p bad A p' bad' := by
  have H := hid h
  obtain ⟨x0, f0⟩ := ca_at h 0 rfl
  obtain ⟨x1, f1⟩ := ca_at h 1 rfl
  obtain ⟨x2, f2⟩ := ca_at h 2 rfl
  have sx := h.1
  clear h
  unfold maxLen at hs
  have hz : (⟨s.toArray⟩ : ByteArray).size = s.length := by simp [ByteArray.size]
  have p256 : 0 < 256 ^ k := Nat.pow_pos (by decide)
  have HPW := hid p256
  clear p256
  cases bad
  case true =>
    go_enter Try.func35, Try.ntmps35
    go_wp2_with fail
    go_quiet (fail)
    go_wp2
    go_ret
    exact ⟨0, p, true, rfl, ca_put (w := w.drewN nq) H.out 2 _ (by simp), grown_set (grown_drewN (grown_refl _ _) nq) _ _, ⟨hp, HPW.out, fun q => (by cases q), fun _ => ⟨.inl rfl, rfl⟩⟩⟩
  by_cases q : (s.length : Int) - p < k
  case pos =>
    have HE : Hid (Wr.pNum k (s.drop p) = none) := Wr.pNum_none (by rw [List.length_drop]; omega)
    go_enter Try.func35, Try.ntmps35
    go_wp2_with fail
    go_quiet (fail)
    go_wp2
    go_ret
    exact ⟨0, p, true, rfl, ca_put (w := w.drewN nq) H.out 2 _ (by simp), grown_set (grown_drewN (grown_refl _ _) nq) _ _, ⟨hp, HPW.out, fun q => (by cases q), fun _ => ⟨.inr HE.out, rfl⟩⟩⟩
  have hkl : p + k ≤ s.length := by omega
  obtain ⟨D, hD⟩ : ∃ D, s.drop p = D := ⟨_, rfl⟩
  have lD : k ≤ D.length := by rw [← hD, List.length_drop]; omega
  have HD := hid hD
  have HE : Hid (Wr.pNum k D = some (Wr.leN (D.take k), s.drop (p + k))) := by show _ = _; rw [Wr.pNum_some lD, ← hD, List.drop_drop]
  clear hD
  go_enter Try.func35, Try.ntmps35
  go_wp2_with fail
  go_quiet (fail)
  go_wp2_with fail
  have H1 : Hid (Nb (w.drewN nq) X s (p + 0) false) := H.out
  have G1 : Hid (w.grownBy (w.drewN nq) (some X)) := grown_drewN (grown_refl _ _) nq
  clear x0 f0 x1 f1 x2 f2 sx H
  go_loopw [5, 6, 7] (fun nv tv iv wr => ∃ (i n t : Nat), i ≤ k ∧ nv = .int .i64 n ∧ tv = .int .i64 t ∧ iv = .int .i64 i ∧ Hid (n = Wr.leN (D.take i)) ∧ Hid (t = 256 ^ i) ∧ Hid (Nb wr X s (p + i) false) ∧ Hid (w.grownBy wr (some X))) (fun _ _ iv _ => k - (intOf iv).toNat)
  case atStart => exact ⟨0, 0, 1, by omega, rfl, rfl, rfl, rfl, rfl, H1, G1⟩
  case round =>
    clear H1 G1
    obtain ⟨i, n, t, hi, rfl, rfl, rfl, HN, HT, H0, G0⟩ := hrel
    by_cases hlt : i < k
    case neg =>
      obtain rfl : i = k := by omega
      have HN2 : Hid (n < 256 ^ i) := by
        show _ < _
        have := Wr.leN_lt (D.take i)
        rw [← HN.out, List.length_take, Nat.min_eq_left lD] at this
        exact this
      go_wp2
      go_ret
      exact ⟨n, p + i, false, rfl, H0.out, G0.out, ⟨hkl, HN2.out, fun _ => ⟨rfl, by rw [HD.out, HE.out, ← HN.out]⟩, fun q => (by cases q)⟩⟩
    have hiD : i < D.length := by omega
    obtain ⟨b, hb⟩ : ∃ b, D[i]? = some b := ⟨_, List.getElem?_eq_getElem hiD⟩
    have hsb : s[p + i]? = some b := by rw [← HD.out, List.getElem?_drop] at hb; exact hb
    have hpi : p + i < s.length := (List.getElem?_eq_some_iff.1 hsb).1
    obtain ⟨a, haa⟩ : ∃ a, p + i = a := ⟨_, rfl⟩
    rw [haa] at H0 hsb hpi
    have HAA := hid haa
    clear haa
    obtain ⟨x0, f0⟩ := ca_at H0.out 0 rfl
    obtain ⟨x1, f1⟩ := ca_at H0.out 1 rfl
    have sx := H0.out.1
    have hbl : b.toNat < 256 := b.toNat_lt
    obtain ⟨B, hB⟩ : ∃ B : Nat, b.toNat = B := ⟨_, rfl⟩
    have hidx : ∀ w : World, (Instr.index 9 (strV s) (.int .i64 (a : Int))).run Try.prog w = .ok (.int .u8 (B : Int)) w := fun w => by
      rw [run_index_string w _ _ _ _ Try.underlying9, dif_pos ⟨by omega, by rw [hz]; omega⟩]
      have := (List.getElem?_eq_some_iff.1 hsb).2
      simp [ByteArray.getElem_eq_getElem_data, this, hB]
    have HB := hid hB
    have HBT := hid hb
    have hbl' : B < 256 := by rw [← hB]; exact hbl
    clear hb hsb hB hbl
    have i5 : i = 0 ∨ i = 1 ∨ i = 2 ∨ i = 3 ∨ i = 4 := by omega
    rcases i5 with rfl | rfl | rfl | rfl | rfl
    · obtain rfl : t = 1 := HT.out
      have hn : n < 1 := by have := Wr.leN_lt (D.take 0); rw [← HN.out, List.length_take, Nat.min_eq_left (by omega)] at this; exact this
      have HS : Hid (n + B * 1 = Wr.leN (D.take (0 + 1))) := by
        show _ = _
        rw [take_one HBT.out, Wr.leN_snoc, ← HN.out, HB.out, List.length_take, Nat.min_eq_left (by omega)]
      go_wp2_with fail
      go_quiet (fail)
      go_wp2
      go_roundw
      case rel => exact ⟨0 + 1, n + B * 1, 256, by omega, by go_num, by go_num, by go_num, HS, rfl, by rw [show p + (0 + 1) = a + 1 by have := HAA.out; omega]; exact ca_put (w := wr.drewN _) H0.out 1 (.int .i64 _) (by simp), grown_set (grown_drewN G0.out _) _ _⟩
      case measure => simp [intOf]; omega
    · obtain rfl : t = 256 := HT.out
      have hn : n < 256 := by have := Wr.leN_lt (D.take 1); rw [← HN.out, List.length_take, Nat.min_eq_left (by omega)] at this; exact this
      have HS : Hid (n + B * 256 = Wr.leN (D.take (1 + 1))) := by
        show _ = _
        rw [take_one HBT.out, Wr.leN_snoc, ← HN.out, HB.out, List.length_take, Nat.min_eq_left (by omega)]
      go_wp2_with fail
      go_quiet (fail)
      go_wp2
      go_roundw
      case rel => exact ⟨1 + 1, n + B * 256, 65536, by omega, by go_num, by go_num, by go_num, HS, rfl, by rw [show p + (1 + 1) = a + 1 by have := HAA.out; omega]; exact ca_put (w := wr.drewN _) H0.out 1 (.int .i64 _) (by simp), grown_set (grown_drewN G0.out _) _ _⟩
      case measure => simp [intOf]; omega
    · obtain rfl : t = 65536 := HT.out
      have hn : n < 65536 := by have := Wr.leN_lt (D.take 2); rw [← HN.out, List.length_take, Nat.min_eq_left (by omega)] at this; exact this
      have HS : Hid (n + B * 65536 = Wr.leN (D.take (2 + 1))) := by
        show _ = _
        rw [take_one HBT.out, Wr.leN_snoc, ← HN.out, HB.out, List.length_take, Nat.min_eq_left (by omega)]
      go_wp2_with fail
      go_quiet (fail)
      go_wp2
      go_roundw
      case rel => exact ⟨2 + 1, n + B * 65536, 16777216, by omega, by go_num, by go_num, by go_num, HS, rfl, by rw [show p + (2 + 1) = a + 1 by have := HAA.out; omega]; exact ca_put (w := wr.drewN _) H0.out 1 (.int .i64 _) (by simp), grown_set (grown_drewN G0.out _) _ _⟩
      case measure => simp [intOf]; omega
    · obtain rfl : t = 16777216 := HT.out
      have hn : n < 16777216 := by have := Wr.leN_lt (D.take 3); rw [← HN.out, List.length_take, Nat.min_eq_left (by omega)] at this; exact this
      have HS : Hid (n + B * 16777216 = Wr.leN (D.take (3 + 1))) := by
        show _ = _
        rw [take_one HBT.out, Wr.leN_snoc, ← HN.out, HB.out, List.length_take, Nat.min_eq_left (by omega)]
      go_wp2_with fail
      go_quiet (fail)
      go_wp2
      go_roundw
      case rel => exact ⟨3 + 1, n + B * 16777216, 4294967296, by omega, by go_num, by go_num, by go_num, HS, rfl, by rw [show p + (3 + 1) = a + 1 by have := HAA.out; omega]; exact ca_put (w := wr.drewN _) H0.out 1 (.int .i64 _) (by simp), grown_set (grown_drewN G0.out _) _ _⟩
      case measure => simp [intOf]; omega
    · obtain rfl : t = 4294967296 := HT.out
      have hn : n < 4294967296 := by have := Wr.leN_lt (D.take 4); rw [← HN.out, List.length_take, Nat.min_eq_left (by omega)] at this; exact this
      have HS : Hid (n + B * 4294967296 = Wr.leN (D.take (4 + 1))) := by
        show _ = _
        rw [take_one HBT.out, Wr.leN_snoc, ← HN.out, HB.out, List.length_take, Nat.min_eq_left (by omega)]
      go_wp2_with fail
      go_quiet (fail)
      go_wp2
      go_roundw
      case rel => exact ⟨4 + 1, n + B * 4294967296, 1099511627776, by omega, by go_num, by go_num, by go_num, HS, rfl, by rw [show p + (4 + 1) = a + 1 by have := HAA.out; omega]; exact ca_put (w := wr.drewN _) H0.out 1 (.int .i64 _) (by simp), grown_set (grown_drewN G0.out _) _ _⟩
      case measure => simp [intOf]; omega
end Go.Proofs.Ytombhnjmelidcaa
