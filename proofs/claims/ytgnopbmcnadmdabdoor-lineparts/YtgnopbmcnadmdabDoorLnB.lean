/- Contracts of the reader's skipGaps and atEnd. -/
import Derived.Test.YtgnopbmcnadmdabDoorLnA
import Derived.Test.YtgnopbmcnadmdabDoorRfL
namespace Go.Proofs.YtgnopbmcnadmdabDoor
open Go.RowKit
set_option linter.unusedVariables false
set_option linter.unusedSimpArgs false

/- a reader in memory: the line's number, its text, where the next byte is -/
structure Rdr (w : World) (b : Nat) (n : Int) (s : ByteArray) (k : Nat) : Prop where
  lt : b < w.heap.size
  c0 : w.cell? ⟨b, 0, none⟩ = some (.int .i64 n)
  c1 : w.cell? ⟨b, 1, none⟩ = some (.string s)
  c2 : w.cell? ⟨b, 2, none⟩ = some (.int .i64 k)
  z2 : w.frozen? ⟨b, 2, none⟩ = false

theorem grown_refl (w : World) (r : Option Nat) : w.grownBy w r := ⟨rfl, rfl, rfl, Nat.le_refl _, fun _ _ _ => rfl⟩
theorem grown_trans {a b c : World} {r : Option Nat} (h : a.grownBy b r) (k : b.grownBy c r) : a.grownBy c r :=
  ⟨k.os.trans h.os, k.tape.trans h.tape, k.output.trans h.output, Nat.le_trans h.size k.size, fun i hi hr => (k.block i (Nat.lt_of_lt_of_le hi h.size) hr).trans (h.block i hi hr)⟩
theorem grown_drewN {a b : World} {r : Option Nat} (h : a.grownBy b r) (n : Nat) : a.grownBy (b.drewN n) r := ⟨h.os, h.tape, h.output, h.size, h.block⟩
theorem grown_set {a b : World} {g : Nat} (h : a.grownBy b (some g)) (o : Nat) (v : Value) : a.grownBy (b.setCell ⟨g, o, none⟩ v) (some g) :=
  ⟨h.os, h.tape, h.output, by simpa using h.size, fun i hi hr => (Below.heap_setCell b ⟨g, o, none⟩ v i (by intro e; subst e; exact hr rfl)).trans (h.block i hi hr)⟩
theorem rdr_drewN {w : World} {b : Nat} {n : Int} {s : ByteArray} {k : Nat} (h : Rdr w b n s k) (q : Nat) : Rdr (w.drewN q) b n s k := ⟨h.lt, h.c0, h.c1, h.c2, h.z2⟩
theorem rdr_set {w : World} {b : Nat} {n : Int} {s : ByteArray} {k k' : Nat} (h : Rdr w b n s k) : Rdr (w.setCell ⟨b, 2, none⟩ (.int .i64 k')) b n s k' := by
  obtain ⟨h0, h1, h2, h3, h4⟩ := h
  exact ⟨by simpa using h0, by go_simp, by go_simp, by go_simp, by go_simp⟩

set_option maxRecDepth 100000 in
set_option maxHeartbeats 1000000 in
theorem atEnd_any (b k : Nat) (n : Int) (s : ByteArray) (w : World) (h : Rdr w b n s k) (hk : k ≤ s.size) (hs : s.size ≤ 8000) {r : Bool} (hr : (if h : k < s.size then decide (s[k] = 35) else true) = r) :
    Calls Tryd.prog 33 #[.pointer (some ⟨b, 0, none⟩)] w fun e w' => e = .returned (.bool r) ∧ ∃ q, w' = w.drewN q := by
  obtain ⟨h0, h1, h2, h3, h4⟩ := h
  by_cases hlt : k < s.size
  · rw [dif_pos hlt] at hr
    obtain ⟨c, hc⟩ : ∃ c, s[k] = c := ⟨_, rfl⟩
    rw [hc] at hr
    have e0 : ((k : Int) == (s.size : Int)) = false := by simp; omega
    have e1 : ((c.toNat : Int) == 35) = r := by
      have := u8_eq c 35; simp at this
      rw [this, ← hr]; by_cases q : c = 35 <;> simp [q]
    have E1 := hid e1
    cases r
    all_goals
      clear hr E1
      go_enter Tryd.func33, Tryd.ntmps33
      go_wp2_with fail
      go_quiet (fail)
      go_wp2
      go_ret
      exact ⟨rfl, _, rfl⟩
  · rw [dif_neg hlt] at hr
    subst hr
    have e0 : ((k : Int) == (s.size : Int)) = true := by simp; omega
    go_enter Tryd.func33, Tryd.ntmps33
    go_wp2_with fail
    go_quiet (fail)
    go_wp2
    go_ret
    exact ⟨rfl, _, rfl⟩

set_option maxRecDepth 100000 in
set_option maxHeartbeats 1000000 in
theorem skipGaps_any (b k : Nat) (n : Int) (s : ByteArray) (w : World) (h : Rdr w b n s k) (hk : k ≤ s.size) (hs : s.size ≤ 8000) :
    Calls Tryd.prog 32 #[.pointer (some ⟨b, 0, none⟩)] w fun e w' => e = .returned (.tuple #[]) ∧ ∃ k' : Nat, k ≤ k' ∧ k' ≤ s.size ∧ Tx.skip (s.data.toList.drop k) = s.data.toList.drop k' ∧ Rdr w' b n s k' ∧ w.grownBy w' (some b) := by
  go_enter Tryd.func32, Tryd.ntmps32
  go_wp2_with fail
  go_loopg [] (s.size - k) (fun g wr => ∃ j : Nat, k ≤ j ∧ j ≤ s.size ∧ g = s.size - j ∧ Hid (Tx.skip (s.data.toList.drop k) = Tx.skip (s.data.toList.drop j)) ∧ Rdr wr b n s j ∧ w.grownBy wr (some b))
  case atStart => exact ⟨k, by omega, hk, rfl, rfl, h, grown_refl _ _⟩
  case round =>
    obtain ⟨j, j1, j2, hg, SK, hR, hG⟩ := hrel
    have Hg := hid hg
    have HR := hid hR
    obtain ⟨r0, r1, r2, r3, r4⟩ := hR
    clear hg h
    by_cases hj : j < s.size
    · obtain ⟨c, hc⟩ : ∃ c, s[j] = c := ⟨_, rfl⟩
      have DC : Hid (s.data.toList.drop j = c :: s.data.toList.drop (j + 1)) := by show _ = _; rw [drop_cons s j hj, hc]
      cases hgp : Tx.gap c
      · have HG := hid hgp
        clear hgp
        go_wp2_with fail
        go_quiet ((go_at_call 31; exact Calls.quiet_of_same (isGap_is _ _ HG.out)))
        go_wp2
        go_end0
        refine ⟨rfl, j, j1, j2, ?_, rdr_drewN HR.out _, grown_drewN hG _⟩
        rw [SK.out, DC.out]; simp [Tx.skip, HG.out]
      · have HG := hid hgp
        clear hgp
        go_wp2_with fail
        go_quiet ((go_at_call 31; exact Calls.quiet_of_same (isGap_is _ _ HG.out)))
        go_wp2
        go_roundg (s.size - (j + 1))
        case measure => have := Hg.out; omega
        case rel => exact ⟨j + 1, by omega, by omega, rfl, by show _ = _; rw [SK.out, DC.out]; simp [Tx.skip, HG.out], rdr_drewN (rdr_set HR.out) _, grown_drewN (grown_set hG _ _) _⟩
    · go_wp2_with fail
      go_quiet (fail)
      go_wp2
      go_end0
      refine ⟨rfl, j, j1, j2, ?_, rdr_drewN HR.out _, grown_drewN hG _⟩
      rw [SK.out, drop_end s j (by omega)]; rfl
end Go.Proofs.YtgnopbmcnadmdabDoor
