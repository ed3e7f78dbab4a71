/- lineBegun answers true. -/
import Derived.Test.YtgnopbmcnadmdabDoorLnN
import Derived.Test.YtgnopbmcnadmdabDoorLnW
import Derived.KernelRfl
namespace Go.Proofs.YtgnopbmcnadmdabDoor
open Go.RowKit
set_option linter.unusedVariables false
set_option linter.unusedSimpArgs false

def begunText : ByteArray := ⟨#[97, 32, 34, 98, 32, 99, 34, 32, 35, 100, 10, 10, 32, 101]⟩
def begunLines : List Tx.Ln := [⟨1, false, [[97], [98, 32, 99]]⟩, ⟨3, true, [[101]]⟩]
theorem begun_split : Tx.split begunText.data.toList = ⟨begunLines, 0, 0⟩ := by rfl
theorem begun_join : Tx.join begunLines = ([97, 32, 34, 98, 32, 99, 34, 10, 32, 101, 10], 0, 0) := by rfl
theorem begun_short : ∀ l ∈ begunLines, ∀ f ∈ l.fields, Short f := by
  intro l hl f hf
  simp [begunLines] at hl
  rcases hl with rfl | rfl <;> simp at hf
  · rcases hf with rfl | rfl <;> simp [Short]
  · subst hf; simp [Short]

set_option maxRecDepth 100000 in
set_option maxHeartbeats 400000 in
theorem lineBegun_is (m : Int) (w : World) (hm : w.cell? ⟨0, 0, none⟩ = some (.int .i64 m)) (h0 : 0 < w.heap.size) :
    Calls Tryd.prog 7 #[] w fun e w' => e = .returned (.bool true) ∧ Below w.heap.size w w' := by
  have SP : Hid (Calls Tryd.prog 8 #[.string ⟨#[97, 32, 34, 98, 32, 99, 34, 32, 35, 100, 10, 10, 32, 101]⟩] w fun x w' =>
      Below w.heap.size w w' ∧ ∃ v, x = .returned (.tuple #[v, .int .i64 0, .int .i64 0]) ∧ OwnLines w' w.heap.size v begunLines) := by
    have := split_any begunText m w hm h0
    rw [show splitLs begunText = begunLines by rw [splitLs, begun_split]; rfl, begun_split] at this
    exact this
  go_enter Tryd.func7, Tryd.ntmps7
  go_wp2_with fail
  refine SP.out.mono ?_
  rintro e w1 ⟨hb1, v, rfl, hown⟩
  have RD := hid (own_rdLines hown)
  obtain ⟨va, cap, rfl, hr⟩ := own_rdLines hown
  obtain ⟨b, o, rfl, hb, hc⟩ := hr (by simp [begunLines])
  have JN : Hid (Calls Tryd.prog 11 #[.slice (some ⟨b, o, none⟩) begunLines.length cap] w1 fun x w' =>
      Below w1.heap.size w1 w' ∧ x = .returned (.tuple #[.string ⟨#[97, 32, 34, 98, 32, 99, 34, 10, 32, 101, 10]⟩, .int .i64 0])) := by
    have := join_any _ begunLines w1 RD.out begun_short
    rw [begun_join] at this
    exact this
  obtain ⟨a0, a1, fa, a2, ra⟩ := hc 0 _ rfl
  obtain ⟨b0, b1, fb, b2, rb⟩ := hc 1 _ rfl
  obtain ⟨faa, facap, rfl, _⟩ := ra
  clear hr hc RD hown SP rb a0 a1
  have hL : begunLines.length = 2 := rfl
  simp only [Nat.zero_mul, Nat.one_mul, Nat.add_zero, List.length_cons, List.length_nil, hL] at a2 b0 b1 b2 JN ⊢
  go_wp2_with fail
  refine JN.out.mono ?_
  rintro e w2 ⟨hb2, rfl⟩
  have a2' := (hb2.cell (p := ⟨b, o + 2, none⟩) hb).trans a2
  have b0' := (hb2.cell (p := ⟨b, o + 3, none⟩) hb).trans b0
  have b1' := (hb2.cell (p := ⟨b, o + 3 + 1, none⟩) hb).trans b1
  clear a2 b0 b1 b2
  go_wp2
  go_ret
  exact ⟨rfl, hb1.trans (hb2.mono hb1.size)⟩
end Go.Proofs.YtgnopbmcnadmdabDoor
