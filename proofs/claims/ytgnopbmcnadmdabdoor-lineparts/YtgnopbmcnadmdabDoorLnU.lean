/- The contracts of Split's closure and of the deferred function that recovers. -/
import Derived.Test.YtgnopbmcnadmdabDoorLnT
import Derived.Defers
import Derived.Recover
namespace Go.Proofs.YtgnopbmcnadmdabDoor
open Go.RowKit
set_option linter.unusedVariables false
set_option linter.unusedSimpArgs false

set_option maxHeartbeats 1000000 in
theorem split1_any (bs bl : Nat) (s : ByteArray) (m : Int) (w : World) (hm : w.cell? ⟨0, 0, none⟩ = some (.int .i64 m)) (c1 : w.cell? ⟨bs, 0, none⟩ = some (.string s)) (c2 : w.cell? ⟨bl, 0, none⟩ = some (.slice none 0 0)) (z2 : w.frozen? ⟨bl, 0, none⟩ = false) (hl : bl < w.heap.size) :
    Calls Tryd.prog 14 #[.pointer (some ⟨bs, 0, none⟩), .pointer (some ⟨bl, 0, none⟩)] w fun e w' =>
      ((Tx.split s.data.toList).err = 0 ∧ e = .returned (.tuple #[]) ∧ ∃ v w1, Below w.heap.size w w1 ∧ OwnLines w1 w.heap.size v (Tx.split s.data.toList).lines ∧ w' = w1.setCell ⟨bl, 0, none⟩ v) ∨
      ((Tx.split s.data.toList).err ≠ 0 ∧ e = .panicked [{ v := faultV (Tx.split s.data.toList).number (Tx.split s.data.toList).err, recovered := false }] ∧ Below w.heap.size w w') := by
  have TC : Hid (Calls Tryd.prog 15 #[.string s] w fun e w' => TextPost s w e w') := by
    by_cases h : 8000 < s.size
    · exact splitText_many s w h
    · exact splitText_any s w m hm h
  go_enter Tryd.func14, Tryd.ntmps14
  go_wp2_with fail
  refine TC.out.mono ?_
  rintro e w1 ⟨hb, hO⟩
  obtain ⟨hc, hz⟩ := bcell hb
  have c2' := (hc bl 0 hl).trans c2
  have z2' := (hz bl 0 hl).trans z2
  rcases hO with ⟨he, v, rfl, hown⟩ | ⟨he, rfl⟩
  · obtain ⟨va, vcap, rfl⟩ := ownLines_shape hown
    go_wp2
    go_end0
    exact .inl ⟨he, rfl, _, w1, hb, hown, rfl⟩
  · exact ⟨rfl, .inr ⟨he, rfl, hb⟩⟩

end Go.Proofs.YtgnopbmcnadmdabDoor
