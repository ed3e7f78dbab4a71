/- The walks of LineSplits and LineJoins. -/
import Derived.Test.YtgnopbmcnadmdabDoorLnP
import Derived.Test.YtgnopbmcnadmdabDoorTxF
import Derived.Test.YtgnopbmcnadmdabDoorRfS
import Derived.Test.YtgnopbmcnadmdabDoorRfM
import Derived.Test.YtgnopbmcnadmdabDoorRfJ
namespace Go.Proofs.YtgnopbmcnadmdabDoor
open Go.RowKit
set_option linter.unusedVariables false
set_option linter.unusedSimpArgs false

theorem splitLs_is (s : ByteArray) : splitLs s = (Tx.split s.data.toList).lines := by
  unfold splitLs
  have h := Tx.split_tidy s.data.toList
  unfold Tx.Tidy at h
  split
  · rfl
  · rename_i q; rw [if_neg q] at h; exact h.symm
theorem splitOf_is (s : ByteArray) (w : World) :
    Calls Tryd.prog 10 #[.string s] w fun e w' => ∃ v, e = .returned (.tuple #[v, .int .i64 (Tx.split s.data.toList).number, .int .i64 (Tx.split s.data.toList).err]) ∧ OwnLines w' w.heap.size v (Tx.split s.data.toList).lines ∧ Below w.heap.size w w' := by
  by_cases h : 8000 < s.size
  · refine (splitOf_many s w h).mono ?_
    rintro e w' ⟨rfl, rfl⟩
    rw [Tx.split_many (by simpa using h)]
    exact ⟨_, rfl, ownLines_nil _ _, Below.refl _ _⟩
  · exact splitOf_any s w h
theorem splits_short (s : ByteArray) : ∀ l ∈ (Tx.split s.data.toList).lines, ∀ f ∈ l.fields, Short f := by
  intro l hl f hf
  have := (Tx.split_counts _ l hl).2 f hf
  unfold Short; omega
theorem fieldsLe (s : Tx.Bs) : ∀ (i : Nat) (a : Tx.Ln), (Tx.split s).lines[i]? = some a → a.fields.length ≤ 100000 := by
  intro i a h
  have := (Tx.split_counts _ a (List.mem_of_getElem? h)).1
  omega

set_option maxRecDepth 100000 in
set_option maxHeartbeats 400000 in
theorem lineSplits_walk (s : ByteArray) (m : Int) (w : World) (hm : w.cell? ⟨0, 0, none⟩ = some (.int .i64 m)) (h0 : 0 < w.heap.size) :
    Calls Tryd.prog 4 #[.string s] w fun e w' => e = .returned (.bool true) ∧ Below w.heap.size w w' := by
  have SP := hid (split_any s m w hm h0)
  have HM := hid hm
  clear hm
  go_enter Tryd.func4, Tryd.ntmps4
  go_wp2_with fail
  refine SP.out.mono ?_
  rintro e w1 ⟨hb1, v1, rfl, hown1⟩
  rw [splitLs_is] at hown1
  have s1 := hb1.size
  have H1 := hid hown1
  clear hown1 SP
  go_wp2_with fail
  refine (splitOf_is s _).mono ?_
  rintro e w2 ⟨v2, rfl, hown2, hb2⟩
  have s2 := hb2.size
  have H2 := hid hown2
  have hm2 : Hid (w2.cell? ⟨0, 0, none⟩ = some (.int .i64 m)) := by
    show _ = _
    rw [hb2.cell (p := ⟨0, 0, none⟩) (by show 0 < _; omega), hb1.cell (p := ⟨0, 0, none⟩) h0]; exact HM.out
  clear hown2
  go_wp2_with fail
  refine (lineBegun_is m _ hm2.out (by omega)).mono ?_
  rintro e w3 ⟨rfl, hb3⟩
  have s3 := hb3.size
  have R1 := hid (rdLines_below (rdLines_below (own_rdLines H1.out) hb2) hb3)
  have R2 := hid (rdLines_below (own_rdLines H2.out) hb3)
  go_wp2_with fail
  refine (sameLines_yes _ _ _ _ true _ R1.out R2.out (alike_refl true _) (by have := (Tx.split_lines s.data.toList).1; omega) (fieldsLe _)).mono ?_
  rintro e w4 ⟨rfl, hb4⟩
  go_wp2
  go_ret
  exact ⟨rfl, hb1.trans ((hb2.mono s1).trans ((hb3.mono (by omega)).trans (hb4.mono (by omega))))⟩

set_option maxRecDepth 100000 in
set_option maxHeartbeats 400000 in
theorem lineJoins_walk (v : Value) (ls : List Tx.Ln) (m : Int) (w : World) (hm : w.cell? ⟨0, 0, none⟩ = some (.int .i64 m)) (h0 : 0 < w.heap.size) (hr : RdLines w v ls) (hsh : Hid (∀ l ∈ ls, ∀ f ∈ l.fields, Short f)) :
    Calls Tryd.prog 5 #[v] w fun e w' => e = .returned (.bool true) ∧ Below w.heap.size w w' := by
  have HR := hid hr
  have HM := hid hm
  obtain ⟨va, vcap, rfl⟩ := rdLines_shape hr
  clear hm hr
  go_enter Tryd.func5, Tryd.ntmps5
  go_wp2_with fail
  refine (join_any _ ls _ HR.out hsh).mono ?_
  rintro e w1 ⟨hb1, rfl⟩
  have s1 := hb1.size
  have hm1 : Hid (w1.cell? ⟨0, 0, none⟩ = some (.int .i64 m)) := by
    show _ = _
    rw [hb1.cell (p := ⟨0, 0, none⟩) h0]; exact HM.out
  go_wp2_with fail
  refine (joinOf_any _ ls _ (rdLines_below HR.out hb1) hsh.out).mono ?_
  rintro e w2 ⟨rfl, hw2⟩
  subst w2
  go_wp2_with fail
  refine (lineBegun_is m _ hm1.out (by omega)).mono ?_
  rintro e w3 ⟨rfl, hb3⟩
  go_wp2
  go_ret
  exact ⟨rfl, hb1.trans (hb3.mono s1)⟩
end Go.Proofs.YtgnopbmcnadmdabDoor
