/- The contracts of the reader's quoted and field. -/
import Derived.Test.YtgnopbmcnadmdabDoorLnC
import Derived.Test.YtgnopbmcnadmdabDoorLnQ
namespace Go.Proofs.YtgnopbmcnadmdabDoor
open Go.RowKit
set_option linter.unusedVariables false
set_option linter.unusedSimpArgs false

set_option maxRecDepth 100000 in
set_option maxHeartbeats 2000000 in
theorem quoted_any (b k : Nat) (n : Int) (s : ByteArray) (w : World) (h : Rdr w b n s k) (hk : k < s.size) (hs : s.size ≤ 8000) :
    Calls Tryd.prog 41 #[.pointer (some ⟨b, 0, none⟩)] w fun e w' => ∃ (k' : Nat), k < k' ∧ k' ≤ s.size ∧ Rdr w' b n s k' ∧ w.grownBy w' (some b) ∧
      ((∃ acc : Tx.Bs, e = .returned (strV acc) ∧ acc.length ≤ k' ∧ Tx.tq (s.data.toList.drop (k + 1)) = some (acc, s.data.toList.drop k')) ∨
       (e = .panicked [{ v := faultV n 1, recovered := false }] ∧ Tx.tq (s.data.toList.drop (k + 1)) = none)) := by
  have HR := hid h
  obtain ⟨r0, r1, r2, r3, r4⟩ := h
  go_enter Tryd.func41, Tryd.ntmps41
  go_wp2_with fail
  refine (take_q b (k + 1) n s _ (rdr_set HR.out) (by omega) hs).mono ?_
  rintro e w1 ⟨k', acc, k1, k2, ka, hR1, hG1, hO⟩
  have hG2 : w.grownBy w1 (some b) := grown_trans (grown_set (grown_refl w (some b)) 2 _) hG1
  have HR1 := hid hR1
  clear r1 r2 r3 r4
  obtain ⟨q0, q1, q2, q3, q4⟩ := hR1
  rcases hO with ⟨rfl, hT, hgo, _⟩ | ⟨rfl, hT⟩
  · by_cases hlt : k' < s.size
    · have c34 : s[k'] = 34 := by
        have := hgo hlt
        simp [goesQ] at this
        exact UInt8.toNat_inj.1 (by have h2 : (s[k'].toNat : Int) = 34 := this; show s[k'].toNat = 34; omega)
      have T2 : Hid (Tx.tq (s.data.toList.drop (k + 1)) = some (acc, s.data.toList.drop (k' + 1))) := by show _ = _; rw [hT, drop_cons s k' hlt, c34, Tx.tq_end]; simp
      clear hT hgo c34
      go_wp2_with fail
      refine wp_region_quiet_lit (by kernel_rfl) (by kernel_rfl) ?_
      repeat (go_big_quiet_step ((go_at_call 22; exact Calls.quiet_of_same (require_yes _ _ _))))
      refine wpQuiet_nil ?_
      intro wq hw'
      have HRq : Hid (Rdr wq b n s k') := by obtain ⟨nq, rfl⟩ := hw'; exact rdr_drewN HR1.out _
      have hGq : w.grownBy wq (some b) := by obtain ⟨nq, rfl⟩ := hw'; exact grown_drewN hG2 _
      clear hw' q0 q1 q2 q3 q4 hG1
      obtain ⟨q0, q1, q2, q3, q4⟩ := HRq.out
      go_wp2
      go_ret
      exact ⟨k' + 1, by omega, by omega, rdr_set HRq.out, grown_set hGq _ _, .inl ⟨acc, rfl, by omega, T2.out⟩⟩
    · have T2 : Hid (Tx.tq (s.data.toList.drop (k + 1)) = none) := by show _ = _; rw [hT, drop_end s k' (by omega)]; rfl
      have hlt' : ¬ ((k' : Int) < (s.size : Int)) := by omega
      clear hT hgo
      go_wp2_with fail
      go_region_with (go_at_call 22; refine (require_no _ _ _).mono ?_; rintro e w3 ⟨rfl, rfl⟩; refine left_over ⟨rfl, k', by omega, by omega, rdr_drewN HR1.out 1, grown_drewN hG2 1, .inr ⟨rfl, T2.out⟩⟩ Tryd.prog ⟨#[], []⟩ w ?_)
      all_goals trivial
  · exact ⟨rfl, k', by omega, k2, HR1.out, hG2, .inr ⟨rfl, hT⟩⟩
end Go.Proofs.YtgnopbmcnadmdabDoor
