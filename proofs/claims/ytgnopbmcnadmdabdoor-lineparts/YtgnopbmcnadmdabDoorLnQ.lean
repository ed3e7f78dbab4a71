/- The contract of the reader's take, between quotes. -/
import Derived.Test.YtgnopbmcnadmdabDoorLnC
namespace Go.Proofs.YtgnopbmcnadmdabDoor
open Go.RowKit
set_option linter.unusedVariables false
set_option linter.unusedSimpArgs false

set_option maxRecDepth 100000 in
set_option maxHeartbeats 4000000 in
theorem take_q (b k : Nat) (n : Int) (s : ByteArray) (w : World) (h : Rdr w b n s k) (hk : k ≤ s.size) (hs : s.size ≤ 8000) :
    Calls Tryd.prog 42 #[.pointer (some ⟨b, 0, none⟩), .func (.func 51) #[] #[]] w fun e w' => ∃ (k' : Nat) (acc : Tx.Bs), k ≤ k' ∧ k' ≤ s.size ∧ acc.length ≤ k' ∧ Rdr w' b n s k' ∧ w.grownBy w' (some b) ∧
      ((e = .returned (strV acc) ∧ Tx.tq (s.data.toList.drop k) = (Tx.tq (s.data.toList.drop k')).map (fun p => (acc ++ p.1, p.2)) ∧ (∀ h : k' < s.size, goesQ s[k'] = false) ∧ (k = k' → acc = [])) ∨
       (e = .panicked [{ v := faultV n 1, recovered := false }] ∧ Tx.tq (s.data.toList.drop k) = none)) := by
  obtain ⟨i0, hi, hz0, hz1, hz2⟩ := info_parts Tryd.infoByte
  go_enter Tryd.func42, Tryd.ntmps42
  go_wp2_with fail
  go_loopg [5] (s.size - k) (fun g v wr => ∃ (j : Nat) (acc : Tx.Bs), k ≤ j ∧ j ≤ s.size ∧ g = s.size - j ∧ acc.length ≤ j ∧ wr.ownsRow w.heap.size 5 1 v acc.length (bytV acc) ∧ Hid (Tx.tq (s.data.toList.drop k) = (Tx.tq (s.data.toList.drop j)).map (fun p => (acc ++ p.1, p.2)) ∧ (k = j → acc = [])) ∧ Rdr wr b n s j ∧ w.grownBy wr (some b))
  case atStart => exact ⟨k, [], by omega, hk, rfl, by simp, World.ownsRow_nil _ _ _ _, ⟨by cases Tx.tq (s.data.toList.drop k) <;> rfl, fun _ => rfl⟩, h, grown_refl _ _⟩
  case round =>
    obtain ⟨j, acc, j1, j2, hg, ja, hown, TU, hR, hG⟩ := hrel
    have Hg := hid hg
    have HR := hid hR
    obtain ⟨r0, r1, r2, r3, r4⟩ := hR
    obtain ⟨va, vcap, rfl⟩ := owns_shape0 hown
    have hbl := h.lt
    clear hg h
    by_cases hj : j < s.size
    · obtain ⟨c, hc⟩ : ∃ c, s[j] = c := ⟨_, rfl⟩
      have DC : Hid (s.data.toList.drop j = c :: s.data.toList.drop (j + 1)) := by show _ = _; rw [drop_cons s j hj, hc]
      cases hgo : goesQ c
      · have HG := hid hgo
        clear hgo
        go_wp2_with fail
        refine wp_region_quiet_lit (by kernel_rfl) (by kernel_rfl) ?_
        repeat (go_big_quiet_step ((go_at_call 51; exact Calls.quiet_of_same (quoted1_is _ _ HG.out))))
        refine wpQuiet_nil ?_
        intro wq hw'
        have HRq : Hid (Rdr wq b n s j) := by obtain ⟨nq, rfl⟩ := hw'; exact rdr_drewN HR.out _
        have hGq : w.grownBy wq (some b) := by obtain ⟨nq, rfl⟩ := hw'; exact grown_drewN hG _
        have hownq : wq.ownsRow w.heap.size 5 1 (.slice va acc.length vcap) acc.length (bytV acc) := by obtain ⟨nq, rfl⟩ := hw'; exact hown
        clear hw' r0 r1 r2 r3 r4 HR hG hown
        have HR := HRq
        have hG := hGq
        have hown := hownq
        clear HRq hGq hownq
        obtain ⟨r0, r1, r2, r3, r4⟩ := HR.out
        have hcv := conv_own0 hown
        go_wp2
        go_ret
        exact ⟨j, acc, j1, j2, ja, HR.out, hG, .inl ⟨rfl, TU.out.1, fun hh => by rw [hc]; exact HG.out, TU.out.2⟩⟩
      · have HG := hid hgo
        have GG := hid hgo
        clear hgo
        cases htx : Tx.txt c
        · have HT := hid htx
          clear htx
          have NN : Hid (Tx.tq (s.data.toList.drop k) = none) := by show _ = _; rw [TU.out.1, DC.out, Tx.tq_bad _ _ (goesQ_iff GG.out) HT.out]; rfl
          go_wp2_with fail
          refine wp_region_quiet_lit (by kernel_rfl) (by kernel_rfl) ?_
          repeat (go_big_quiet_step ((go_at_call 51; exact Calls.quiet_of_same (quoted1_is _ _ HG.out))))
          refine wpQuiet_nil ?_
          intro wq hw'
          have HRq : Hid (Rdr wq b n s j) := by obtain ⟨nq, rfl⟩ := hw'; exact rdr_drewN HR.out _
          have hGq : w.grownBy wq (some b) := by obtain ⟨nq, rfl⟩ := hw'; exact grown_drewN hG _
          have hownq : wq.ownsRow w.heap.size 5 1 (.slice va acc.length vcap) acc.length (bytV acc) := by obtain ⟨nq, rfl⟩ := hw'; exact hown
          clear hw' r0 r1 r2 r3 r4 HR hG hown
          have HR := HRq
          have hG := hGq
          have hown := hownq
          clear HRq hGq hownq
          obtain ⟨r0, r1, r2, r3, r4⟩ := HR.out
          go_wp2_with fail
          go_region_with (first | (go_at_call 45; refine (isText_is _ _ HT.out).mono ?_; rintro e w1 ⟨rfl, rfl⟩) | (go_at_call 22; refine (require_no _ _ _).mono ?_; rintro e w1 ⟨rfl, rfl⟩; refine left_over ⟨rfl, j, acc, j1, j2, ja, rdr_drewN HR.out 1, grown_drewN hG 1, .inr ⟨rfl, NN.out⟩⟩ Tryd.prog ⟨#[], []⟩ w ?_))
          all_goals trivial
        · have HT := hid htx
          clear htx
          have GO : Hid (Tx.tq (s.data.toList.drop k) = (Tx.tq (s.data.toList.drop (j + 1))).map (fun p => ((acc ++ [c]) ++ p.1, p.2))) := by show _ = _; rw [TU.out.1, DC.out, Tx.tq_go _ _ (goesQ_iff GG.out) HT.out]; cases Tx.tq (s.data.toList.drop (j + 1)) <;> simp
          go_wp2_with fail
          refine wp_region_quiet_lit (by kernel_rfl) (by kernel_rfl) ?_
          repeat (go_big_quiet_step ((go_at_call 51; exact Calls.quiet_of_same (quoted1_is _ _ HG.out))))
          refine wpQuiet_nil ?_
          intro wq hw'
          have HRq : Hid (Rdr wq b n s j) := by obtain ⟨nq, rfl⟩ := hw'; exact rdr_drewN HR.out _
          have hGq : w.grownBy wq (some b) := by obtain ⟨nq, rfl⟩ := hw'; exact grown_drewN hG _
          have hownq : wq.ownsRow w.heap.size 5 1 (.slice va acc.length vcap) acc.length (bytV acc) := by obtain ⟨nq, rfl⟩ := hw'; exact hown
          clear hw' r0 r1 r2 r3 r4 HR hG hown
          have HR := HRq
          have hG := hGq
          have hown := hownq
          clear HRq hGq hownq
          obtain ⟨r0, r1, r2, r3, r4⟩ := HR.out
          go_wp2_with fail
          refine wp_region_quiet_lit (by kernel_rfl) (by kernel_rfl) ?_
          repeat (go_big_quiet_step ((first | (go_at_call 45; exact Calls.quiet_of_same (isText_is _ _ HT.out)) | (go_at_call 22; exact Calls.quiet_of_same (require_yes _ _ _)))))
          refine wpQuiet_nil ?_
          intro wq hw'
          have HRq : Hid (Rdr wq b n s j) := by obtain ⟨nq, rfl⟩ := hw'; exact rdr_drewN HR.out _
          have hGq : w.grownBy wq (some b) := by obtain ⟨nq, rfl⟩ := hw'; exact grown_drewN hG _
          have hownq : wq.ownsRow w.heap.size 5 1 (.slice va acc.length vcap) acc.length (bytV acc) := by obtain ⟨nq, rfl⟩ := hw'; exact hown
          clear hw' r0 r1 r2 r3 r4 HR hG hown
          have HR := HRq
          have hG := hGq
          have hown := hownq
          clear HRq hGq hownq
          obtain ⟨r0, r1, r2, r3, r4⟩ := HR.out
          go_wp2_with fail
          go_region_law (refine step_append_own rfl (.tmp 44) (.tmp 54) 51 rfl w.heap.size 5 i0 (.int .u8 0) 1 1 Tryd.underlying51 hi hz0 hz1 hz2 rfl (by decide) _ _ _ (by simp [Act.eval, Act.put]) (hown.alloc _) _ 1 1 [.int .u8 (c.toNat : Int)] (by simp [Act.eval, Act.put]) rfl (one_cell _ _) (by simp [Value.oneCell']) (by unfold maxLen; omega) (by omega) (by simp; have := hG.size; omega) ?_; intro v' w3 hown' hgrow)
          all_goals
            have hgrow2 : (wq.alloc (.cells #[.int .u8 (c.toNat : Int)] 5)).grownBy w3 (Value.ownBlock (.slice va acc.length vcap)) := ⟨hgrow.os, hgrow.tape, hgrow.output, hgrow.size, hgrow.block⟩
            have HR3 : Hid (Rdr w3 b n s j) := rdr_grown (rdr_alloc HR.out _) hgrow2 (own_ne hbl hown)
            have hG3 : w.grownBy w3 (some b) := grown_own (grown_alloc hG _) (hown.alloc _) hgrow2
            have hown3 : w3.ownsRow w.heap.size 5 1 v' (acc ++ [c]).length (bytV (acc ++ [c])) := by simpa using hown'
            clear hgrow hgrow2 hown' r0 r1 r2 r3 r4 HR hG hown
            obtain ⟨r0, r1, r2, r3, r4⟩ := HR3.out
            go_wp2
            go_roundg (s.size - (j + 1))
            case measure => have := Hg.out; omega
            case rel => exact ⟨j + 1, acc ++ [c], by omega, by omega, rfl, by simp; omega, owns_set hown3 (own_ne hbl hown3), ⟨GO.out, fun q => by omega⟩, rdr_set HR3.out, grown_set hG3 _ _⟩
    · 
      go_wp2_with fail
      refine wp_region_quiet_lit (by kernel_rfl) (by kernel_rfl) ?_
      repeat (go_big_quiet_step ((fail)))
      refine wpQuiet_nil ?_
      intro wq hw'
      have HRq : Hid (Rdr wq b n s j) := by obtain ⟨nq, rfl⟩ := hw'; exact rdr_drewN HR.out _
      have hGq : w.grownBy wq (some b) := by obtain ⟨nq, rfl⟩ := hw'; exact grown_drewN hG _
      have hownq : wq.ownsRow w.heap.size 5 1 (.slice va acc.length vcap) acc.length (bytV acc) := by obtain ⟨nq, rfl⟩ := hw'; exact hown
      clear hw' r0 r1 r2 r3 r4 HR hG hown
      have HR := HRq
      have hG := hGq
      have hown := hownq
      clear HRq hGq hownq
      obtain ⟨r0, r1, r2, r3, r4⟩ := HR.out
      have hcv := conv_own0 hown
      go_wp2
      go_ret
      exact ⟨j, acc, j1, j2, ja, HR.out, hG, .inl ⟨rfl, TU.out.1, fun hh => absurd hh hj, TU.out.2⟩⟩

end Go.Proofs.YtgnopbmcnadmdabDoor
