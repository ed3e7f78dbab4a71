/- The contract of the reader's field, at a quote; and at whatever begins a field. -/
import Derived.Test.YtgnopbmcnadmdabDoorLnG
namespace Go.Proofs.YtgnopbmcnadmdabDoor
open Go.RowKit
set_option linter.unusedVariables false
set_option linter.unusedSimpArgs false

set_option maxRecDepth 100000 in
set_option maxHeartbeats 4000000 in
theorem field_q (b k : Nat) (n : Int) (s : ByteArray) (w : World) (h : Rdr w b n s k) (hk : k < s.size) (hs : s.size ≤ 8000) (h34 : s[k] = 34) :
    Calls Tryd.prog 34 #[.pointer (some ⟨b, 0, none⟩)] w fun e w' => FieldPost b k n s w e w' := by
  have HR := hid h
  obtain ⟨r0, r1, r2, r3, r4⟩ := h
  have F0 : Hid (Tx.field (s.data.toList.drop k) = match Tx.tq (s.data.toList.drop (k + 1)) with | none => none | some p => if Tx.ends p.2 = true then some p else none) := by show _ = _; rw [drop_cons s k hk, h34]; exact Tx.field_q _
  obtain ⟨c, hc⟩ : ∃ c, s[k] = c := ⟨_, rfl⟩
  rw [hc] at h34
  have e34 : ((c.toNat : Int) == 34) = true := by rw [h34]; rfl
  clear h34
  go_enter Tryd.func34, Tryd.ntmps34
  go_wp2_with fail
  refine wp_region_quiet_lit (by kernel_rfl) (by kernel_rfl) ?_
  repeat (go_big_quiet_step (fail))
  refine wpQuiet_nil ?_
  intro wq hw'
  have HRq : Hid (Rdr wq b n s k) := by obtain ⟨nq, rfl⟩ := hw'; exact rdr_drewN HR.out _
  have hGq : w.grownBy wq (some b) := by obtain ⟨nq, rfl⟩ := hw'; exact grown_drewN (grown_refl w (some b)) _
  clear hw' r0 r1 r2 r3 r4 HR
  go_wp2_with fail
  refine (quoted_any b k n s _ HRq.out hk hs).mono ?_
  rintro e w1 ⟨k', kk, k2, hR1, hG0, hO⟩
  have hG1 : w.grownBy w1 (some b) := grown_trans hGq hG0
  have HR1 := hid hR1
  obtain ⟨q0, q1, q2, q3, q4⟩ := hR1
  clear hGq hG0 HRq e34 hc
  rcases hO with ⟨acc, rfl, ka, hT⟩ | ⟨rfl, hT⟩
  · have FQ : Hid (Tx.field (s.data.toList.drop k) = if Tx.ends (s.data.toList.drop k') = true then some (acc, s.data.toList.drop k') else none) := by show _ = _; rw [F0.out, hT]
    clear hT F0
    by_cases hend : Tx.ends (s.data.toList.drop k') = true
    · have FF : Hid (Tx.field (s.data.toList.drop k) = some (acc, s.data.toList.drop k')) := by
        show _ = _
        rw [FQ.out, if_pos hend]
      rw [ends_if s k' k2] at hend
      by_cases hlt : k' < s.size
      · rw [dif_pos hlt] at hend
        obtain ⟨d, hd⟩ : ∃ d, s[k'] = d := ⟨_, rfl⟩
        by_cases d35 : d = 35
        · have AE : Hid ((if h : k' < s.size then decide (s[k'] = 35) else true) = true) := by show _ = _; rw [dif_pos hlt, hd, d35]; rfl
          have IG : Hid (Tx.gap d = Tx.gap d) := rfl
          clear hend
          go_wp2_with fail
          refine wp_region_quiet_lit (by kernel_rfl) (by kernel_rfl) ?_
          repeat (go_big_quiet_step ((first | (go_at_call 33; exact Calls.quiet_of (atEnd_any b k' n s _ (rdr_drewN HR1.out _) k2 hs AE.out)) | (go_at_call 31; exact Calls.quiet_of_same (isGap_is _ _ IG.out)) | (go_at_call 22; exact Calls.quiet_of_same (require_yes _ _ _)))))
          refine wpQuiet_nil ?_
          intro wq hw'
          have HRq : Hid (Rdr wq b n s k') := by obtain ⟨nq, rfl⟩ := hw'; exact rdr_drewN HR1.out _
          have hGq : w.grownBy wq (some b) := by obtain ⟨nq, rfl⟩ := hw'; exact grown_drewN hG1 _
          clear hw' q0 q1 q2 q3 q4
          obtain ⟨q0, q1, q2, q3, q4⟩ := HRq.out
          by_cases hl : acc.length ≤ 24
          · have hl1 : ((acc.length : Int) ≤ 24) := by omega
            go_wp2_with fail
            refine (require_yes _ _ _).mono ?_
            rintro e w3 ⟨rfl, rfl⟩
            go_wp2
            go_ret
            exact ⟨hGq, .inl ⟨k', acc, kk, k2, HRq.out, rfl, hl, FF.out⟩⟩
          · have hl1 : ¬ ((acc.length : Int) ≤ 24) := by omega
            go_wp2_with fail
            refine (require_no _ _ _).mono ?_
            rintro e w3 ⟨rfl, rfl⟩
            exact ⟨rfl, hGq, .inr ⟨2, rfl, .inr ⟨rfl, acc, _, FF.out, by omega⟩⟩⟩

        · have AE : Hid ((if h : k' < s.size then decide (s[k'] = 35) else true) = false) := by show _ = _; rw [dif_pos hlt, hd]; simp [d35]
          have IG : Hid (Tx.gap d = true) := by show _ = _; rw [hd] at hend; simpa [d35] using hend
          clear hend
          go_wp2_with fail
          refine wp_region_quiet_lit (by kernel_rfl) (by kernel_rfl) ?_
          repeat (go_big_quiet_step ((first | (go_at_call 33; exact Calls.quiet_of (atEnd_any b k' n s _ (rdr_drewN HR1.out _) k2 hs AE.out)) | (go_at_call 31; exact Calls.quiet_of_same (isGap_is _ _ IG.out)) | (go_at_call 22; exact Calls.quiet_of_same (require_yes _ _ _)))))
          refine wpQuiet_nil ?_
          intro wq hw'
          have HRq : Hid (Rdr wq b n s k') := by obtain ⟨nq, rfl⟩ := hw'; exact rdr_drewN HR1.out _
          have hGq : w.grownBy wq (some b) := by obtain ⟨nq, rfl⟩ := hw'; exact grown_drewN hG1 _
          clear hw' q0 q1 q2 q3 q4
          obtain ⟨q0, q1, q2, q3, q4⟩ := HRq.out
          by_cases hl : acc.length ≤ 24
          · have hl1 : ((acc.length : Int) ≤ 24) := by omega
            go_wp2_with fail
            refine (require_yes _ _ _).mono ?_
            rintro e w3 ⟨rfl, rfl⟩
            go_wp2
            go_ret
            exact ⟨hGq, .inl ⟨k', acc, kk, k2, HRq.out, rfl, hl, FF.out⟩⟩
          · have hl1 : ¬ ((acc.length : Int) ≤ 24) := by omega
            go_wp2_with fail
            refine (require_no _ _ _).mono ?_
            rintro e w3 ⟨rfl, rfl⟩
            exact ⟨rfl, hGq, .inr ⟨2, rfl, .inr ⟨rfl, acc, _, FF.out, by omega⟩⟩⟩

      · have AE : Hid ((if h : k' < s.size then decide (s[k'] = 35) else true) = true) := by show _ = _; rw [dif_neg hlt]
        have IG : Hid (Tx.gap 0 = Tx.gap 0) := rfl
        clear hend
        go_wp2_with fail
        refine wp_region_quiet_lit (by kernel_rfl) (by kernel_rfl) ?_
        repeat (go_big_quiet_step ((first | (go_at_call 33; exact Calls.quiet_of (atEnd_any b k' n s _ (rdr_drewN HR1.out _) k2 hs AE.out)) | (go_at_call 31; exact Calls.quiet_of_same (isGap_is _ _ IG.out)) | (go_at_call 22; exact Calls.quiet_of_same (require_yes _ _ _)))))
        refine wpQuiet_nil ?_
        intro wq hw'
        have HRq : Hid (Rdr wq b n s k') := by obtain ⟨nq, rfl⟩ := hw'; exact rdr_drewN HR1.out _
        have hGq : w.grownBy wq (some b) := by obtain ⟨nq, rfl⟩ := hw'; exact grown_drewN hG1 _
        clear hw' q0 q1 q2 q3 q4
        obtain ⟨q0, q1, q2, q3, q4⟩ := HRq.out
        by_cases hl : acc.length ≤ 24
        · have hl1 : ((acc.length : Int) ≤ 24) := by omega
          go_wp2_with fail
          refine (require_yes _ _ _).mono ?_
          rintro e w3 ⟨rfl, rfl⟩
          go_wp2
          go_ret
          exact ⟨hGq, .inl ⟨k', acc, kk, k2, HRq.out, rfl, hl, FF.out⟩⟩
        · have hl1 : ¬ ((acc.length : Int) ≤ 24) := by omega
          go_wp2_with fail
          refine (require_no _ _ _).mono ?_
          rintro e w3 ⟨rfl, rfl⟩
          exact ⟨rfl, hGq, .inr ⟨2, rfl, .inr ⟨rfl, acc, _, FF.out, by omega⟩⟩⟩

    · have hlt : k' < s.size := by
        rcases Nat.lt_or_ge k' s.size with q | q
        · exact q
        · rw [drop_end s k' (by omega)] at hend; exact absurd rfl hend
      have FN : Hid (Tx.field (s.data.toList.drop k) = none) := by show _ = _; rw [FQ.out, if_neg hend]
      obtain ⟨d, hd⟩ : ∃ d, s[k'] = d := ⟨_, rfl⟩
      rw [drop_cons s k' hlt, hd] at hend
      simp [Tx.ends] at hend
      have AE : Hid ((if h : k' < s.size then decide (s[k'] = 35) else true) = false) := by show _ = _; rw [dif_pos hlt, hd]; simp [hend.2]
      have IG : Hid (Tx.gap d = false) := hend.1
      clear hend
      go_wp2_with fail
      go_region_with (first | (go_at_call 33; refine (atEnd_any b k' n s _ (rdr_drewN HR1.out 1) k2 hs AE.out).mono ?_; rintro e w3 ⟨rfl, qq, rfl⟩) | (go_at_call 31; refine (isGap_is _ _ IG.out).mono ?_; rintro e w3 ⟨rfl, rfl⟩) | (go_at_call 22; refine (require_no _ _ _).mono ?_; rintro e w3 ⟨rfl, rfl⟩; refine left_over ⟨rfl, grown_drewN hG1 _, .inr ⟨1, rfl, .inl ⟨rfl, FN.out⟩⟩⟩ Tryd.prog ⟨#[], []⟩ w ?_))
      all_goals trivial
  · exact ⟨rfl, hG1, .inr ⟨1, rfl, .inl ⟨rfl, by rw [F0.out, hT]⟩⟩⟩
theorem field_any (b k : Nat) (n : Int) (s : ByteArray) (w : World) (h : Rdr w b n s k) (hk : k < s.size) (hs : s.size ≤ 8000) (hg : Tx.gap s[k] = false) (h35 : s[k] ≠ 35) :
    Calls Tryd.prog 34 #[.pointer (some ⟨b, 0, none⟩)] w fun e w' => FieldPost b k n s w e w' := by
  by_cases h34 : s[k] = 34
  · exact field_q b k n s w h hk hs h34
  · exact field_u b k n s w h hk hs hg h35 h34
end Go.Proofs.YtgnopbmcnadmdabDoor
