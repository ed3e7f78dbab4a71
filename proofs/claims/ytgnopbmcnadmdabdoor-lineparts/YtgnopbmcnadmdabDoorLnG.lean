/- The contract of the reader's field. -/
import Derived.Test.YtgnopbmcnadmdabDoorLnF
namespace Go.Proofs.YtgnopbmcnadmdabDoor
open Go.RowKit
set_option linter.unusedVariables false
set_option linter.unusedSimpArgs false

def FieldPost (b k : Nat) (n : Int) (s : ByteArray) (w : World) (e : Ending) (w' : World) : Prop :=
  w.grownBy w' (some b) ∧
    ((∃ (k' : Nat) (acc : Tx.Bs), k < k' ∧ k' ≤ s.size ∧ Rdr w' b n s k' ∧ e = .returned (strV acc) ∧ acc.length ≤ 24 ∧ Tx.field (s.data.toList.drop k) = some (acc, s.data.toList.drop k')) ∨
     (∃ er : Int, e = .panicked [{ v := faultV n er, recovered := false }] ∧ ((er = 1 ∧ Tx.field (s.data.toList.drop k) = none) ∨ (er = 2 ∧ ∃ acc t, Tx.field (s.data.toList.drop k) = some (acc, t) ∧ 24 < acc.length))))

theorem ends_if (s : ByteArray) (k : Nat) (hk : k ≤ s.size) : Tx.ends (s.data.toList.drop k) = if h : k < s.size then (Tx.gap s[k] || s[k] == 35) else true := by
  by_cases h : k < s.size
  · rw [dif_pos h, drop_cons s k h]; rfl
  · rw [dif_neg h, drop_end s k (by omega)]; rfl

set_option maxRecDepth 100000 in
set_option maxHeartbeats 4000000 in
theorem field_u (b k : Nat) (n : Int) (s : ByteArray) (w : World) (h : Rdr w b n s k) (hk : k < s.size) (hs : s.size ≤ 8000) (hg : Tx.gap s[k] = false) (h35 : s[k] ≠ 35) (h34 : s[k] ≠ 34) :
    Calls Tryd.prog 34 #[.pointer (some ⟨b, 0, none⟩)] w fun e w' => FieldPost b k n s w e w' := by
  have HR := hid h
  obtain ⟨r0, r1, r2, r3, r4⟩ := h
  have FU : Hid (Tx.field (s.data.toList.drop k) = Tx.tu (s.data.toList.drop k)) := by show _ = _; rw [drop_cons s k hk]; exact Tx.field_u _ _ h34
  obtain ⟨c, hc⟩ : ∃ c, s[k] = c := ⟨_, rfl⟩
  have GU : Hid (goesU s[k] = true) := by
    show _ = _
    simp [goesU, hg]
    refine ⟨?_, ?_⟩
    · intro q; exact h35 (UInt8.toNat_inj.1 (by show s[k].toNat = 35; omega))
    · intro q; exact h34 (UInt8.toNat_inj.1 (by show s[k].toNat = 34; omega))
  rw [hc] at hg h35 h34
  have e34 : ((c.toNat : Int) == 34) = false := by have := u8_eq c 34; simp at this; simp [this, h34]
  clear h35 h34 hg
  go_enter Tryd.func34, Tryd.ntmps34
  go_wp2_with fail
  refine wp_region_quiet_lit (by kernel_rfl) (by kernel_rfl) ?_
  repeat (go_big_quiet_step (fail))
  refine wpQuiet_nil ?_
  intro wq hw'
  have HRq : Hid (Rdr wq b n s k) := by obtain ⟨nq, rfl⟩ := hw'; exact rdr_drewN HR.out _
  have hGq : w.grownBy wq (some b) := by obtain ⟨nq, rfl⟩ := hw'; exact grown_drewN (grown_refl w (some b)) _
  clear hw' r0 r1 r2 r3 r4 HR
  go_wp2_with fail
  refine (take_u b k n s _ HRq.out (by omega) hs).mono ?_
  rintro e w1 ⟨k', acc, k1, k2, ka, hR1, hG0, hO⟩
  have hG1 : w.grownBy w1 (some b) := grown_trans hGq hG0
  have HR1 := hid hR1
  obtain ⟨q0, q1, q2, q3, q4⟩ := hR1
  clear hGq hG0 HRq
  rcases hO with ⟨rfl, hT, hgo, h00⟩ | ⟨rfl, hT⟩
  · have kk : k < k' := by
      rcases Nat.lt_or_ge k k' with q | q
      · exact q
      · have e : k = k' := by omega
        subst e
        have := hgo hk
        rw [GU.out] at this; cases this
    clear GU e34 hc
    by_cases hend : Tx.ends (s.data.toList.drop k') = true
    · have FF : Hid (Tx.field (s.data.toList.drop k) = some (acc, s.data.toList.drop k')) := by
        show _ = _
        rw [FU.out, hT]
        by_cases q : k' < s.size
        · rw [drop_cons s k' q] at hend ⊢
          simp [Tx.ends] at hend
          rw [Tx.tu_end _ _ (by simpa using hend)]; simp
        · rw [drop_end s k' (by omega)]; simp [Tx.tu]
      rw [ends_if s k' k2] at hend
      by_cases hlt : k' < s.size
      · rw [dif_pos hlt] at hend
        obtain ⟨d, hd⟩ : ∃ d, s[k'] = d := ⟨_, rfl⟩
        by_cases d35 : d = 35
        · have AE : Hid ((if h : k' < s.size then decide (s[k'] = 35) else true) = true) := by show _ = _; rw [dif_pos hlt, hd, d35]; rfl
          have IG : Hid (Tx.gap d = Tx.gap d) := rfl
          clear hT hgo h00 hend
          go_wp2_with fail
          refine wp_region_quiet_lit (by kernel_rfl) (by kernel_rfl) ?_
          repeat (go_big_quiet_step ((first | (go_at_call 33; exact Calls.quiet_of (atEnd_any b k' n s _ (rdr_drewN HR1.out _) k2 hs AE.out)) | (go_at_call 31; exact Calls.quiet_of_same (isGap_is _ _ IG.out)) | (go_at_call 22; exact Calls.quiet_of_same (require_yes _ _ _)))))
          refine wpQuiet_nil ?_
          intro wq hw'
          have HRq : Hid (Rdr wq b n s k') := by obtain ⟨nq, rfl⟩ := hw'; exact rdr_drewN HR1.out _
          have hGq : w.grownBy wq (some b) := by obtain ⟨nq, rfl⟩ := hw'; exact grown_drewN hG1 _
          clear hw' q0 q1 q2 q3 q4
          obtain ⟨q0, q1, q2, q3, q4⟩ := HRq.out
          by_cases hl : acc.length ≤ 24
          · have hl1 : ((acc.length : Int) ≤ 24) := by omega
            go_wp2_with fail
            refine (require_yes _ _ _).mono ?_
            rintro e w3 ⟨rfl, rfl⟩
            go_wp2
            go_ret
            exact ⟨hGq, .inl ⟨k', acc, kk, k2, HRq.out, rfl, hl, FF.out⟩⟩
          · have hl1 : ¬ ((acc.length : Int) ≤ 24) := by omega
            go_wp2_with fail
            refine (require_no _ _ _).mono ?_
            rintro e w3 ⟨rfl, rfl⟩
            exact ⟨rfl, hGq, .inr ⟨2, rfl, .inr ⟨rfl, acc, _, FF.out, by omega⟩⟩⟩

        · have AE : Hid ((if h : k' < s.size then decide (s[k'] = 35) else true) = false) := by show _ = _; rw [dif_pos hlt, hd]; simp [d35]
          have IG : Hid (Tx.gap d = true) := by show _ = _; rw [hd] at hend; simpa [d35] using hend
          clear hT hgo h00 hend
          go_wp2_with fail
          refine wp_region_quiet_lit (by kernel_rfl) (by kernel_rfl) ?_
          repeat (go_big_quiet_step ((first | (go_at_call 33; exact Calls.quiet_of (atEnd_any b k' n s _ (rdr_drewN HR1.out _) k2 hs AE.out)) | (go_at_call 31; exact Calls.quiet_of_same (isGap_is _ _ IG.out)) | (go_at_call 22; exact Calls.quiet_of_same (require_yes _ _ _)))))
          refine wpQuiet_nil ?_
          intro wq hw'
          have HRq : Hid (Rdr wq b n s k') := by obtain ⟨nq, rfl⟩ := hw'; exact rdr_drewN HR1.out _
          have hGq : w.grownBy wq (some b) := by obtain ⟨nq, rfl⟩ := hw'; exact grown_drewN hG1 _
          clear hw' q0 q1 q2 q3 q4
          obtain ⟨q0, q1, q2, q3, q4⟩ := HRq.out
          by_cases hl : acc.length ≤ 24
          · have hl1 : ((acc.length : Int) ≤ 24) := by omega
            go_wp2_with fail
            refine (require_yes _ _ _).mono ?_
            rintro e w3 ⟨rfl, rfl⟩
            go_wp2
            go_ret
            exact ⟨hGq, .inl ⟨k', acc, kk, k2, HRq.out, rfl, hl, FF.out⟩⟩
          · have hl1 : ¬ ((acc.length : Int) ≤ 24) := by omega
            go_wp2_with fail
            refine (require_no _ _ _).mono ?_
            rintro e w3 ⟨rfl, rfl⟩
            exact ⟨rfl, hGq, .inr ⟨2, rfl, .inr ⟨rfl, acc, _, FF.out, by omega⟩⟩⟩

      · have AE : Hid ((if h : k' < s.size then decide (s[k'] = 35) else true) = true) := by show _ = _; rw [dif_neg hlt]
        have IG : Hid (Tx.gap 0 = Tx.gap 0) := rfl
        clear hT hgo h00 hend
        go_wp2_with fail
        refine wp_region_quiet_lit (by kernel_rfl) (by kernel_rfl) ?_
        repeat (go_big_quiet_step ((first | (go_at_call 33; exact Calls.quiet_of (atEnd_any b k' n s _ (rdr_drewN HR1.out _) k2 hs AE.out)) | (go_at_call 31; exact Calls.quiet_of_same (isGap_is _ _ IG.out)) | (go_at_call 22; exact Calls.quiet_of_same (require_yes _ _ _)))))
        refine wpQuiet_nil ?_
        intro wq hw'
        have HRq : Hid (Rdr wq b n s k') := by obtain ⟨nq, rfl⟩ := hw'; exact rdr_drewN HR1.out _
        have hGq : w.grownBy wq (some b) := by obtain ⟨nq, rfl⟩ := hw'; exact grown_drewN hG1 _
        clear hw' q0 q1 q2 q3 q4
        obtain ⟨q0, q1, q2, q3, q4⟩ := HRq.out
        by_cases hl : acc.length ≤ 24
        · have hl1 : ((acc.length : Int) ≤ 24) := by omega
          go_wp2_with fail
          refine (require_yes _ _ _).mono ?_
          rintro e w3 ⟨rfl, rfl⟩
          go_wp2
          go_ret
          exact ⟨hGq, .inl ⟨k', acc, kk, k2, HRq.out, rfl, hl, FF.out⟩⟩
        · have hl1 : ¬ ((acc.length : Int) ≤ 24) := by omega
          go_wp2_with fail
          refine (require_no _ _ _).mono ?_
          rintro e w3 ⟨rfl, rfl⟩
          exact ⟨rfl, hGq, .inr ⟨2, rfl, .inr ⟨rfl, acc, _, FF.out, by omega⟩⟩⟩

    · have hlt : k' < s.size := by
        rcases Nat.lt_or_ge k' s.size with q | q
        · exact q
        · rw [drop_end s k' (by omega)] at hend; exact absurd rfl hend
      have FN : Hid (Tx.field (s.data.toList.drop k) = none) := by
        show _ = _
        rw [FU.out, hT]
        rw [drop_cons s k' hlt] at hend ⊢
        simp [Tx.ends] at hend
        have g := hgo hlt
        rw [Tx.tu_bad _ _ hend.1 hend.2 (.inr (by
          simp [goesU, hend.1] at g
          refine UInt8.toNat_inj.1 ?_
          show s[k'].toNat = 34
          have := g (fun q => hend.2 (UInt8.toNat_inj.1 (by show s[k'].toNat = 35; omega)))
          omega))]
        rfl
      obtain ⟨d, hd⟩ : ∃ d, s[k'] = d := ⟨_, rfl⟩
      rw [drop_cons s k' hlt, hd] at hend
      simp [Tx.ends] at hend
      have AE : Hid ((if h : k' < s.size then decide (s[k'] = 35) else true) = false) := by show _ = _; rw [dif_pos hlt, hd]; simp [hend.2]
      have IG : Hid (Tx.gap d = false) := hend.1
      clear hT hgo h00 hend
      go_wp2_with fail
      go_region_with (first | (go_at_call 33; refine (atEnd_any b k' n s _ (rdr_drewN HR1.out 1) k2 hs AE.out).mono ?_; rintro e w3 ⟨rfl, qq, rfl⟩) | (go_at_call 31; refine (isGap_is _ _ IG.out).mono ?_; rintro e w3 ⟨rfl, rfl⟩) | (go_at_call 22; refine (require_no _ _ _).mono ?_; rintro e w3 ⟨rfl, rfl⟩; refine left_over ⟨rfl, grown_drewN hG1 _, .inr ⟨1, rfl, .inl ⟨rfl, FN.out⟩⟩⟩ Tryd.prog ⟨#[], []⟩ w ?_))
      all_goals trivial
  · exact ⟨rfl, hG1, .inr ⟨1, rfl, .inl ⟨rfl, by rw [FU.out]; exact hT⟩⟩⟩
end Go.Proofs.YtgnopbmcnadmdabDoor
