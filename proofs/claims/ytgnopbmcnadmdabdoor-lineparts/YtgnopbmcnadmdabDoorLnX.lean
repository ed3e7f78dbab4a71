/- The contract of joinField (strings.ContainsAny's contract at a short text of text bytes is a premise, CAny, to be paid by the library's). -/
import Derived.Test.YtgnopbmcnadmdabDoorLnB
namespace Go.Proofs.YtgnopbmcnadmdabDoor.Tx
def jok (c : UInt8) : Bool := txt c && !(((c.toNat : Int)) == 34)
def jfErr (f : Bs) : Int := if f.all jok = false then 1 else if 24 < f.length then 2 else 0
def marks (f : Bs) : Bool := f.any (fun c => gap c || c == 35)
def jfText (f : Bs) : Bs := if f = [] ∨ marks f = true then 34 :: (f ++ [34]) else f
end Go.Proofs.YtgnopbmcnadmdabDoor.Tx
namespace Go.Proofs.YtgnopbmcnadmdabDoor
open Go.RowKit
set_option linter.unusedVariables false
set_option linter.unusedSimpArgs false

def CAny : Prop := ∀ (s : ByteArray) (w : World), s.size ≤ 24 → s.data.toList.all Tx.jok = true →
  Calls Tryd.prog 46 #[.string s, .string ⟨#[32, 9, 35]⟩] w fun e w' => e = .returned (.bool (Tx.marks s.data.toList)) ∧ Below w.heap.size w w'

theorem all_false {s : ByteArray} {i : Nat} (h : i < s.size) (hb : Tx.jok s[i] = false) : s.data.toList.all Tx.jok = false := by
  rw [List.all_eq_false]
  exact ⟨s[i], by rw [ByteArray.getElem_eq_getElem_data]; simp, by simp [hb]⟩
theorem all_true {s : ByteArray} (h : ∀ j (hj : j < s.size), Tx.jok s[j] = true) : s.data.toList.all Tx.jok = true := by
  rw [List.all_eq_true]
  intro c hc
  obtain ⟨j, hj, rfl⟩ := List.getElem_of_mem hc
  have := h j (by simpa using hj)
  rw [ByteArray.getElem_eq_getElem_data] at this
  simpa using this

theorem str_quote (s : ByteArray) : Value.string ((⟨#[34]⟩ : ByteArray) ++ s ++ ⟨#[34]⟩) = strV (34 :: (s.data.toList ++ [34])) := by
  unfold strV
  congr 1

set_option maxRecDepth 100000 in
set_option maxHeartbeats 1000000 in
theorem joinField_any (CA : Hid CAny) (n : Int) (s : ByteArray) (w : World) (hx : (s.size : Int) ≤ 9223372036854775807) :
    Calls Tryd.prog 37 #[.int .i64 n, .string s] w fun e w' => Below w.heap.size w w' ∧
      ((Tx.jfErr s.data.toList = 0 ∧ e = .returned (strV (Tx.jfText s.data.toList))) ∨
       (Tx.jfErr s.data.toList ≠ 0 ∧ e = .panicked [{ v := faultV n (Tx.jfErr s.data.toList), recovered := false }])) := by
  go_enter Tryd.func37, Tryd.ntmps37
  go_wp2_with fail
  go_loop [8] (fun a => ∃ i : Nat, i ≤ s.size ∧ a = .int .i64 i ∧ Hid (∀ j (hj : j < s.size), j < i → Tx.jok s[j] = true)) (fun a => s.size - (intOf a).toNat)
  case atStart => exact ⟨0, Nat.zero_le _, rfl, fun j _ h => absurd h (by omega)⟩
  case round =>
    obtain ⟨i, hi, rfl, HJ⟩ := hrel
    by_cases hlt : i < s.size
    · obtain ⟨c, hc⟩ : ∃ c, s[i] = c := ⟨_, rfl⟩
      cases ht : Tx.txt c
      · have HT := hid ht
        clear ht
        have E1 : Hid (Tx.jfErr s.data.toList = 1) := by
          show _ = _
          rw [Tx.jfErr, if_pos (all_false hlt (by rw [hc, Tx.jok, HT.out]; rfl))]
        go_wp2_with (first | (go_at_call 45; refine (isText_is _ _ HT.out).mono ?_; rintro e w1 ⟨rfl, rfl⟩) | (go_at_call 22; refine (require_no _ _ _).mono ?_; rintro e w1 ⟨rfl, rfl⟩))
        exact ⟨rfl, Below.refl _ _, .inr ⟨by rw [E1.out]; decide, by rw [E1.out]⟩⟩
      · have HT := hid ht
        clear ht
        cases hq : ((c.toNat : Int) == 34)
        · have hq' : ((c.toNat : Int) != 34) = true := by simp [bne, hq]
          have HOK : Hid (Tx.jok s[i] = true) := by show _ = _; rw [hc, Tx.jok, HT.out, hq]; rfl
          clear hq
          go_wp2_with (first | (go_at_call 45; refine (isText_is _ _ HT.out).mono ?_; rintro e w1 ⟨rfl, rfl⟩) | (go_at_call 22; refine (require_yes _ _ _).mono ?_; rintro e w1 ⟨rfl, rfl⟩))
          refine ⟨⟨i + 1, hlt, by simp, fun j hj h => ?_⟩, ?_⟩
          · by_cases e : j < i
            · exact HJ.out j hj e
            · obtain rfl : j = i := by omega
              exact HOK.out
          · simp [intOf]; omega
        · have hq' : ((c.toNat : Int) != 34) = false := by simp [bne, hq]
          have E1 : Hid (Tx.jfErr s.data.toList = 1) := by
            show _ = _
            rw [Tx.jfErr, if_pos (all_false hlt (by rw [hc, Tx.jok, HT.out, hq]; rfl))]
          clear hq
          go_wp2_with (first | (go_at_call 45; refine (isText_is _ _ HT.out).mono ?_; rintro e w1 ⟨rfl, rfl⟩) | (go_at_call 22; refine (require_no _ _ _).mono ?_; rintro e w1 ⟨rfl, rfl⟩))
          exact ⟨rfl, Below.refl _ _, .inr ⟨by rw [E1.out]; decide, by rw [E1.out]⟩⟩
    · have AL : Hid (s.data.toList.all Tx.jok = true) := all_true fun j hj => HJ.out j hj (by omega)
      have hlt' : i = s.size := by omega
      subst hlt'
      by_cases h24 : s.size ≤ 24
      · have E0 : Hid (Tx.jfErr s.data.toList = 0) := by
          show _ = _
          rw [Tx.jfErr, if_neg (by simp [AL.out]), if_neg (by simpa using h24)]
        have h24' : (s.size : Int) ≤ 24 := by omega
        by_cases hz : s.size = 0
        · have hne : s.toList.isEmpty = true := by
            rw [ByteArray.toList_eq, List.isEmpty_iff]
            exact List.length_eq_zero_iff.1 (by simpa using hz)
          have HZ := hid hz
          have H24 := hid h24
          clear hz h24 hlt hi HJ
          go_wp2_with (go_at_call 22; refine (require_yes _ _ _).mono ?_; rintro e w1 ⟨rfl, rfl⟩)
          go_ret
          refine ⟨Below.refl _ _, .inl ⟨E0.out, ?_⟩⟩
          rw [Tx.jfText, if_pos (.inl (List.length_eq_zero_iff.1 (by simpa using HZ.out)))]
          exact congrArg _ (str_quote s)
        · have hne : s.toList.isEmpty = false := by
            rw [ByteArray.toList_eq, List.isEmpty_eq_false_iff]; intro q
            exact hz (by simpa using congrArg List.length q)
          have HZ := hid hz
          have H24 := hid h24
          clear hz h24 hlt hi HJ
          cases hm : Tx.marks s.data.toList
          · have HM := hid hm
            clear hm
            go_wp2_with (first | (go_at_call 22; refine (require_yes _ _ _).mono ?_; rintro e w1 ⟨rfl, rfl⟩) | (go_at_call 46; refine (CA.out s _ H24.out AL.out).mono ?_; rintro e w2 ⟨rfl, hb2⟩; rw [HM.out]))
            go_ret
            refine ⟨hb2, .inl ⟨E0.out, ?_⟩⟩
            rw [Tx.jfText, if_neg (by rintro (q | q); · exact HZ.out (by simpa using congrArg List.length q)
                                      · rw [HM.out] at q; cases q)]
            rfl
          · have HM := hid hm
            clear hm
            go_wp2_with (first | (go_at_call 22; refine (require_yes _ _ _).mono ?_; rintro e w1 ⟨rfl, rfl⟩) | (go_at_call 46; refine (CA.out s _ H24.out AL.out).mono ?_; rintro e w2 ⟨rfl, hb2⟩; rw [HM.out]))
            go_ret
            refine ⟨hb2, .inl ⟨E0.out, ?_⟩⟩
            rw [Tx.jfText, if_pos (.inr HM.out)]
            exact congrArg _ (str_quote s)
      · have h24' : ¬ ((s.size : Int) ≤ 24) := by omega
        have E2 : Hid (Tx.jfErr s.data.toList = 2) := by
          show _ = _
          rw [Tx.jfErr, if_neg (by simp [AL.out]), if_pos (by simpa using (by omega : 24 < s.size))]
        go_wp2_with (go_at_call 22; refine (require_no _ _ _).mono ?_; rintro e w1 ⟨rfl, rfl⟩)
        exact ⟨rfl, Below.refl _ _, .inr ⟨by rw [E2.out]; decide, by rw [E2.out]⟩⟩
end Go.Proofs.YtgnopbmcnadmdabDoor
