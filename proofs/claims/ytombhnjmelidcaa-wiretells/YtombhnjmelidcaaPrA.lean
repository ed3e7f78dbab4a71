/- Contracts of the program's signs, and of table's checkLocal and checkChange. -/
import Derived.Test.YtombhnjmelidcaaTbA
import Derived.Shelf.Abstract
namespace Go.Proofs.Ytombhnjmelidcaa
open Go.RowKit
set_option linter.unusedVariables false
set_option linter.unusedSimpArgs false

set_option maxHeartbeats 800000 in
theorem pLetter_any (c : UInt8) (w : World) :
    Calls Try.prog 72 #[.int .u8 (c.toNat : Int)] w fun e w' => e = .returned (.bool (Sx.letB c)) ∧ w' = w := by
  have hh : Hid (Sx.letB c = (decide ((97 : Int) ≤ (c.toNat : Int) ∧ (c.toNat : Int) ≤ 122) || decide ((65 : Int) ≤ (c.toNat : Int) ∧ (c.toNat : Int) ≤ 90))) := let_eq c
  have hb : (c.toNat : Int) < 256 := by have := c.toNat_lt; omega
  have hb0 : 0 ≤ (c.toNat : Int) := by omega
  generalize (c.toNat : Int) = n at *
  have h5 : n < 65 ∨ (65 ≤ n ∧ n ≤ 90 ∧ n < 97) ∨ (65 ≤ n ∧ 90 < n ∧ n < 97) ∨ (97 ≤ n ∧ n ≤ 122 ∧ 90 < n) ∨ (122 < n) := by omega
  rcases h5 with h1 | ⟨h1, h2, h3⟩ | ⟨h1, h2, h3⟩ | ⟨h1, h2, h3⟩ | h1
  all_goals
    go_enter Try.func72, Try.ntmps72
    go_wp2
    go_ret
    exact ⟨ret_bool (by rw [hh.out, Bool.eq_iff_iff]; simp only [Bool.or_eq_true, Bool.and_eq_true, decide_eq_true_eq, Bool.false_eq_true, iff_false, false_iff, iff_true, true_iff]; omega), rfl⟩
theorem pLetter_is (c : UInt8) (w : World) {b : Bool} (h : Sx.letB c = b) :
    Calls Try.prog 72 #[.int .u8 (c.toNat : Int)] w fun e w' => e = .returned (.bool b) ∧ w' = w := by subst h; exact pLetter_any c w
set_option maxHeartbeats 800000 in
theorem pDigit_any (c : UInt8) (w : World) :
    Calls Try.prog 73 #[.int .u8 (c.toNat : Int)] w fun e w' => e = .returned (.bool (Sx.digB c)) ∧ w' = w := by
  have hh : Hid (Sx.digB c = decide ((48 : Int) ≤ (c.toNat : Int) ∧ (c.toNat : Int) ≤ 57)) := dig_eq c
  have hb : (c.toNat : Int) < 256 := by have := c.toNat_lt; omega
  have hb0 : 0 ≤ (c.toNat : Int) := by omega
  generalize (c.toNat : Int) = n at *
  have h5 : n < 48 ∨ (48 ≤ n ∧ n ≤ 57) ∨ (48 ≤ n ∧ 57 < n) := by omega
  rcases h5 with h1 | ⟨h1, h2⟩ | ⟨h1, h2⟩
  all_goals
    go_enter Try.func73, Try.ntmps73
    go_wp2
    go_ret
    exact ⟨ret_bool (by rw [hh.out]; simp; omega), rfl⟩
theorem pDigit_is (c : UInt8) (w : World) {b : Bool} (h : Sx.digB c = b) :
    Calls Try.prog 73 #[.int .u8 (c.toNat : Int)] w fun e w' => e = .returned (.bool b) ∧ w' = w := by subst h; exact pDigit_any c w

set_option maxRecDepth 100000 in
set_option maxHeartbeats 1000000 in
theorem plain1_any (c : UInt8) (w : World) :
    Calls Try.prog 71 #[.int .u8 (c.toNat : Int)] w fun e w' => e = .returned (.bool (Sx.plainC c)) ∧ w' = w := by
  have HN : Hid (Sx.plainC c = (Sx.letB c || Sx.digB c || c == 43 || c == 45)) := rfl
  cases h1 : Sx.letB c
  case true =>
    have H1 := hid h1
    clear h1
    go_enter Try.func71, Try.ntmps71
    go_wp2_with (go_at_call 72; refine (pLetter_is _ _ H1.out).mono ?_; rintro e w1 ⟨rfl, rfl⟩)
    go_ret
    exact ⟨ret_bool (by rw [HN.out, H1.out]; rfl), rfl⟩
  case false =>
    have H1 := hid h1
    clear h1
    cases h2 : Sx.digB c
    case true =>
      have H2 := hid h2
      clear h2
      go_enter Try.func71, Try.ntmps71
      go_wp2_with (first | (go_at_call 72; refine (pLetter_is _ _ H1.out).mono ?_; rintro e w1 ⟨rfl, rfl⟩) | (go_at_call 73; refine (pDigit_is _ _ H2.out).mono ?_; rintro e w1 ⟨rfl, rfl⟩))
      go_ret
      exact ⟨ret_bool (by rw [HN.out, H1.out, H2.out]; rfl), rfl⟩
    case false =>
      have H2 := hid h2
      clear h2
      cases h3 : (c == 43)
      case true =>
        have e3 : ((c.toNat : Int) == 43) = true := (u8_eq c 43).trans h3
        have H3 := hid h3
        clear h3
        go_enter Try.func71, Try.ntmps71
        go_wp2_with (first | (go_at_call 72; refine (pLetter_is _ _ H1.out).mono ?_; rintro e w1 ⟨rfl, rfl⟩) | (go_at_call 73; refine (pDigit_is _ _ H2.out).mono ?_; rintro e w1 ⟨rfl, rfl⟩))
        go_ret
        exact ⟨ret_bool (by rw [HN.out, H1.out, H2.out, H3.out]; rfl), rfl⟩
      case false =>
        have e3 : ((c.toNat : Int) == 43) = false := (u8_eq c 43).trans h3
        have H3 := hid h3
        clear h3
        cases h4 : (c == 45)
        all_goals
          have e4 := (u8_eq c 45).trans h4
          change ((c.toNat : Int) == 45) = _ at e4
          have H4 := hid h4
          clear h4
          go_enter Try.func71, Try.ntmps71
          go_wp2_with (first | (go_at_call 72; refine (pLetter_is _ _ H1.out).mono ?_; rintro e w1 ⟨rfl, rfl⟩) | (go_at_call 73; refine (pDigit_is _ _ H2.out).mono ?_; rintro e w1 ⟨rfl, rfl⟩))
          go_ret
          exact ⟨ret_bool (by rw [HN.out, H1.out, H2.out, H3.out, H4.out]; rfl), rfl⟩
theorem plain1_is (c : UInt8) (w : World) {b : Bool} (h : Sx.plainC c = b) :
    Calls Try.prog 71 #[.int .u8 (c.toNat : Int)] w fun e w' => e = .returned (.bool b) ∧ w' = w := by subst h; exact plain1_any c w

set_option maxRecDepth 100000 in
set_option maxHeartbeats 1000000 in
theorem spanPlain_any (s : ByteArray) (w : World) (hs : s.size ≤ maxLen) :
    Calls Try.prog 75 #[.string s, .func (.func 71) #[] #[]] w fun e w' => (∃ n : Int, e = .returned (.int .i64 n) ∧ (n == (s.size : Int)) = Sx.plainB s.data.toList) ∧ w' = w := by
  unfold maxLen at hs
  have HG : Hid (Sx.plainB s.data.toList = s.data.toList.all Sx.plainC) := rfl
  have eg : ∀ args w, (callFunc 71 args).run Try.prog w = .ok (.enter 71 args) w := enters_of Try.func71 (by kernel_rfl) rfl
  go_enter Try.func75, Try.ntmps75
  go_wp2_with fail
  go_loop [8] (fun a => ∃ k : Nat, k ≤ s.size ∧ a = .int .i64 k ∧ Hid ((s.data.toList.take k).all Sx.plainC = true)) (fun a => s.size - (intOf a).toNat)
  case atStart => exact ⟨0, by omega, rfl, by show _ = _; simp⟩
  case round =>
    obtain ⟨k, hk, rfl, HA⟩ := hrel
    by_cases hlt : k < s.size
    · obtain ⟨c, hc⟩ : ∃ c, s[k] = c := ⟨_, rfl⟩
      have HC := hid hc
      cases h1 : Sx.plainC c
      case true =>
        have H1 := hid h1
        clear h1
        go_wp2_with (go_at_call 71; refine (plain1_is _ _ H1.out).mono ?_; rintro e w1 ⟨rfl, rfl⟩)
        go_round
        case rel => exact ⟨k + 1, by omega, by go_num, all_snoc s _ k hlt HA.out (by rw [HC.out, H1.out])⟩
        case measure => simp [intOf]; omega
      case false =>
        have H1 := hid h1
        clear h1
        go_wp2_with (go_at_call 71; refine (plain1_is _ _ H1.out).mono ?_; rintro e w1 ⟨rfl, rfl⟩)
        go_ret
        exact ⟨⟨_, rfl, by rw [HG.out, all_no s _ k hlt (by rw [HC.out, H1.out])]; simp; omega⟩, rfl⟩
    · go_wp2
      go_ret
      exact ⟨⟨_, rfl, by rw [HG.out, all_end s _ k (by omega) HA.out]; simp⟩, rfl⟩
end Go.Proofs.Ytombhnjmelidcaa
