/- The contract of the document's IsPlain, of any text. -/
import Derived.Test.YtombhnjmelidcaaSxC
namespace Go.Proofs.Ytombhnjmelidcaa
open Go.RowKit
set_option linter.unusedVariables false
set_option linter.unusedSimpArgs false

set_option maxRecDepth 100000 in
set_option maxHeartbeats 1000000 in
theorem rPlain_any (s : ByteArray) (w : World) (hs : s.size ≤ maxLen) :
    Calls Try.prog 52 #[.string s] w fun e w' => e = .returned (.bool (Sx.plainB s.data.toList)) ∧ w' = w := by
  unfold maxLen at hs
  have HG : Hid (Sx.plainB s.data.toList = s.data.toList.all Sx.plainC) := rfl
  go_enter Try.func52, Try.ntmps52
  go_wp2_with fail
  go_loop [3] (fun a => ∃ k : Nat, k ≤ s.size ∧ a = .int .i64 k ∧ Hid ((s.data.toList.take k).all Sx.plainC = true)) (fun a => s.size - (intOf a).toNat)
  case atStart => exact ⟨0, by omega, rfl, by show _ = _; simp⟩
  case round =>
    obtain ⟨k, hk, rfl, HA⟩ := hrel
    by_cases hlt : k < s.size
    · obtain ⟨c, hc⟩ : ∃ c, s[k] = c := ⟨_, rfl⟩
      have HN : Hid (Sx.plainC c = (Sx.letB c || Sx.digB c || c == 43 || c == 45)) := rfl
      have HC := hid hc
      cases h1 : Sx.letB c
      case true =>
        have H1 := hid h1
        clear h1
        go_wp2_with (go_at_call 65; refine (rLetter_is _ _ H1.out).mono ?_; rintro e w1 ⟨rfl, rfl⟩)
        go_round
        case rel => exact ⟨k + 1, by omega, by go_num, all_snoc s _ k hlt HA.out (by rw [HC.out, HN.out, H1.out]; rfl)⟩
        case measure => simp [intOf]; omega
      case false =>
        have H1 := hid h1
        clear h1
        cases h2 : Sx.digB c
        case true =>
          have H2 := hid h2
          clear h2
          go_wp2_with (first | (go_at_call 65; refine (rLetter_is _ _ H1.out).mono ?_; rintro e w1 ⟨rfl, rfl⟩) | (go_at_call 66; refine (rDigit_is _ _ H2.out).mono ?_; rintro e w1 ⟨rfl, rfl⟩))
          go_round
          case rel => exact ⟨k + 1, by omega, by go_num, all_snoc s _ k hlt HA.out (by rw [HC.out, HN.out, H1.out, H2.out]; rfl)⟩
          case measure => simp [intOf]; omega
        case false =>
          have H2 := hid h2
          clear h2
          cases h3 : (c == 43)
          case true =>
            have e3 : ((c.toNat : Int) != 43) = false := ne_u8 h3
            have H3 := hid h3
            clear h3
            go_wp2_with (first | (go_at_call 65; refine (rLetter_is _ _ H1.out).mono ?_; rintro e w1 ⟨rfl, rfl⟩) | (go_at_call 66; refine (rDigit_is _ _ H2.out).mono ?_; rintro e w1 ⟨rfl, rfl⟩))
            go_round
            case rel => exact ⟨k + 1, by omega, by go_num, all_snoc s _ k hlt HA.out (by rw [HC.out, HN.out, H1.out, H2.out, H3.out]; rfl)⟩
            case measure => simp [intOf]; omega
          case false =>
            have e3 : ((c.toNat : Int) != 43) = true := ne_u8 h3
            have H3 := hid h3
            clear h3
            cases h4 : (c == 45)
            case true =>
              have e4 : ((c.toNat : Int) != 45) = false := ne_u8 h4
              have H4 := hid h4
              clear h4
              go_wp2_with (first | (go_at_call 65; refine (rLetter_is _ _ H1.out).mono ?_; rintro e w1 ⟨rfl, rfl⟩) | (go_at_call 66; refine (rDigit_is _ _ H2.out).mono ?_; rintro e w1 ⟨rfl, rfl⟩))
              go_round
              case rel => exact ⟨k + 1, by omega, by go_num, all_snoc s _ k hlt HA.out (by rw [HC.out, HN.out, H1.out, H2.out, H3.out, H4.out]; rfl)⟩
              case measure => simp [intOf]; omega
            case false =>
              have e4 : ((c.toNat : Int) != 45) = true := ne_u8 h4
              have H4 := hid h4
              clear h4
              go_wp2_with (first | (go_at_call 65; refine (rLetter_is _ _ H1.out).mono ?_; rintro e w1 ⟨rfl, rfl⟩) | (go_at_call 66; refine (rDigit_is _ _ H2.out).mono ?_; rintro e w1 ⟨rfl, rfl⟩))
              go_ret
              exact ⟨ret_bool (by rw [HG.out, all_no s _ k hlt (by rw [HC.out, HN.out, H1.out, H2.out, H3.out, H4.out]; rfl)]), rfl⟩
    · go_wp2
      go_ret
      exact ⟨ret_bool (by rw [HG.out, all_end s _ k (by omega) HA.out]), rfl⟩
theorem rPlain_is (s : ByteArray) (w : World) (hs : s.size ≤ maxLen) {b : Bool} (h : Sx.plainB s.data.toList = b) :
    Calls Try.prog 52 #[.string s] w fun e w' => e = .returned (.bool b) ∧ w' = w := by subst h; exact rPlain_any s w hs
end Go.Proofs.Ytombhnjmelidcaa
