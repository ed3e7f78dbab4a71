/- The contract of the reader's repeat. -/
import Derived.Test.YtombhnjmelidcaaWdE
import Derived.Test.YtombhnjmelidcaaWrE
namespace Go.Proofs.Ytombhnjmelidcaa
open Go.RowKit Go.Shelf
set_option linter.unusedVariables false
set_option linter.unusedSimpArgs false

set_option maxRecDepth 100000 in
set_option maxHeartbeats 2000000 in
theorem repeat_short (r : Nat) (fv : Value) (s : Tx.Bs) (w : World) (h : Rr w r s) (hk : ¬ 2 ≤ s.length) :
    Calls Try.prog 45 #[.pointer (some ⟨r, 0, none⟩), fv] w fun e w' => e = gaveUp ∧ w' = w := by
  have C0 := hid (rnumber_no r 2 s w h hk)
  clear h
  go_enter Try.func45, Try.ntmps45
  go_wp2_with fail
  refine C0.out.mono ?_
  rintro e w1 ⟨rfl, rfl⟩
  exact ⟨rfl, rfl, rfl⟩
set_option maxRecDepth 100000 in
set_option maxHeartbeats 2000000 in
theorem repeat_of (r K : Nat) (caps : Array Value) (s s1 : Tx.Bs) (n : Nat) (w : World) (h : Rr w r s) (hs : s.length ≤ maxLen) (hp : Wr.pNum 2 s = some (n, s1)) (eg : ∀ args w, (callFunc K args).run Try.prog w = .ok (.enter K args) w)
    (I : Nat → World → Prop) (Bad : World → Prop) (h0 : ∀ W, w.grownBy W (some r) → Rr W r s1 → I 0 W)
    (step : ∀ i, i < n → ∀ W, I i W → Calls Try.prog K caps W fun e w' => (e = .returned (.tuple #[]) ∧ I (i + 1) w') ∨ (e = gaveUp ∧ Bad w')) :
    Calls Try.prog 45 #[.pointer (some ⟨r, 0, none⟩), .func (.func K) #[] caps] w fun e w' => (e = .returned (.tuple #[]) ∧ I n w') ∨ (e = gaveUp ∧ Bad w') := by
  have hn : n < 65536 := (Wr.pNum_len hp).2
  have hl : 2 ≤ s.length := by
    by_cases q : 2 ≤ s.length
    · exact q
    · rw [Wr.pNum_none q] at hp; cases hp
  rw [Wr.pNum_some hl] at hp
  simp at hp
  have C0 := hid (rnumber_yes r 2 s w h hl (by omega) hs)
  rw [hp.1, hp.2] at C0
  have ST := hid step
  have H0 := hid h0
  clear h hl hs hp step h0
  go_enter Try.func45, Try.ntmps45
  go_wp2_with fail
  refine C0.out.mono ?_
  rintro e w1 ⟨rfl, R1, G1⟩
  have I0 := hid (H0.out w1 G1 R1)
  clear R1 G1 C0 H0
  go_wp2_with fail
  go_loopw [6] (fun b wr => ∃ i : Nat, i ≤ n ∧ b = .int .i64 i ∧ Hid (I i wr)) (fun b _ => n - (intOf b).toNat)
  case atStart => exact ⟨0, by omega, rfl, I0⟩
  case round =>
    clear I0
    obtain ⟨i, hi, rfl, HI⟩ := hrel
    by_cases q : i < n
    · have C1 := hid (ST.out i q wr HI.out)
      go_wp2_with fail
      refine C1.out.mono ?_
      rintro e w2 (⟨rfl, h2⟩ | ⟨rfl, h2⟩)
      · have H2 := hid h2
        clear h2 C1
        go_wp2
        go_roundw
        case rel => exact ⟨i + 1, by omega, by go_num, H2⟩
        case measure => simp [intOf]; omega
      · exact ⟨rfl, .inr ⟨rfl, h2⟩⟩
    · obtain rfl : i = n := by omega
      go_wp2
      go_end0
      exact .inl ⟨rfl, HI.out⟩
end Go.Proofs.Ytombhnjmelidcaa
