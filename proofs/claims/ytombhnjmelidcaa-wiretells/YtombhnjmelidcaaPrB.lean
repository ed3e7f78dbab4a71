/- Contracts of the program's names of times, and of table's checkLocal and checkChange. -/
import Derived.Test.YtombhnjmelidcaaPrA
namespace Go.Proofs.Ytombhnjmelidcaa
open Go.RowKit
set_option linter.unusedVariables false
set_option linter.unusedSimpArgs false

set_option maxRecDepth 100000 in
set_option maxHeartbeats 1000000 in
theorem isAllPlain_any (s : ByteArray) (w : World) (hs : s.size ≤ maxLen) :
    Calls Try.prog 70 #[.string s, .func (.func 71) #[] #[]] w fun e w' => e = .returned (.bool (decide (s.size ≤ 24) && Sx.plainB s.data.toList)) ∧ w' = w := by
  have HS := hid (spanPlain_any s w hs)
  clear hs
  obtain ⟨b, hb⟩ : ∃ b, Sx.plainB s.data.toList = b := ⟨_, rfl⟩
  rw [hb] at HS ⊢
  clear hb
  by_cases h : s.size ≤ 24
  · go_enter Try.func70, Try.ntmps70
    go_wp2_with (go_at_call 75; refine HS.out.mono ?_; rintro e w1 ⟨⟨n, rfl, hn⟩, rfl⟩)
    go_ret
    exact ⟨ret_bool (by simp [h]), rfl⟩
  · go_enter Try.func70, Try.ntmps70
    go_wp2_with fail
    go_ret
    exact ⟨ret_bool (by simp [h]), rfl⟩
theorem isAllPlain_is (s : ByteArray) (w : World) (hs : s.size ≤ maxLen) {b : Bool} (h : (decide (s.size ≤ 24) && Sx.plainB s.data.toList) = b) :
    Calls Try.prog 70 #[.string s, .func (.func 71) #[] #[]] w fun e w' => e = .returned (.bool b) ∧ w' = w := by subst h; exact isAllPlain_any s w hs
theorem pPlain_is (s : ByteArray) (w : World) (hs : s.size ≤ maxLen) {b : Bool} (h : (decide (s.size ≤ 24) && Sx.plainB s.data.toList) = b) :
    Calls Try.prog 68 #[.string s] w fun e w' => e = .returned (.bool b) ∧ w' = w := by
  have HS := hid (isAllPlain_is s w hs h)
  clear h hs
  go_enter Try.func68, Try.ntmps68
  go_wp2_with (go_at_call 70; refine HS.out.mono ?_; rintro e w1 ⟨rfl, rfl⟩)
  go_ret
  exact ⟨rfl, rfl⟩
def nameB (l : Tx.Bs) : Bool := !l.isEmpty && decide (l.length ≤ 24) && Sx.plainB l
set_option maxHeartbeats 1000000 in
theorem nameOfTime_is (l : Tx.Bs) (w : World) (hs : l.length ≤ maxLen) {b : Bool} (h : nameB l = b) :
    Calls Try.prog 59 #[strV l] w fun e w' => e = .returned (.bool b) ∧ w' = w := by
  have hn : (⟨l.toArray⟩ : ByteArray).size ≤ maxLen := by simpa [ByteArray.size] using hs
  have HS : Hid (∀ r, (decide (l.length ≤ 24) && Sx.plainB l) = r → Calls Try.prog 68 #[strV l] w fun e w' => e = .returned (.bool r) ∧ w' = w) := fun r hr => pPlain_is ⟨l.toArray⟩ w hn (by simpa [ByteArray.size] using hr)
  clear hn hs
  cases h1 : l.isEmpty
  case true =>
    have HB : Hid (b = false) := by show _ = _; rw [← h, nameB, h1]; rfl
    clear h
    go_enter Try.func59, Try.ntmps59
    go_wp2_with fail
    go_ret
    exact ⟨ret_bool (by rw [HB.out]), rfl⟩
  case false =>
    have HB : Hid ((decide (l.length ≤ 24) && Sx.plainB l) = b) := by show _ = _; rw [← h, nameB, h1]; simp
    clear h
    have HC := hid (HS.out b HB.out)
    clear HS HB
    go_enter Try.func59, Try.ntmps59
    go_wp2_with (go_at_call 68; refine HC.out.mono ?_; rintro e w1 ⟨rfl, rfl⟩)
    go_ret
    exact ⟨ret_bool rfl, rfl⟩
theorem localE_eq (l : Tb.Lc) : Tb.localE l = if (Sx.inB l.shift (-75600) 75600 && Sx.inB l.save 0 10800) = false then 3 else if nameB l.name = false then 1 else 0 := rfl
set_option maxRecDepth 100000 in
set_option maxHeartbeats 2000000 in
theorem pCheckLocal_any (l : Tb.Lc) (w : World) (hl : l.name.length ≤ maxLen) :
    Calls Try.prog 39 #[lcV l] w fun e w' => e = .returned (.int .i64 (Tb.localE l)) ∧ Below w.heap.size w w' := by
  obtain ⟨shift, save, name⟩ := l
  obtain ⟨E, hE⟩ : ∃ E, Tb.localE ⟨shift, save, name⟩ = E := ⟨_, rfl⟩
  rw [hE]
  have HE : Hid (E = if (Sx.inB shift (-75600) 75600 && Sx.inB save 0 10800) = false then 3 else if nameB name = false then 1 else 0) := by show _ = _; rw [← hE]; rfl
  have hb : Below w.heap.size w (w.alloc (.cells #[.int .i64 shift, .int .i64 save, strV name] 23)) := (Below.refl _ _).alloc (Nat.le_refl _) _
  have HB := hid hb
  have HL := hid hl
  clear hE hb hl
  have h5 : shift < -75600 ∨ (-75600 ≤ shift ∧ 75600 < shift) ∨ (-75600 ≤ shift ∧ shift ≤ 75600 ∧ save < 0) ∨ (-75600 ≤ shift ∧ shift ≤ 75600 ∧ 0 ≤ save ∧ 10800 < save) ∨ (-75600 ≤ shift ∧ shift ≤ 75600 ∧ 0 ≤ save ∧ save ≤ 10800) := by omega
  have HX : Hid ((¬ ((-75600 : Int) ≤ shift ∧ shift ≤ 75600 ∧ 0 ≤ save ∧ save ≤ 10800)) → E = 3) := by
    intro q
    rw [HE.out, if_pos]
    by_cases q1 : (-75600 : Int) ≤ shift ∧ shift ≤ 75600
    · have q2 : ¬ (0 ≤ save ∧ save ≤ 10800) := by omega
      simp [Sx.inB, q2]
    · simp [Sx.inB, q1]
  rcases h5 with h1 | ⟨h1, h2⟩ | ⟨h1, h2, h3⟩ | ⟨h1, h2, h3, h4⟩ | ⟨h1, h2, h3, h4⟩
  case inr.inr.inr.inr =>
    obtain ⟨b, h5⟩ : ∃ b, nameB name = b := ⟨_, rfl⟩
    have HY : Hid (E = if b = false then 1 else 0) := by show _ = _; rw [HE.out, if_neg (by simp [Sx.inB, h1, h2, h3, h4]), h5]
    have H5 := hid h5
    clear HE HX h5
    cases b
    all_goals
      go_enter Try.func39, Try.ntmps39
      go_wp2_with (go_at_call 59; refine (nameOfTime_is _ _ HL.out H5.out).mono ?_; rintro e w1 ⟨rfl, rfl⟩)
      go_ret
      exact ⟨ret_int (by rw [HY.out]; rfl), HB.out⟩
  all_goals
    have H3 : Hid (E = 3) := HX.out (by omega)
    clear HE HX
    go_enter Try.func39, Try.ntmps39
    go_wp2_with fail
    go_ret
    exact ⟨ret_int (by rw [H3.out]), HB.out⟩
set_option maxHeartbeats 400000 in
theorem pInYears_is (n : Int) (w : World) {b : Bool} (h : Tb.inYears n = b) :
    Calls Try.prog 60 #[.int .i64 n] w fun e w' => e = .returned (.bool b) ∧ w' = w := by
  have H : Hid (b = decide ((-62135596800 : Int) ≤ n ∧ n ≤ 253402300799)) := h.symm
  clear h
  have h5 : n < -62135596800 ∨ (-62135596800 ≤ n ∧ n ≤ 253402300799) ∨ (-62135596800 ≤ n ∧ 253402300799 < n) := by omega
  rcases h5 with h1 | ⟨h1, h2⟩ | ⟨h1, h2⟩
  all_goals
    go_enter Try.func60, Try.ntmps60
    go_wp2
    go_ret
    exact ⟨ret_bool (by rw [H.out, Bool.eq_iff_iff]; simp only [Bool.or_eq_true, Bool.and_eq_true, decide_eq_true_eq, Bool.false_eq_true, iff_false, false_iff, iff_true, true_iff]; omega), rfl⟩
end Go.Proofs.Ytombhnjmelidcaa
