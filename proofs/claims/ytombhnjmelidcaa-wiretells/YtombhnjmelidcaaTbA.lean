/- Contracts of the document's LeastAt, MostAt, checkLocal. -/
import Derived.Test.YtombhnjmelidcaaTbM
import Derived.Test.YtombhnjmelidcaaTbP
import Derived.Test.YtombhnjmelidcaaRefY
namespace Go.Proofs.Ytombhnjmelidcaa
open Go.RowKit
set_option linter.unusedVariables false
set_option linter.unusedSimpArgs false

set_option maxHeartbeats 400000 in
theorem least_any (w : World) : Calls Try.prog 32 #[] w fun e w' => e = .returned (.int .i64 (-62135596800)) ∧ Below w.heap.size w w' := by
  go_enter Try.func32, Try.ntmps32
  go_wp2_with fail
  refine (first_any _).mono ?_
  rintro e w1 ⟨rfl, hb⟩
  go_wp2
  go_ret
  exact ⟨rfl, hb⟩
set_option maxHeartbeats 400000 in
theorem most_any (w : World) : Calls Try.prog 33 #[] w fun e w' => e = .returned (.int .i64 253402300799) ∧ Below w.heap.size w w' := by
  go_enter Try.func33, Try.ntmps33
  go_wp2_with fail
  refine (last_any _).mono ?_
  rintro e w1 ⟨rfl, hb⟩
  go_wp2
  go_ret
  exact ⟨rfl, hb⟩
theorem strV_isEmpty (l : Tx.Bs) : (⟨l.toArray⟩ : ByteArray).size = l.length := by simp [ByteArray.size]

set_option maxRecDepth 100000 in
set_option maxHeartbeats 2000000 in
theorem checkLocal_any (l : Tb.Lc) (w : World) (hl : l.name.length ≤ maxLen) :
    Calls Try.prog 30 #[lcV l] w fun e w' => e = .returned (.int .i64 (Tb.localE l)) ∧ Below w.heap.size w w' := by
  obtain ⟨shift, save, name⟩ := l
  obtain ⟨E, hE⟩ : ∃ E, Tb.localE ⟨shift, save, name⟩ = E := ⟨_, rfl⟩
  rw [hE]
  have HE : Hid (E = if (Sx.inB shift (-75600) 75600 && Sx.inB save 0 10800) = false then 3 else if (!name.isEmpty && decide (name.length ≤ 24) && Sx.plainB name) = false then 1 else 0) := by show _ = _; rw [← hE]; rfl
  have hb : Below w.heap.size w (w.alloc (.cells #[.int .i64 shift, .int .i64 save, strV name] 23)) := (Below.refl _ _).alloc (Nat.le_refl _) _
  have HB := hid hb
  clear hE hb
  have hn : (⟨name.toArray⟩ : ByteArray).size ≤ maxLen := by simpa [ByteArray.size] using hl
  have HN := hid hn
  clear hn hl
  have G1 : ∀ b, decide ((-75600 : Int) ≤ shift ∧ shift ≤ 75600) = b → Sx.inB shift (-75600) 75600 = b := fun b h => h
  have G2 : ∀ b, decide ((0 : Int) ≤ save ∧ save ≤ 10800) = b → Sx.inB save 0 10800 = b := fun b h => h
  have HG1 := hid G1
  have HG2 := hid G2
  clear G1 G2
  by_cases h1 : (-75600 : Int) ≤ shift ∧ shift ≤ 75600
  case neg =>
    go_enter Try.func30, Try.ntmps30
    go_wp2_with (go_at_call 31; refine (between_any _ _ _ _).mono ?_; rintro e w1 ⟨rfl, rfl⟩; simp only [h1])
    go_ret
    exact ⟨ret_int (by rw [HE.out, HG1.out false (by simp [h1])]; rfl), HB.out⟩
  by_cases h2 : (0 : Int) ≤ save ∧ save ≤ 10800
  case neg =>
    go_enter Try.func30, Try.ntmps30
    go_wp2_with (go_at_call 31; refine (between_any _ _ _ _).mono ?_; rintro e w1 ⟨rfl, rfl⟩; simp only [h1, h2])
    go_ret
    exact ⟨ret_int (by rw [HE.out, HG1.out true (by simp [h1]), HG2.out false (by simp [h2])]; rfl), HB.out⟩
  have HE2 : Hid (E = if (!name.isEmpty && decide (name.length ≤ 24) && Sx.plainB name) = false then 1 else 0) := by show _ = _; rw [HE.out, HG1.out true (by simp [h1]), HG2.out true (by simp [h2])]; rfl
  clear HE HG1 HG2
  cases h3 : name.isEmpty
  case true =>
    have H3 : Hid (E = 1) := by show _ = _; rw [HE2.out, h3]; rfl
    go_enter Try.func30, Try.ntmps30
    go_wp2_with (go_at_call 31; refine (between_any _ _ _ _).mono ?_; rintro e w1 ⟨rfl, rfl⟩; simp only [h1, h2])
    go_ret
    exact ⟨ret_int (by rw [H3.out]), HB.out⟩
  case false =>
    by_cases h4 : 24 < name.length
    · have H3 : Hid (E = 1) := by show _ = _; rw [HE2.out, h3]; simp; omega
      have h4' : 24 < (⟨name.toArray⟩ : ByteArray).size := by simpa [ByteArray.size] using h4
      go_enter Try.func30, Try.ntmps30
      go_wp2_with (go_at_call 31; refine (between_any _ _ _ _).mono ?_; rintro e w1 ⟨rfl, rfl⟩; simp only [h1, h2])
      go_ret
      exact ⟨ret_int (by rw [H3.out]), HB.out⟩
    · have h4' : ¬ 24 < (⟨name.toArray⟩ : ByteArray).size := by simpa [ByteArray.size] using h4
      have HE3 : Hid (E = if Sx.plainB name = false then 1 else 0) := by show _ = _; rw [HE2.out, h3]; simp [show name.length ≤ 24 by omega]
      clear HE2
      obtain ⟨b, h5⟩ : ∃ b, Sx.plainB name = b := ⟨_, rfl⟩
      have H5 : Hid (Sx.plainB (⟨name.toArray⟩ : ByteArray).data.toList = b) := by show _ = _; rw [← h5]
      have HE4 : Hid (E = if b = false then 1 else 0) := by show _ = _; rw [HE3.out, h5]
      clear h5 HE3
      go_enter Try.func30, Try.ntmps30
      cases b
      all_goals
        go_wp2_with (first | (go_at_call 31; refine (between_any _ _ _ _).mono ?_; rintro e w1 ⟨rfl, rfl⟩; simp only [h1, h2]) | (go_at_call 52; refine (rPlain_is _ _ HN.out H5.out).mono ?_; rintro e w1 ⟨rfl, rfl⟩))
        go_ret
        exact ⟨ret_int (by rw [HE4.out]; rfl), HB.out⟩
end Go.Proofs.Ytombhnjmelidcaa
