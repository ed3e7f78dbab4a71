/- What must be in any case: civilBegun answers true. -/
import Derived.Test.YtodnokopfknmnaaCivF
namespace Go.Proofs.Ytodnokopfknmnaa
open Go.RowKit

theorem begun_days : Cv.vldB 2000 2 29 = true ∧ Cv.num 2000 2 29 = 11016 := by decide
theorem begun_on : Cv.onE 2020 3 2 0 0 = 0 ∧ Cv.tgt 2020 3 2 0 0 = Cv.num 2020 3 29 ∧ Cv.vldB 2020 3 29 = true ∧ Cv.wd 11016 = 2 := by decide

set_option maxHeartbeats 1000000 in
theorem begun_any (w : World) :
    Calls Try.prog 10 #[] w fun e w' => e = .returned (.bool true) ∧ Below w.heap.size w w' := by
  go_enter Try.func10, Try.ntmps10
  go_wp2_with fail
  refine (days_yes _ _ _ _ begun_days.1).mono ?_
  rintro e w1 ⟨rfl, hb1⟩
  obtain ⟨hc1, hz1⟩ := bcell hb1
  rw [begun_days.2]
  go_wp2_with fail
  refine (of_yes _ _ (by omega) (by omega)).mono ?_
  rintro e w2 ⟨a, b, c, rfl, hv, hn, hb2⟩
  obtain ⟨rfl, rfl, rfl⟩ := Cv.num_inj hv begun_days.1 (hn.trans begun_days.2.symm)
  clear hv hn
  obtain ⟨hc2, hz2⟩ := bcell hb2
  go_wp2_with fail
  refine (on_good _ _ _ _ _ _ begun_on.1).mono ?_
  rintro e w3 ⟨a, b, c, rfl, hv, hn, hb3⟩
  obtain ⟨rfl, rfl, rfl⟩ := Cv.num_inj hv begun_on.2.2.1 (hn.trans begun_on.2.1)
  clear hv hn
  obtain ⟨hc3, hz3⟩ := bcell hb3
  have hs3 : w2.heap.size < w3.heap.size := by have := hb3.size; simp at this; omega
  go_wp2_with fail
  refine (weekday_any _ _).mono ?_
  rintro e w4 ⟨rfl, rfl⟩
  rw [begun_on.2.2.2]
  go_wp2
  go_ret
  refine ⟨rfl, ?_⟩
  have s1 := hb1.size
  have s2 := hb2.size
  exact Below.alloc (Below.trans (Below.alloc (hb1.trans (hb2.mono s1)) (by omega) _) (hb3.mono (by simp; omega))) (by omega) _
end Go.Proofs.Ytodnokopfknmnaa
