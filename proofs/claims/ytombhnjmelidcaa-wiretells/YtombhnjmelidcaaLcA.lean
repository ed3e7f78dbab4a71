/- The laws' small table. -/
import Derived.Test.YtombhnjmelidcaaLcP
namespace Go.Proofs.Ytombhnjmelidcaa
open Go.RowKit
set_option linter.unusedVariables false
set_option linter.unusedSimpArgs false

def smA : Tb.Lc := ⟨3600, 0, [65]⟩
def smB : Tb.Lc := ⟨7200, 3600, [66]⟩
def sm : Tb.Tbl := ⟨smA, [⟨100, smB⟩, ⟨90000, smA⟩]⟩
theorem sm_sized : Tb.Sized sm := ⟨by unfold maxLen; decide, by unfold maxLen; decide, by intro c hc; unfold maxLen; simp [sm, smA, smB] at hc; rcases hc with rfl | rfl <;> decide⟩
set_option maxRecDepth 100000 in
set_option maxHeartbeats 1000000 in
theorem small_any (w : World) : Calls Try.prog 23 #[] w fun e w' => ∃ v, e = .returned (tbV sm.first v) ∧ RdCh w' v sm.ch ∧ Below w.heap.size w w' := by
  go_enter Try.func23, Try.ntmps23
  go_wp2
  refine bodyPost_ret (v := tbV sm.first (.slice (some ⟨w.heap.size + 1 + 1 + 1, 0, none⟩) 2 2)) (by simp [results, Try.results23, go_sem, sm, smA, *]) rfl ⟨_, rfl, ?_, ?_⟩
  · have := World.ownsRow_lit (base := 0) (e := 32) (size := 4) (((w.alloc (.cells #[.int .i64 3600, .int .i64 0, .string ⟨#[65]⟩, .slice (some ⟨w.heap.size + 1 + 1 + 1, 0, none⟩) 2 2] 26)).alloc (.cells #[.int .i64 3600, .int .i64 0, .string ⟨#[65]⟩] 23)).alloc (.cells #[.int .i64 7200, .int .i64 3600, .string ⟨#[66]⟩] 23)) #[.int .i64 100, .int .i64 7200, .int .i64 3600, .string ⟨#[66]⟩, .int .i64 90000, .int .i64 3600, .int .i64 0, .string ⟨#[65]⟩] 2 (Nat.zero_le _) (by unfold maxLen; decide) rfl
    simp only [World.size_alloc] at this
    exact own_rd cgCells_len (xs := sm.ch) this
  · exact ((((Below.refl _ _).alloc (Nat.le_refl _) _).alloc (by simp) _).alloc (by simp; omega) _).alloc (by simp; omega) _
theorem sm_good : Tb.tableE sm = 0 := by decide
end Go.Proofs.Ytombhnjmelidcaa
