/- A map from kinds to their places. -/
import Derived.Test.YtombhnjmelidcaaWrB
import Derived.Test.YtombhnjmelidcaaWeA
import Derived.Test.YtombhnjmelidcaaTbA
import Derived.Maps.OwnSet
import Derived.Maps.Views
import Derived.DeepKeys4
import Derived.WalkArith
namespace Go.Proofs.Ytombhnjmelidcaa
open Go.RowKit Go.Maps
set_option linter.unusedVariables false
set_option linter.unusedSimpArgs false

theorem laidW : laidOutB Try.prog = true := by kernel_rfl
theorem rowLc : (23 : TypeId) < Try.prog.types.size := of_decide_eq_true (by kernel_rfl)
theorem deepLc : Try.prog.keyTypeAt 2 23 = true := by kernel_rfl
theorem lawLc : Keyed Try.prog 23 := Keyed.of_law (deep_law_laid laidW (m := 2) (by omega) rowLc deepLc (by rw [Try.underlying23]))
theorem keyTypeLc : Try.prog.keyType 23 = true := by kernel_rfl
theorem cellsLc : Try.prog.cellsOf 23 = 3 := by kernel_rfl
theorem cellsW_int : Try.prog.cellsOf 3 = 1 := by kernel_rfl
theorem cellsW_str : Try.prog.cellsOf 9 = 1 := by kernel_rfl
theorem sizeW : ∃ m, Try.prog.types.size = m + 1 := by
  have : 0 < Try.prog.types.size := of_decide_eq_true (by kernel_rfl)
  exact ⟨Try.prog.types.size - 1, by omega⟩
def klit (l : Tb.Lc) : Lit := .string (keyBytes [.int .i64 l.shift, .int .i64 l.save, .string l.name])
theorem klit_key (l : Tb.Lc) : WideAt.IsKeyLit (klit l) := trivial
theorem keyOf_lc {l : Tb.Lc} (h : Tb.localE l = 0) : keyOf Try.prog 23 (lcV l) = some (klit l) := by
  obtain ⟨g1, g2, g3, g4, g5, g6, g7⟩ := Tb.goodL_bd h
  have wa : (Lit.int .i64 l.shift).wf = true := WalkArith.wf_i64 (by omega)
  have wb : (Lit.int .i64 l.save).wf = true := WalkArith.wf_i64 (by omega)
  have wc : (⟨l.name.toArray⟩ : ByteArray).size ≤ maxLen := by unfold maxLen; simp [ByteArray.size]; omega
  obtain ⟨m, hm⟩ := sizeW
  unfold keyOf
  simp only [Try.underlying23]
  rw [if_pos (by simp [keyTypeLc, Value.formed, Try.underlying23, cellsLc]), hm]
  unfold Program.keyLits
  simp only [Try.underlying23, Value.cells]
  rw [if_pos (by rw [cellsLc]; exact ⟨rfl, by kernel_rfl⟩)]
  simp [List.mapM_cons, cellsW_int, cellsW_str, Program.keyLits, Try.underlying3, Try.underlying9, wa, wb, wc, klit]
theorem klit_inj {a b : Tb.Lc} (ha : Tb.localE a = 0) (hb : Tb.localE b = 0) (h : klit a = klit b) : a = b := by
  have := lawLc.inj (keyOf_lc ha) (by rw [h]; exact keyOf_lc hb)
  simp at this
  exact Tb.lc_ext this.1 this.2.1 this.2.2
end Go.Proofs.Ytombhnjmelidcaa
