/- What joinRow answers, on plain lists; RowJ: what its contract is to say. -/
import Derived.Test.YtgnopbmcnadmdabDoorLnZ
namespace Go.Proofs.YtgnopbmcnadmdabDoor.Tx
def jrow (acc : Bs) (first : Bool) : List Bs → Bs × Int
  | [] => (acc ++ [10], 0)
  | f :: r => if jfErr f ≠ 0 then ([], jfErr f) else jrow (acc ++ (if first then [] else [32]) ++ jfText f) false r
def jline (inn : Bool) (fs : List Bs) : Bs × Int := if fs = [] then ([], 1) else if 12 < fs.length then ([], 2) else jrow (if inn then [32] else []) true fs
theorem jfText_len {f : Bs} (h : jfErr f = 0) : (jfText f).length ≤ 26 := by
  have : f.length ≤ 24 := by
    unfold jfErr at h
    split at h
    · simp at h
    · split at h
      · simp at h
      · omega
  unfold jfText
  split
  · simp; omega
  · omega
end Go.Proofs.YtgnopbmcnadmdabDoor.Tx
namespace Go.Proofs.YtgnopbmcnadmdabDoor
open Go.RowKit
set_option linter.unusedVariables false
set_option linter.unusedSimpArgs false

theorem byteCells_app (a b : Tx.Bs) : Lib.byteCells (a ++ b) = Lib.byteCells a ++ Lib.byteCells b := by simp [Lib.byteCells]
theorem strCells_is (f : Tx.Bs) : Lib.strCells ⟨f.toArray⟩ = Lib.byteCells f := by simp [Lib.strCells, Lib.byteCells]
def RowJ (inn : Bool) (n : Int) (fs : List Tx.Bs) (w : World) (e : Ending) (w' : World) : Prop :=
  Below w.heap.size w w' ∧ (((Tx.jline inn fs).2 = 0 ∧ e = .returned (strV (Tx.jline inn fs).1)) ∨ ((Tx.jline inn fs).2 ≠ 0 ∧ e = .panicked [{ v := faultV n (Tx.jline inn fs).2, recovered := false }]))

end Go.Proofs.YtgnopbmcnadmdabDoor
