/- What local's Wall and When answer: in plain terms, and as ends of calls. -/
import Derived.Test.YtombhnjmelidcaaTbM
import Derived.Test.YtombhnjmelidcaaTbT
namespace Go.Proofs.Ytombhnjmelidcaa
open Go.RowKit
set_option linter.unusedVariables false
set_option linter.unusedSimpArgs false

def Tb.wallErr (t : Tb.Tbl) (at_ : Int) : Int := if Tb.tableE t ≠ 0 then Tb.tableE t else if Tb.inYears at_ = false then 3 else Tb.wallE t at_
def Tb.dayB (y m d s : Int) : Bool := Cv.vldB y m d && decide (0 ≤ s ∧ s < 86400)
def Tb.whenErr (t : Tb.Tbl) (y m d s : Int) : Int := if Tb.tableE t ≠ 0 then Tb.tableE t else if Tb.dayB y m d s = false then 3 else 0
def Tb.whenL (t : Tb.Tbl) (y m d s : Int) : List Int := if Tb.whenErr t y m d s = 0 then Tb.spans (Cv.num y m d * 86400 + s) Tb.least t.first.shift t.ch else []
/- a table that can be handed on: its texts have a length -/
structure Tb.Sized (t : Tb.Tbl) : Prop where
  ch : t.ch.length ≤ maxLen
  first : t.first.name.length ≤ maxLen
  names : ∀ c ∈ t.ch, c.lc.name.length ≤ maxLen
def WallEnd (t : Tb.Tbl) (at_ : Int) (w : World) (e : Ending) (w' : World) : Prop :=
  Below w.heap.size w w' ∧ ∃ a b c s : Int, e = .returned (.tuple #[.agg #[.int .i64 a, .int .i64 b, .int .i64 c], .int .i64 s, .int .i64 (Tb.wallErr t at_)]) ∧
    (Tb.wallErr t at_ = 0 → Cv.vldB a b c = true ∧ Cv.num a b c = Tb.wallD t at_ ∧ s = Tb.wallN t at_ - 86400 * Tb.wallD t at_) ∧ (Tb.wallErr t at_ ≠ 0 → a = 0 ∧ b = 0 ∧ c = 0 ∧ s = 0)
def WhenEnd (t : Tb.Tbl) (y m d s : Int) (w : World) (e : Ending) (w' : World) : Prop :=
  Below w.heap.size w w' ∧ ∃ u, e = .returned (.tuple #[u, .int .i64 (Tb.whenErr t y m d s)]) ∧ RdInts w' u (Tb.whenL t y m d s)
/- what was told at a time lies among what may be told -/
theorem Tb.lookL_bd : ∀ (l : List Tb.Cg) (o : Tb.Lc) (n : Int), Tb.localE o = 0 → (∀ c ∈ l, Tb.localE c.lc = 0) → Tb.localE (Tb.lookL o n l) = 0
  | [], o, n, h, _ => h
  | c :: r, o, n, h, hc => by
    simp only [Tb.lookL]
    refine Tb.lookL_bd r _ n ?_ (fun d hd => hc d (by simp [hd]))
    split
    · exact hc c (by simp)
    · exact h
theorem Tb.look_bd {t : Tb.Tbl} (h : Tb.tableE t = 0) (n : Int) : Tb.localE (Tb.look t n) = 0 := by
  obtain ⟨_, g2, g3⟩ := Tb.good_parts h
  obtain ⟨_, q, _⟩ := Tb.goE_rise t.ch t.first none g3
  exact Tb.lookL_bd t.ch t.first n g2 fun c hc => (q c hc).2.2
end Go.Proofs.Ytombhnjmelidcaa
