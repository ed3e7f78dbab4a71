/- Tables in memory. -/
import Derived.Test.YtombhnjmelidcaaBa
import Derived.Test.YtombhnjmelidcaaTb
namespace Go.Proofs.Ytombhnjmelidcaa
open Go.RowKit
set_option linter.unusedVariables false
set_option linter.unusedSimpArgs false

def cgCells (c : Tb.Cg) : List Value := [.int .i64 c.at_, .int .i64 c.lc.shift, .int .i64 c.lc.save, strV c.lc.name]
abbrev lcV (l : Tb.Lc) : Value := .agg #[.int .i64 l.shift, .int .i64 l.save, strV l.name]
abbrev cgV (c : Tb.Cg) : Value := .agg #[.int .i64 c.at_, .int .i64 c.lc.shift, .int .i64 c.lc.save, strV c.lc.name]
abbrev tbV (l : Tb.Lc) (v : Value) : Value := .agg #[.int .i64 l.shift, .int .i64 l.save, strV l.name, v]
def RdCh := Rd 4 cgCells
theorem cgCells_len (c : Tb.Cg) : (cgCells c).length = 4 := rfl
theorem rd_cg {w : World} {b o i : Nat} {c : Tb.Cg} (h : ∀ k u, (cgCells c)[k]? = some u → w.cell? ⟨b, o + i * 4 + k, none⟩ = some u) :
    w.cell? ⟨b, o + i * 4, none⟩ = some (.int .i64 c.at_) ∧ w.cell? ⟨b, o + i * 4 + 1, none⟩ = some (.int .i64 c.lc.shift) ∧ w.cell? ⟨b, o + i * 4 + 2, none⟩ = some (.int .i64 c.lc.save) ∧ w.cell? ⟨b, o + i * 4 + 3, none⟩ = some (strV c.lc.name) :=
  ⟨h 0 _ rfl, h 1 _ rfl, h 2 _ rfl, h 3 _ rfl⟩
theorem rdCh_below {W w' : World} {v : Value} {l : List Tb.Cg} (h : RdCh W v l) (hb : Below W.heap.size W w') : RdCh w' v l := rd_below h hb
/- a change of the list, as the walk reads it -/
theorem rdCh_at {w : World} {v : Value} {l : List Tb.Cg} {i : Nat} {c : Tb.Cg} (h : RdCh w v l) (hi : l[i]? = some c) : ∃ b o cap, v = .slice (some ⟨b, o, none⟩) l.length cap ∧ b < w.heap.size ∧
    w.cell? ⟨b, o + i * 4, none⟩ = some (.int .i64 c.at_) ∧ w.cell? ⟨b, o + i * 4 + 1, none⟩ = some (.int .i64 c.lc.shift) ∧ w.cell? ⟨b, o + i * 4 + 2, none⟩ = some (.int .i64 c.lc.save) ∧ w.cell? ⟨b, o + i * 4 + 3, none⟩ = some (strV c.lc.name) := by
  obtain ⟨a, cap, rfl, h⟩ := h
  obtain ⟨b, o, rfl, hb, hc⟩ := h (by intro q; subst q; simp at hi)
  obtain ⟨c0, c1, c2, c3⟩ := rd_cg (hc i c hi)
  exact ⟨b, o, cap, rfl, hb, c0, c1, c2, c3⟩
abbrev lcL (l : Tb.Lc) : List Value := [.int .i64 l.shift, .int .i64 l.save, strV l.name]
abbrev tbL (l : Tb.Lc) (v : Value) : List Value := [.int .i64 l.shift, .int .i64 l.save, strV l.name, v]
def lc0 : Tb.Lc := ⟨0, 0, []⟩
def RdInts := Rd 1 (fun n : Int => [Value.int .i64 n])
theorem rdInts_at {w : World} {v : Value} {l : List Int} {i : Nat} {n : Int} (h : RdInts w v l) (hi : l[i]? = some n) : ∃ b o cap, v = .slice (some ⟨b, o, none⟩) l.length cap ∧ b < w.heap.size ∧ w.cell? ⟨b, o + i, none⟩ = some (.int .i64 n) := by
  obtain ⟨a, cap, rfl, h⟩ := h
  obtain ⟨b, o, rfl, hb, hc⟩ := h (by intro q; subst q; simp at hi)
  refine ⟨b, o, cap, rfl, hb, ?_⟩
  have := hc i n hi 0 _ rfl
  simpa using this
end Go.Proofs.Ytombhnjmelidcaa
