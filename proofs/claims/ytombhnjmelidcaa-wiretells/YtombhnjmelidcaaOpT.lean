/- A table among the arguments: what it reads as. -/
import Derived.Test.YtombhnjmelidcaaTbM
import Derived.Test.YtombhnjmelidcaaLcP
import Derived.ProofKit
import Derived.OpenShut
import Derived.Lib.SmallJoins
import Derived.Deep.Slices
import Derived.Deep.Strs
import Derived.Carry
namespace Go.Proofs.Ytombhnjmelidcaa
open Go.ChangeShapes Go.WideShapes Go.ChangeAt Go.RowKit Go.Joins
set_option linter.unusedVariables false
set_option linter.unusedSimpArgs false

theorem own : ownKnob Try.prog.godebug = none := by kernel_rfl
theorem laidOut : laidOutB Try.prog = true := by kernel_rfl
theorem cellsT_int : Try.prog.cellsOf 3 = 1 := by kernel_rfl
theorem cellsT_str : Try.prog.cellsOf 9 = 1 := by kernel_rfl
theorem cellsT_lc : Try.prog.cellsOf 23 = 3 := by kernel_rfl
theorem cellsT_cg : Try.prog.cellsOf 32 = 4 := by kernel_rfl
theorem cellsT_chs : Try.prog.cellsOf 24 = 1 := by kernel_rfl
theorem cellsT_tb : Try.prog.cellsOf 26 = 4 := by kernel_rfl
theorem cellsT_dt : Try.prog.cellsOf 106 = 3 := by kernel_rfl

section
variable {H : Type} {enc : TypeId × Value → H} {w : World} {sp : Nat → Bool} {held : Bool} {fuel : Nat} {cs : List Value} {x : DataW H × List MemPlace}
theorem addT_none (b o i : Nat) : (⟨b, o, none⟩ : Addr).add i = ⟨b, o + i, none⟩ := by simp [Addr.add]
theorem blockT_of_cell {a : Addr} {v : Value} (h : w.cell? a = some v) : a.block < w.heap.size := by
  unfold World.cell? at h
  split at h
  · rename_i hb; exact (Array.getElem?_eq_some_iff.1 hb).1
  · cases h
theorem strT_of (s : ByteArray) : strV s.data.toList = .string s := by unfold strV; congr 1
set_option maxRecDepth 100000 in
theorem open_lc (h : DataW.trod enc Try.prog w 0 sp held fuel 23 cs = some x) : ∃ l : Tb.Lc, cs = [.int .i64 l.shift, .int .i64 l.save, strV l.name] ∧ l.name.length ≤ maxLen := by
  cases fuel with
  | zero => simp [DataW.trod] at h
  | succ n =>
    unfold DataW.trod at h
    rw [Try.underlying23] at h
    simp [cellsT_lc, cellsT_int, cellsT_str, List.mapM_cons, Option.bind_eq_some_iff] at h
    obtain ⟨hlen, a1, b1, h1, l, ⟨a2, b2, h2, l3, ⟨a3, b3, h3, _⟩, _⟩, _⟩ := h
    match cs, hlen with
    | [u, v, z], _ =>
      simp at h1 h2 h3
      obtain ⟨k1, e1, _⟩ := DataW.trod_int Try.underlying3 h1
      obtain ⟨k2, e2, _⟩ := DataW.trod_int Try.underlying3 h2
      obtain ⟨s3, e3, _, hs⟩ := DataW.trod_string Try.underlying9 h3
      simp at e1 e2 e3
      subst e1 e2 e3
      exact ⟨⟨k1, k2, s3.data.toList⟩, by rw [strT_of], by simpa using hs⟩
set_option maxRecDepth 100000 in
theorem open_cg (h : DataW.trod enc Try.prog w 0 sp held fuel 32 cs = some x) : ∃ c : Tb.Cg, cs = cgCells c ∧ c.lc.name.length ≤ maxLen := by
  cases fuel with
  | zero => simp [DataW.trod] at h
  | succ n =>
    unfold DataW.trod at h
    rw [Try.underlying32] at h
    simp [cellsT_cg, cellsT_int, cellsT_lc, List.mapM_cons, Option.bind_eq_some_iff] at h
    obtain ⟨hlen, a1, b1, h1, l, ⟨a2, b2, h2, _⟩, _⟩ := h
    match cs, hlen with
    | [u, v, z, y], _ =>
      simp at h1 h2
      obtain ⟨k1, e1, _⟩ := DataW.trod_int Try.underlying3 h1
      obtain ⟨lc, e2, hs⟩ := open_lc h2
      simp at e1 e2
      obtain ⟨rfl, rfl, rfl⟩ := e2
      subst e1
      exact ⟨⟨k1, lc⟩, rfl, hs⟩
set_option maxRecDepth 100000 in
theorem open_chs (h : DataW.trod enc Try.prog w 0 sp held fuel 24 cs = some x) : ∃ a n cap l, cs = [.slice a n cap] ∧ RdCh w (.slice a n cap) l ∧ n ≤ cap ∧ cap ≤ maxLen ∧ ∀ c ∈ l, c.lc.name.length ≤ maxLen := by
  rcases Deep.open_slice Try.underlying24 h with ⟨rfl, _⟩ | ⟨a, len, cap, m, n, D, Pl, rfl, _, hl, hm, hmm, _, hc⟩
  · exact ⟨none, 0, 0, [], rfl, rd_nil, Nat.le_refl _, Nat.zero_le _, by simp⟩
  · have hlm : len ≤ m := by rw [hmm]; split <;> omega
    rw [cellsT_cg] at hc
    have key : ∀ i, i < len → ∃ c : Tb.Cg, c.lc.name.length ≤ maxLen ∧ w.cells? 0 (a.add (i * 4)) 4 = some (cgCells c) := by
      intro i hi
      obtain ⟨cs', h1, h2⟩ := hc i (by omega)
      obtain ⟨c, rfl, hs⟩ := open_cg h2
      exact ⟨c, hs, h1⟩
    have : Inhabited Tb.Cg := ⟨⟨0, ⟨0, 0, []⟩⟩⟩
    obtain ⟨L, hL⟩ := Deep.choose_lt key
    refine ⟨some a, len, cap, (List.range len).map L, rfl, ⟨some a, cap, by simp, fun hn => ?_⟩, by omega, by omega, ?_⟩
    · have h0 : 0 < len := by
        rcases Nat.eq_zero_or_pos len with q | q
        · subst q; simp at hn
        · exact q
      obtain ⟨b, off, spot⟩ := a
      obtain ⟨_, _, g0⟩ := World.cells?_some (hL 0 h0).2
      have c0 := g0 0 (by decide)
      have hs : spot = none := by simpa [Addr.add] using World.cell?_spot c0
      subst hs
      simp only [addT_none] at c0 hL
      refine ⟨b, off, rfl, blockT_of_cell c0, fun i c hi k u hu => ?_⟩
      have hi' : i < len := by
        have := (List.getElem?_eq_some_iff.1 hi).1
        simpa using this
      simp [hi'] at hi
      subst hi
      obtain ⟨_, _, gi⟩ := World.cells?_some (hL i hi').2
      have hk := (List.getElem?_eq_some_iff.1 hu).1
      have := gi k hk
      rw [addT_none] at this
      rw [this]
      exact hu
    · intro c hc'
      simp at hc'
      obtain ⟨i, hi, rfl⟩ := hc'
      exact (hL i hi).1
/- .. as an argument -/
set_option maxRecDepth 100000 in
theorem open_table_arg {W : World} {base : Nat} {v : Value} {d : DataW H} {p : List MemPlace} (hv : Value.okWide Try.prog W .any base 26 v) (h : DataW.Trod enc Try.prog W 0 (fun _ => true) true 26 v d p) :
    (∃ (t : Tb.Tbl) (a : Option Addr) (n cap : Nat), v = tbV t.first (.slice a n cap) ∧ RdCh W (.slice a n cap) t.ch ∧ n ≤ cap ∧ cap ≤ maxLen ∧ Tb.Sized t) ∧ ∀ x ∈ p, x.block < W.heap.size := by
  obtain ⟨cs, rfl, hsz⟩ := okWide_struct Try.underlying26 hv
  obtain ⟨c0, c1, c2, c3, rfl⟩ := array4 (hsz.trans cellsT_tb)
  obtain ⟨fuel, hf⟩ := h
  refine ⟨?_, DataW.trod_lt fuel _ _ _ hf⟩
  cases fuel with
  | zero => simp [DataW.trod] at hf
  | succ n =>
    unfold DataW.trod at hf
    rw [Try.underlying26] at hf
    simp [Value.cells, cellsT_tb, cellsT_lc, cellsT_chs, List.mapM_cons, Option.bind_eq_some_iff] at hf
    obtain ⟨a1, b1, h1, l, ⟨a2, b2, h2, _⟩, _⟩ := hf
    obtain ⟨lc, e1, hs⟩ := open_lc h1
    obtain ⟨a, k, cap, l, e2, hr, hk, hm, hn⟩ := open_chs h2
    simp at e1 e2
    obtain ⟨rfl, rfl, rfl⟩ := e1
    subst e2
    have hlen : k = l.length := by
      obtain ⟨a', cap', e, _⟩ := hr
      simp only [Value.slice.injEq] at e
      exact e.2.1
    exact ⟨⟨lc, l⟩, a, k, cap, rfl, hr, hk, hm, ⟨by simp only; omega, hs, hn⟩⟩
set_option maxRecDepth 100000 in
theorem table_stays {W W' : World} {v : Value} {d : DataW H} {p : List MemPlace} (h : DataW.Trod enc Try.prog W 0 (fun _ => true) true 26 v d p) (bel : Below W.heap.size W W') (lt0 : ∀ x ∈ p, x.block < W.heap.size) : DataW.Trod enc Try.prog W' 0 (fun b => decide (b < W.heap.size)) true 26 v d p :=
  Below.trod laidOut (by kernel_rfl) (of_decide_eq_true (by kernel_rfl)) h bel lt0
/- A date, a number -/
set_option maxRecDepth 100000 in
theorem open_date_arg {W : World} {base : Nat} {v : Value} {d : DataW H} {p : List MemPlace} (hv : Value.okWide Try.prog W .any base 106 v) (h : DataW.Trod enc Try.prog W 0 (fun _ => true) true 106 v d p) :
    (∃ a b c : Int, v = .agg #[.int .i64 a, .int .i64 b, .int .i64 c]) ∧ ∀ x ∈ p, x.block < W.heap.size := by
  have lt0 : ∀ x ∈ p, x.block < W.heap.size := by obtain ⟨m, hm⟩ := h; exact DataW.trod_lt m _ _ _ hm
  obtain ⟨c0, c1, c2, y0, y1, y2, m, rfl, hd, hp, hy0, hy1, hy2⟩ := open_agg3 Try.underlying106 (by kernel_rfl) cellsT_dt hv h
  obtain ⟨a, e0, _, wa⟩ := DataW.trod_int Try.underlying3 hy0
  obtain ⟨b, e1, _, wb⟩ := DataW.trod_int Try.underlying3 hy1
  obtain ⟨c, e2, _, wc⟩ := DataW.trod_int Try.underlying3 hy2
  simp at e0 e1 e2
  subst e0 e1 e2
  exact ⟨⟨a, b, c, rfl⟩, lt0⟩
set_option maxRecDepth 100000 in
theorem date_stays {W W' : World} {v : Value} {d : DataW H} {p : List MemPlace} (h : DataW.Trod enc Try.prog W 0 (fun _ => true) true 106 v d p) (bel : Below W.heap.size W W') (lt0 : ∀ x ∈ p, x.block < W.heap.size) : DataW.Trod enc Try.prog W' 0 (fun b => decide (b < W.heap.size)) true 106 v d p :=
  Below.trod laidOut (by kernel_rfl) (of_decide_eq_true (by kernel_rfl)) h bel lt0
end
end Go.Proofs.Ytombhnjmelidcaa
