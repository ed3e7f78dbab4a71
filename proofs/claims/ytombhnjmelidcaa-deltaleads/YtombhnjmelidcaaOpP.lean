/- A patch among the arguments: what it reads as. -/
import Derived.Test.YtombhnjmelidcaaOpT
import Derived.Test.YtombhnjmelidcaaPdF
namespace Go.Proofs.Ytombhnjmelidcaa
open Go.ChangeShapes Go.WideShapes Go.ChangeAt Go.RowKit Go.Joins
set_option linter.unusedVariables false
set_option linter.unusedSimpArgs false

theorem cellsT_pt : Try.prog.cellsOf 42 = 6 := by kernel_rfl
theorem array6 {cs : Array Value} (h : cs.size = 6) : ∃ c0 c1 c2 c3 c4 c5, cs = #[c0, c1, c2, c3, c4, c5] := by
  obtain ⟨l⟩ := cs
  match l, h with
  | [c0, c1, c2, c3, c4, c5], _ => exact ⟨c0, c1, c2, c3, c4, c5, rfl⟩
section
variable {H : Type} {enc : TypeId × Value → H}
theorem argT_of {W : World} {t : Tb.Tbl} {a : Option Addr} {n cap : Nat} (r : RdCh W (.slice a n cap) t.ch) (k : n ≤ cap) (m : cap ≤ maxLen) (z : Tb.Sized t) : ArgT W t (.slice a n cap) :=
  ⟨r, z, fun a' n' c' e => by simp at e; obtain ⟨_, rfl, rfl⟩ := e; exact ⟨k, m⟩⟩
set_option maxRecDepth 100000 in
theorem open_patch_arg {W : World} {base : Nat} {v : Value} {d : DataW H} {p : List MemPlace} (hv : Value.okWide Try.prog W .any base 42 v) (h : DataW.Trod enc Try.prog W 0 (fun _ => true) true 42 v d p) :
    (∃ (q : Tb.Pt) (u : Value), v = ptV q.first q.head q.tail u ∧ ArgP W q u) ∧ ∀ x ∈ p, x.block < W.heap.size := by
  obtain ⟨cs, rfl, hsz⟩ := okWide_struct Try.underlying42 hv
  obtain ⟨c0, c1, c2, c3, c4, c5, rfl⟩ := array6 (hsz.trans cellsT_pt)
  obtain ⟨fuel, hf⟩ := h
  refine ⟨?_, DataW.trod_lt fuel _ _ _ hf⟩
  cases fuel with
  | zero => simp [DataW.trod] at hf
  | succ n =>
    unfold DataW.trod at hf
    rw [Try.underlying42] at hf
    simp [Value.cells, cellsT_pt, cellsT_lc, cellsT_int, cellsT_chs, List.mapM_cons, Option.bind_eq_some_iff] at hf
    obtain ⟨a1, b1, h1, l, ⟨a2, b2, h2, l2, ⟨a3, b3, h3, l3, ⟨a4, b4, h4, _⟩, _⟩, _⟩, _⟩ := hf
    obtain ⟨lc, e1, hs⟩ := open_lc h1
    obtain ⟨k1, e2, _, wk1⟩ := DataW.trod_int Try.underlying3 h2
    obtain ⟨k2, e3, _, wk2⟩ := DataW.trod_int Try.underlying3 h3
    obtain ⟨a, k, cap, l, e4, hr, hk, hm, hn⟩ := open_chs h4
    simp at e1 e2 e3 e4
    obtain ⟨rfl, rfl, rfl⟩ := e1
    subst e2 e3 e4
    have hlen : k = l.length := by
      obtain ⟨a', cap', e, _⟩ := hr
      simp only [Value.slice.injEq] at e
      exact e.2.1
    refine ⟨⟨lc, k1, k2, l⟩, _, rfl, ⟨hr, by simp only; omega, hs, hn, fun x hx => ?_⟩⟩
    have r1 : -9223372036854775808 ≤ k1 ∧ k1 ≤ 9223372036854775807 := by
      have q := wk1
      simp [Lit.wf] at q
      exact ⟨by have := q.1; rw [show IntKind.i64.min = -9223372036854775808 by decide] at this; exact this, q.2⟩
    have r2 : -9223372036854775808 ≤ k2 ∧ k2 ≤ 9223372036854775807 := by
      have q := wk2
      simp [Lit.wf] at q
      exact ⟨by have := q.1; rw [show IntKind.i64.min = -9223372036854775808 by decide] at this; exact this, q.2⟩
    rcases hx with rfl | rfl
    · exact r1
    · exact r2
set_option maxRecDepth 100000 in
theorem patch_stays {W W' : World} {v : Value} {d : DataW H} {p : List MemPlace} (h : DataW.Trod enc Try.prog W 0 (fun _ => true) true 42 v d p) (bel : Below W.heap.size W W') (lt0 : ∀ x ∈ p, x.block < W.heap.size) : DataW.Trod enc Try.prog W' 0 (fun b => decide (b < W.heap.size)) true 42 v d p :=
  Below.trod laidOut (by kernel_rfl) (of_decide_eq_true (by kernel_rfl)) h bel lt0
end
end Go.Proofs.Ytombhnjmelidcaa
