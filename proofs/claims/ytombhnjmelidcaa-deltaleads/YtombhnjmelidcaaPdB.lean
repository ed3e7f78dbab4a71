/- Contracts of delta's countWhile, sameAhead, sameBehind. -/
import Derived.Test.YtombhnjmelidcaaTbE
namespace Go.Proofs.Ytombhnjmelidcaa
open Go.RowKit Go.Lib
set_option linter.unusedVariables false
set_option linter.unusedSimpArgs false

/- how many hold, from the first on -/
structure Tb.IsRun (p : Nat → Bool) (m k : Nat) : Prop where
  le : k ≤ m
  all : ∀ i, i < k → p i = true
  stop : k < m → p k = false
set_option maxRecDepth 100000 in
set_option maxHeartbeats 2000000 in
theorem countWhile_any (K : Nat) (caps : Array Value) (m : Nat) (p : Nat → Bool) (w : World) (hm : m ≤ 1000000)
    (eg : ∀ args w, (callFunc K args).run Try.prog w = .ok (.enter K args) w)
    (hf : ∀ W, Below w.heap.size w W → ∀ i, i < m → Calls Try.prog K (#[.int .i64 i] ++ caps) W fun e w' => e = .returned (.bool (p i)) ∧ Below W.heap.size W w') :
    Calls Try.prog 56 #[.int .i64 m, .func (.func K) #[] caps] w fun e w' => ∃ k : Nat, e = .returned (.int .i64 k) ∧ Tb.IsRun p m k ∧ Below w.heap.size w w' := by
  have HF := hid hf
  clear hf
  go_enter Try.func56, Try.ntmps56
  go_wp2_with fail
  go_loopw [5] (fun iv wr => ∃ i : Nat, i ≤ m ∧ iv = .int .i64 i ∧ Hid (∀ j, j < i → p j = true) ∧ Hid (Below w.heap.size w wr)) (fun iv _ => m - (intOf iv).toNat)
  case atStart => exact ⟨0, by omega, rfl, fun j hj => by omega, Below.refl _ _⟩
  case round =>
    obtain ⟨i, hi, rfl, HA, B0⟩ := hrel
    by_cases q : i < m
    · have hc := hid (HF.out wr B0.out i q)
      obtain ⟨P, hP⟩ : ∃ P, p i = P := ⟨_, rfl⟩
      rw [hP] at hc
      have HPP := hid hP
      clear hP
      cases P
      · go_wp2_with (refine hc.out.mono ?_; rintro e w1 ⟨rfl, hb1⟩)
        go_ret
        exact ⟨i, rfl, ⟨hi, HA.out, fun _ => HPP.out⟩, B0.out.trans (hb1.mono B0.out.size)⟩
      · go_wp2_with (refine hc.out.mono ?_; rintro e w1 ⟨rfl, hb1⟩)
        go_roundw
        case rel => exact ⟨i + 1, by omega, by go_num, fun j hj => by by_cases e : j = i; (rw [e]; exact HPP.out); exact HA.out j (by omega), B0.out.trans (hb1.mono B0.out.size)⟩
        case measure => simp [intOf]; omega
    · go_wp2
      go_ret
      exact ⟨i, rfl, ⟨hi, HA.out, fun z => by omega⟩, B0.out⟩

set_option maxRecDepth 100000 in
set_option maxHeartbeats 2000000 in
theorem ahead1_any (N M i : Nat) (va vb : Value) (a b : List Tb.Cg) (c d : Tb.Cg) (W : World) (ht : W.cell? ⟨N, 0, none⟩ = some va) (hu : W.cell? ⟨M, 0, none⟩ = some vb)
    (ha : RdCh W va a) (hb : RdCh W vb b) (hc : a[i]? = some c) (hd : b[i]? = some d) :
    Calls Try.prog 57 (#[.int .i64 i] ++ #[.pointer (some ⟨N, 0, none⟩), .pointer (some ⟨M, 0, none⟩)]) W fun e w' => e = .returned (.bool (decide (c = d))) ∧ ∃ n, w' = W.drewN n := by
  obtain ⟨cb, co, ccap, e1, cl, c0, c1, c2, c3⟩ := rdCh_at ha hc
  obtain ⟨db, dob, dcap, e2, dl, d0, d1, d2, d3⟩ := rdCh_at hb hd
  subst e1 e2
  have li : i < a.length := (List.getElem?_eq_some_iff.1 hc).1
  have lj : i < b.length := (List.getElem?_eq_some_iff.1 hd).1
  clear hc hd ha hb
  by_cases hcd : c = d
  · subst hcd
    go_enter Try.func57, Try.ntmps57
    go_wp2_with fail
    go_quiet (fail)
    go_wp2
    go_ret
    exact ⟨ret_bool (by simp), _, rfl⟩
  · have h4 := cg_cases hcd
    have HD : Hid (decide (c = d) = false) := by show _ = _; simp [hcd]
    rw [HD.out]
    clear hcd HD
    obtain ⟨ca, cs, cv, cn⟩ := c
    obtain ⟨da, ds, dv, dn⟩ := d
    dsimp only at c0 c1 c2 c3 d0 d1 d2 d3 h4
    rcases h4 with h4 | ⟨rfl, h4⟩ | ⟨rfl, rfl, h4⟩ | ⟨rfl, rfl, rfl, h4⟩
    all_goals
      go_enter Try.func57, Try.ntmps57
      go_wp2_with fail
      go_quiet (fail)
      go_wp2
      go_ret
      exact ⟨rfl, _, rfl⟩

set_option maxRecDepth 100000 in
set_option maxHeartbeats 2000000 in
theorem behind1_any (N M i : Nat) (va vb : Value) (a b : List Tb.Cg) (c d : Tb.Cg) (W : World) (ht : W.cell? ⟨N, 0, none⟩ = some va) (hu : W.cell? ⟨M, 0, none⟩ = some vb)
    (ha : RdCh W va a) (hb : RdCh W vb b) (la : i < a.length) (lb : i < b.length) (la2 : a.length ≤ 1000000) (lb2 : b.length ≤ 1000000) (hc : a[a.length - 1 - i]? = some c) (hd : b[b.length - 1 - i]? = some d) :
    Calls Try.prog 58 (#[.int .i64 i] ++ #[.pointer (some ⟨N, 0, none⟩), .pointer (some ⟨M, 0, none⟩)]) W fun e w' => e = .returned (.bool (decide (c = d))) ∧ ∃ n, w' = W.drewN n := by
  obtain ⟨x, hx⟩ : ∃ x : Nat, a.length - 1 - i = x := ⟨_, rfl⟩
  obtain ⟨y, hy⟩ : ∃ y : Nat, b.length - 1 - i = y := ⟨_, rfl⟩
  rw [hx] at hc
  rw [hy] at hd
  have ex : (a.length : Int) - 1 - i = x := by omega
  have ey : (b.length : Int) - 1 - i = y := by omega
  have zx : (x : Int) < a.length := by omega
  have zy : (y : Int) < b.length := by omega
  obtain ⟨cb, co, ccap, e1, cl, c0, c1, c2, c3⟩ := rdCh_at ha hc
  obtain ⟨db, dob, dcap, e2, dl, d0, d1, d2, d3⟩ := rdCh_at hb hd
  subst e1 e2
  clear hc hd ha hb hx hy
  by_cases hcd : c = d
  · subst hcd
    go_enter Try.func58, Try.ntmps58
    go_wp2_with fail
    go_quiet (fail)
    go_wp2
    go_ret
    exact ⟨ret_bool (by simp), _, rfl⟩
  · have h4 := cg_cases hcd
    have HD : Hid (decide (c = d) = false) := by show _ = _; simp [hcd]
    rw [HD.out]
    clear hcd HD
    obtain ⟨ca, cs, cv, cn⟩ := c
    obtain ⟨da, ds, dv, dn⟩ := d
    dsimp only at c0 c1 c2 c3 d0 d1 d2 d3 h4
    rcases h4 with h4 | ⟨rfl, h4⟩ | ⟨rfl, rfl, h4⟩ | ⟨rfl, rfl, rfl, h4⟩
    all_goals
      go_enter Try.func58, Try.ntmps58
      go_wp2_with fail
      go_quiet (fail)
      go_wp2
      go_ret
      exact ⟨rfl, _, rfl⟩
end Go.Proofs.Ytombhnjmelidcaa
