/- Contracts of delta's sameAhead, sameBehind. -/
import Derived.Test.YtombhnjmelidcaaPdB
import Derived.Shelf.Abstract
namespace Go.Proofs.Ytombhnjmelidcaa
open Go.RowKit Go.Lib Go.Shelf
set_option linter.unusedVariables false
set_option linter.unusedSimpArgs false

def Tb.sameAtB (a b : List Tb.Cg) (i j : Nat) : Bool := decide (a[i]? = b[j]?)
theorem Tb.sameAt_is {a b : List Tb.Cg} {i j : Nat} {c d : Tb.Cg} (h : a[i]? = some c) (h' : b[j]? = some d) : decide (c = d) = Tb.sameAtB a b i j := by
  unfold Tb.sameAtB; rw [h, h']; simp
set_option maxRecDepth 100000 in
set_option maxHeartbeats 2000000 in
theorem sameAhead_any (a b : List Tb.Cg) (u v : Value) (w : World) (h : RdCh w u a) (h' : RdCh w v b) (la : a.length ≤ 1000000) (lb : b.length ≤ 1000000) :
    Calls Try.prog 37 #[u, v] w fun e w' => ∃ k : Nat, e = .returned (.int .i64 k) ∧ Tb.IsPre a b k ∧ Below w.heap.size w w' := by
  have HA := hid h
  have HB := hid h'
  obtain ⟨aa, acap, rfl, _⟩ := h
  obtain ⟨ba, bcap, rfl, _⟩ := h'
  have eg : ∀ args w, (callFunc 57 args).run Try.prog w = .ok (.enter 57 args) w := enters_of Try.func57 (by kernel_rfl) rfl
  obtain ⟨W0, hW⟩ : ∃ W0, (w.alloc (.cells [Value.slice aa a.length acap].toArray 24)).alloc (.cells [Value.slice ba b.length bcap].toArray 24) = W0 := ⟨_, rfl⟩
  have B0 : Below w.heap.size w W0 := by
    rw [← hW]
    exact ((Below.refl _ _).alloc (Nat.le_refl _) _).alloc (by simp) _
  have X0 : CellsAt W0 w.heap.size [Value.slice aa a.length acap] := by rw [← hW]; exact ca_alloc (ca_new _ _ _) _
  have Y0 : CellsAt W0 (w.heap.size + 1) [Value.slice ba b.length bcap] := by
    rw [← hW]
    have := ca_new (w.alloc (.cells [Value.slice aa a.length acap].toArray 24)) [Value.slice ba b.length bcap] 24
    simpa using this
  have hS := countWhile_any 57 #[.pointer (some ⟨w.heap.size, 0, none⟩), .pointer (some ⟨w.heap.size + 1, 0, none⟩)] (min a.length b.length) (fun i => Tb.sameAtB a b i i) W0 (by omega) eg
    (fun W hb i hi => by
      obtain ⟨c, hc⟩ : ∃ c, a[i]? = some c := ⟨_, List.getElem?_eq_getElem (by omega)⟩
      obtain ⟨d, hd⟩ : ∃ d, b[i]? = some d := ⟨_, List.getElem?_eq_getElem (by omega)⟩
      have bw : Below w.heap.size w W := B0.trans (hb.mono B0.size)
      have := ahead1_any w.heap.size (w.heap.size + 1) i _ _ a b c d W (ca_at (ca_below X0 hb) 0 rfl).1 (ca_at (ca_below Y0 hb) 0 rfl).1 (rdCh_below HA.out bw) (rdCh_below HB.out bw) hc hd
      rw [Tb.sameAt_is hc hd] at this
      exact this.mono fun _ _ ⟨he, n, hn⟩ => ⟨he, by rw [hn]; exact below_drewN (Below.refl _ _) n⟩)
  have HS := hid hS
  have HBB := hid B0
  have HX := hid X0
  have HY := hid Y0
  have HW := hid hW
  clear hS B0 X0 Y0 hW eg
  rw [← HW.out] at HS
  obtain ⟨M, hM⟩ : ∃ M, min a.length b.length = M := ⟨_, rfl⟩
  rw [hM] at HS
  have HM := hid hM
  clear hM
  by_cases q : (b.length : Int) < a.length
  case' pos => obtain rfl : b.length = M := by rw [← HM.out]; omega
  case' neg => obtain rfl : a.length = M := by rw [← HM.out]; omega
  all_goals
    go_enter Try.func37, Try.ntmps37
    go_wp2_with fail
    with_reducible refine HS.out.mono ?_
    rintro e w1 ⟨k, rfl, hr, hb⟩
    go_wp2
    rw [HW.out] at hb
    go_ret
    refine ⟨k, rfl, ⟨by have := hr.le; omega, by have := hr.le; omega, fun i hi => of_decide_eq_true (hr.all i hi), fun q1 q2 => of_decide_eq_false (hr.stop (by omega))⟩, HBB.out.trans (hb.mono HBB.out.size)⟩

/- what both have behind -/
structure Tb.IsEnd (a b : List Tb.Cg) (s : Nat) : Prop where
  la : s ≤ a.length
  lb : s ≤ b.length
  same : ∀ i, i < s → a[a.length - 1 - i]? = b[b.length - 1 - i]?
  stop : s < a.length → s < b.length → ¬ a[a.length - 1 - s]? = b[b.length - 1 - s]?
set_option maxRecDepth 100000 in
set_option maxHeartbeats 2000000 in
theorem sameBehind_any (a b : List Tb.Cg) (u v : Value) (w : World) (h : RdCh w u a) (h' : RdCh w v b) (la : a.length ≤ 1000000) (lb : b.length ≤ 1000000) :
    Calls Try.prog 38 #[u, v] w fun e w' => ∃ k : Nat, e = .returned (.int .i64 k) ∧ Tb.IsEnd a b k ∧ Below w.heap.size w w' := by
  have HA := hid h
  have HB := hid h'
  obtain ⟨aa, acap, rfl, _⟩ := h
  obtain ⟨ba, bcap, rfl, _⟩ := h'
  have eg : ∀ args w, (callFunc 58 args).run Try.prog w = .ok (.enter 58 args) w := enters_of Try.func58 (by kernel_rfl) rfl
  obtain ⟨W0, hW⟩ : ∃ W0, (w.alloc (.cells [Value.slice aa a.length acap].toArray 24)).alloc (.cells [Value.slice ba b.length bcap].toArray 24) = W0 := ⟨_, rfl⟩
  have B0 : Below w.heap.size w W0 := by
    rw [← hW]
    exact ((Below.refl _ _).alloc (Nat.le_refl _) _).alloc (by simp) _
  have X0 : CellsAt W0 w.heap.size [Value.slice aa a.length acap] := by rw [← hW]; exact ca_alloc (ca_new _ _ _) _
  have Y0 : CellsAt W0 (w.heap.size + 1) [Value.slice ba b.length bcap] := by
    rw [← hW]
    have := ca_new (w.alloc (.cells [Value.slice aa a.length acap].toArray 24)) [Value.slice ba b.length bcap] 24
    simpa using this
  have hS := countWhile_any 58 #[.pointer (some ⟨w.heap.size, 0, none⟩), .pointer (some ⟨w.heap.size + 1, 0, none⟩)] (min a.length b.length) (fun i => Tb.sameAtB a b (a.length - 1 - i) (b.length - 1 - i)) W0 (by omega) eg
    (fun W hb i hi => by
      obtain ⟨c, hc⟩ : ∃ c, a[a.length - 1 - i]? = some c := ⟨_, List.getElem?_eq_getElem (by omega)⟩
      obtain ⟨d, hd⟩ : ∃ d, b[b.length - 1 - i]? = some d := ⟨_, List.getElem?_eq_getElem (by omega)⟩
      have bw : Below w.heap.size w W := B0.trans (hb.mono B0.size)
      have := behind1_any w.heap.size (w.heap.size + 1) i _ _ a b c d W (ca_at (ca_below X0 hb) 0 rfl).1 (ca_at (ca_below Y0 hb) 0 rfl).1 (rdCh_below HA.out bw) (rdCh_below HB.out bw) (by omega) (by omega) la lb hc hd
      rw [Tb.sameAt_is hc hd] at this
      exact this.mono fun _ _ ⟨he, n, hn⟩ => ⟨he, by rw [hn]; exact below_drewN (Below.refl _ _) n⟩)
  have HS := hid hS
  have HBB := hid B0
  have HX := hid X0
  have HY := hid Y0
  have HW := hid hW
  clear hS B0 X0 Y0 hW eg
  rw [← HW.out] at HS
  obtain ⟨M, hM⟩ : ∃ M, min a.length b.length = M := ⟨_, rfl⟩
  rw [hM] at HS
  have HM := hid hM
  clear hM
  by_cases q : (b.length : Int) < a.length
  case' pos => obtain rfl : b.length = M := by rw [← HM.out]; omega
  case' neg => obtain rfl : a.length = M := by rw [← HM.out]; omega
  all_goals
    go_enter Try.func38, Try.ntmps38
    go_wp2_with fail
    with_reducible refine HS.out.mono ?_
    rintro e w1 ⟨k, rfl, hr, hb⟩
    go_wp2
    rw [HW.out] at hb
    go_ret
    refine ⟨k, rfl, ⟨by have := hr.le; omega, by have := hr.le; omega, fun i hi => of_decide_eq_true (hr.all i hi), fun q1 q2 => of_decide_eq_false (hr.stop (by omega))⟩, HBB.out.trans (hb.mono HBB.out.size)⟩
/- what is the same behind, of what is left behind what is the same ahead -/
theorem Tb.suf_of_end {a b : List Tb.Cg} {h s : Nat} (ha : h ≤ a.length) (hb : h ≤ b.length) (e : Tb.IsEnd (a.drop h) (b.drop h) s) : Tb.IsSuf a b h s := by
  have l1 := e.la
  have l2 := e.lb
  rw [List.length_drop] at l1 l2
  have g : ∀ (l : List Tb.Cg) (i : Nat), h ≤ l.length → i < l.length - h → (l.drop h)[(l.drop h).length - 1 - i]? = l[l.length - 1 - i]? := fun l i hl hi => by
    rw [List.getElem?_drop, List.length_drop]
    congr 1
    omega
  refine ⟨by omega, by omega, fun i hi => ?_, fun q1 q2 => ?_⟩
  · have := e.same i hi
    rwa [g a i ha (by omega), g b i hb (by omega)] at this
  · have := e.stop (by rw [List.length_drop]; omega) (by rw [List.length_drop]; omega)
    rwa [g a s ha (by omega), g b s hb (by omega)] at this
end Go.Proofs.Ytombhnjmelidcaa
