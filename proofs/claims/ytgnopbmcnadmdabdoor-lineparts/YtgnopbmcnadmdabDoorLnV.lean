/- The contracts of the deferred function that recovers. -/
import Derived.Test.YtgnopbmcnadmdabDoorLnB
import Derived.Defers
import Derived.Recover
namespace Go.Proofs.YtgnopbmcnadmdabDoor
open Go.RowKit
set_option linter.unusedVariables false
set_option linter.unusedSimpArgs false

theorem ta_nil (w : World) : (Instr.typeAssert Value.nilIface 20 45 true).run Tryd.prog w = .ok (.tuple #[.agg #[.int .i64 0, .int .i64 0], .bool false]) w := by rfl
theorem ta_fault (n e : Int) (w : World) : (Instr.typeAssert (faultV n e) 20 45 true).run Tryd.prog w = .ok (.tuple #[.agg #[.int .i64 n, .int .i64 e], .bool true]) w := by rfl
set_option maxHeartbeats 1000000 in
theorem catch_idle (p q : Addr) (w : World) :
    CallsD Tryd.prog 21 #[.pointer (some p), .pointer (some q)] .returning w fun e u' w' => e = .returned (.tuple #[]) ∧ u' = .returning ∧ w' = w.alloc (.cells #[.int .i64 0, .int .i64 0] 45) := by
  refine callsD_of_wpS Tryd.func21 rfl fun c₀ cs hu => ?_
  apply wpS_seq
  apply wpS_region
  have h1 := ta_nil
  simp [wpOpsS, go_sem, recoverD, hu, Tryd.ntmps21, Exit.thenS, h1]
  refine wpS_of_wp ?_
  go_wp2
  cases c₀
  simp_all [bodyPostS, results, Tryd.results21]

set_option maxHeartbeats 1000000 in
theorem catch_fault (bp bq : Nat) (n e x y : Int) (older : List PanicEntry) (w : World) (cp : w.cell? ⟨bp, 0, none⟩ = some (.int .i64 x)) (zp : w.frozen? ⟨bp, 0, none⟩ = false) (cq : w.cell? ⟨bq, 0, none⟩ = some (.int .i64 y)) (zq : w.frozen? ⟨bq, 0, none⟩ = false) (hp : bp < w.heap.size) (hq : bq < w.heap.size) (hpq : bp ≠ bq) :
    CallsD Tryd.prog 21 #[.pointer (some ⟨bp, 0, none⟩), .pointer (some ⟨bq, 0, none⟩)] (.panicking ({ v := faultV n e, recovered := false } :: older)) w fun x u' w' =>
      x = .returned (.tuple #[]) ∧ u' = .panicking ({ v := faultV n e, recovered := true } :: older) ∧ w' = (((w.setCell ⟨bp, 0, none⟩ (.int .i64 n)).setCell ⟨bq, 0, none⟩ (.int .i64 e)).alloc (.cells #[.int .i64 n, .int .i64 e] 45)).drew := by
  refine callsD_of_wpS Tryd.func21 rfl fun c₀ cs hu => ?_
  apply wpS_seq
  apply wpS_region
  have h1 := ta_fault n e
  simp [wpOpsS, go_sem, recoverD, hu, Tryd.ntmps21, Exit.thenS, h1]
  refine wpS_of_wp ?_
  have hr : Array.replicate 12 undef = #[undef, undef, undef, undef, undef, undef, undef, undef, undef, undef, undef, undef] := rfl
  simp only [hr, List.setIfInBounds_toArray, List.set_cons_zero, List.set_cons_succ, List.append_toArray, List.cons_append, List.nil_append]
  clear h1
  have hne1 : ¬ w.heap.size = bp := by omega
  have hne2 : ¬ w.heap.size = bq := by omega
  have hne3 : ¬ bp = w.heap.size := by omega
  have hne4 : ¬ bq = w.heap.size := by omega
  have hne5 : ¬ bq = bp := by omega
  go_wp2_with fail
  go_region
  change bodyPostS _ _ _ _ _ _ _ _ _
  cases c₀
  simp_all [bodyPostS, results, Tryd.results21]

set_option maxHeartbeats 1000000 in
theorem attempt_of (g : Nat) (c1 c2 : Value) (w : World) (Ra : World → Prop) (Rb : Int → Int → World → Prop) (hg : ∀ a w, (callFunc g a).run Tryd.prog w = .ok (.enter g a) w)
    (H : Hid (Calls Tryd.prog g #[c1, c2] ((w.alloc (.cells #[.int .i64 0] 3)).alloc (.cells #[.int .i64 4] 24)) fun x w' =>
      (w.heap.size + 1 < w'.heap.size ∧ w'.cell? ⟨w.heap.size, 0, none⟩ = some (.int .i64 0) ∧ w'.cell? ⟨w.heap.size + 1, 0, none⟩ = some (.int .i64 4) ∧ w'.frozen? ⟨w.heap.size, 0, none⟩ = false ∧ w'.frozen? ⟨w.heap.size + 1, 0, none⟩ = false) ∧
      ((x = .returned (.tuple #[]) ∧ Ra w') ∨ (∃ n e, x = .panicked [{ v := faultV n e, recovered := false }] ∧ Rb n e w')))) :
    Calls Tryd.prog 13 #[.func (.func g) #[] #[c1, c2]] w fun x w' =>
      (∃ w1, Ra w1 ∧ x = .returned (.tuple #[.int .i64 0, .int .i64 0]) ∧ w' = ((w1.setCell ⟨w.heap.size, 0, none⟩ (.int .i64 0)).setCell ⟨w.heap.size + 1, 0, none⟩ (.int .i64 0)).alloc (.cells #[.int .i64 0, .int .i64 0] 45)) ∨
      (∃ n e w1, Rb n e w1 ∧ x = .returned (.tuple #[.int .i64 n, .int .i64 e]) ∧ w' = (((w1.setCell ⟨w.heap.size, 0, none⟩ (.int .i64 n)).setCell ⟨w.heap.size + 1, 0, none⟩ (.int .i64 e)).alloc (.cells #[.int .i64 n, .int .i64 e] 45)).drew) := by
  have hmf : ∀ (fn : Fn) (first cap : Array Value) (w : World), (Instr.makeFunc fn first cap).run Tryd.prog w = .ok (.func fn first cap) w := fun _ _ _ _ => rfl
  go_enter_defers Tryd.func13, Tryd.ntmps13
  go_wp2_with fail
  refine H.out.mono ?_
  rintro x w1 ⟨⟨hs, k1, k2, z1, z2⟩, hO⟩
  rcases hO with ⟨rfl, ha⟩ | ⟨n, e, rfl, hb⟩
  · go_wp2
    refine leaves_cons (f := 21) (args := #[.pointer (some ⟨w.heap.size, 0, none⟩), .pointer (some ⟨w.heap.size + 1, 0, none⟩)]) (by simp) (by simp [go_sem]) ?_
    refine (catch_idle _ _ _).mono ?_
    rintro x u' w'' ⟨rfl, rfl, rfl⟩
    simp [Leaves, settle, results, Tryd.results13, go_sem, k1, k2, z1, z2, hs, Nat.lt_of_succ_lt hs]
    exact .inl ⟨w1, ha, rfl⟩
  · have hs' := Nat.lt_of_succ_lt hs
    change bodyPostD _ _ _ (Exit.panic _) _ _
    refine leaves_cons (f := 21) (args := #[.pointer (some ⟨w.heap.size, 0, none⟩), .pointer (some ⟨w.heap.size + 1, 0, none⟩)]) (by simp) (by simp [go_sem]) ?_
    refine (catch_fault _ _ n e 0 4 [] _ k1 z1 k2 z2 hs' hs (by omega)).mono ?_
    rintro x u' w'' ⟨rfl, rfl, rfl⟩
    simp [Leaves, settle, results, Tryd.results13, go_sem, k1, k2, z1, z2, hs, hs']
    exact .inr ⟨n, e, w1, hb, ⟨rfl, rfl⟩, rfl⟩
end Go.Proofs.YtgnopbmcnadmdabDoor
