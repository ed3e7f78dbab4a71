/- Attempt, its deferred function, and what Decode attempts. -/
import Derived.Test.YtombhnjmelidcaaWdG
import Derived.Defers
import Derived.Recover
namespace Go.Proofs.Ytombhnjmelidcaa
open Go.RowKit
set_option linter.unusedVariables false
set_option linter.unusedSimpArgs false

set_option maxRecDepth 100000 in
theorem ta_nil (w : World) : (Instr.typeAssert Value.nilIface 20 84 true).run Try.prog w = .ok (.tuple #[.agg #[.int .i64 0, .int .i64 0], .bool false]) w := by rfl
set_option maxRecDepth 100000 in
theorem ta_fault (n e : Int) (w : World) : (Instr.typeAssert (faultV n e) 20 84 true).run Try.prog w = .ok (.tuple #[.agg #[.int .i64 n, .int .i64 e], .bool true]) w := by rfl
set_option maxHeartbeats 1000000 in
theorem catch_idle (p q : Addr) (w : World) :
    CallsD Try.prog 44 #[.pointer (some p), .pointer (some q)] .returning w fun e u' w' => e = .returned (.tuple #[]) ∧ u' = .returning ∧ w' = w.alloc (.cells #[.int .i64 0, .int .i64 0] 84) := by
  refine callsD_of_wpS Try.func44 rfl fun c₀ cs hu => ?_
  apply wpS_seq
  apply wpS_region
  have h1 := ta_nil
  simp [wpOpsS, go_sem, recoverD, hu, Try.ntmps44, Exit.thenS, h1]
  refine wpS_of_wp ?_
  go_wp2
  cases c₀
  simp_all [bodyPostS, results, Try.results44]

set_option maxHeartbeats 1000000 in
theorem catch_fault (bp bq : Nat) (n e x y : Int) (older : List PanicEntry) (w : World) (cp : w.cell? ⟨bp, 0, none⟩ = some (.int .i64 x)) (zp : w.frozen? ⟨bp, 0, none⟩ = false) (cq : w.cell? ⟨bq, 0, none⟩ = some (.int .i64 y)) (zq : w.frozen? ⟨bq, 0, none⟩ = false) (hp : bp < w.heap.size) (hq : bq < w.heap.size) (hpq : bp ≠ bq) :
    CallsD Try.prog 44 #[.pointer (some ⟨bp, 0, none⟩), .pointer (some ⟨bq, 0, none⟩)] (.panicking ({ v := faultV n e, recovered := false } :: older)) w fun x u' w' =>
      x = .returned (.tuple #[]) ∧ u' = .panicking ({ v := faultV n e, recovered := true } :: older) ∧ w' = (((w.setCell ⟨bp, 0, none⟩ (.int .i64 n)).setCell ⟨bq, 0, none⟩ (.int .i64 e)).alloc (.cells #[.int .i64 n, .int .i64 e] 84)).drew := by
  refine callsD_of_wpS Try.func44 rfl fun c₀ cs hu => ?_
  apply wpS_seq
  apply wpS_region
  have h1 := ta_fault n e
  simp [wpOpsS, go_sem, recoverD, hu, Try.ntmps44, Exit.thenS, h1]
  refine wpS_of_wp ?_
  have hr : Array.replicate 12 undef = #[undef, undef, undef, undef, undef, undef, undef, undef, undef, undef, undef, undef] := rfl
  simp only [hr, List.setIfInBounds_toArray, List.set_cons_zero, List.set_cons_succ, List.append_toArray, List.cons_append, List.nil_append]
  clear h1
  have hne1 : ¬ w.heap.size = bp := by omega
  have hne2 : ¬ w.heap.size = bq := by omega
  have hne3 : ¬ bp = w.heap.size := by omega
  have hne4 : ¬ bq = w.heap.size := by omega
  have hne5 : ¬ bq = bp := by omega
  go_wp2_with fail
  go_region
  change bodyPostS _ _ _ _ _ _ _ _ _
  cases c₀
  simp_all [bodyPostS, results, Try.results44]

set_option maxHeartbeats 1000000 in
theorem attempt_of (g : Nat) (c1 c2 : Value) (w : World) (Ra : World → Prop) (Rb : Int → Int → World → Prop) (hg : ∀ a w, (callFunc g a).run Try.prog w = .ok (.enter g a) w)
    (H : Hid (Calls Try.prog g #[c1, c2] ((w.alloc (.cells #[.int .i64 0] 3)).alloc (.cells #[.int .i64 4] 28)) fun x w' =>
      (w.heap.size + 1 < w'.heap.size ∧ w'.cell? ⟨w.heap.size, 0, none⟩ = some (.int .i64 0) ∧ w'.cell? ⟨w.heap.size + 1, 0, none⟩ = some (.int .i64 4) ∧ w'.frozen? ⟨w.heap.size, 0, none⟩ = false ∧ w'.frozen? ⟨w.heap.size + 1, 0, none⟩ = false) ∧
      ((x = .returned (.tuple #[]) ∧ Ra w') ∨ (∃ n e, x = .panicked [{ v := faultV n e, recovered := false }] ∧ Rb n e w')))) :
    Calls Try.prog 27 #[.func (.func g) #[] #[c1, c2]] w fun x w' =>
      (∃ w1, Ra w1 ∧ x = .returned (.tuple #[.int .i64 0, .int .i64 0]) ∧ w' = ((w1.setCell ⟨w.heap.size, 0, none⟩ (.int .i64 0)).setCell ⟨w.heap.size + 1, 0, none⟩ (.int .i64 0)).alloc (.cells #[.int .i64 0, .int .i64 0] 84)) ∨
      (∃ n e w1, Rb n e w1 ∧ x = .returned (.tuple #[.int .i64 n, .int .i64 e]) ∧ w' = (((w1.setCell ⟨w.heap.size, 0, none⟩ (.int .i64 n)).setCell ⟨w.heap.size + 1, 0, none⟩ (.int .i64 e)).alloc (.cells #[.int .i64 n, .int .i64 e] 84)).drew) := by
  have hmf : ∀ (fn : Fn) (first cap : Array Value) (w : World), (Instr.makeFunc fn first cap).run Try.prog w = .ok (.func fn first cap) w := fun _ _ _ _ => rfl
  go_enter_defers Try.func27, Try.ntmps27
  go_wp2_with fail
  refine H.out.mono ?_
  rintro x w1 ⟨⟨hs, k1, k2, z1, z2⟩, hO⟩
  rcases hO with ⟨rfl, ha⟩ | ⟨n, e, rfl, hb⟩
  · go_wp2
    refine leaves_cons (f := 44) (args := #[.pointer (some ⟨w.heap.size, 0, none⟩), .pointer (some ⟨w.heap.size + 1, 0, none⟩)]) (by simp) (by simp [go_sem]) ?_
    refine (catch_idle _ _ _).mono ?_
    rintro x u' w'' ⟨rfl, rfl, rfl⟩
    simp [Leaves, settle, results, Try.results27, go_sem, k1, k2, z1, z2, hs, Nat.lt_of_succ_lt hs]
    exact .inl ⟨w1, ha, rfl⟩
  · have hs' := Nat.lt_of_succ_lt hs
    change bodyPostD _ _ _ (Exit.panic _) _ _
    refine leaves_cons (f := 44) (args := #[.pointer (some ⟨w.heap.size, 0, none⟩), .pointer (some ⟨w.heap.size + 1, 0, none⟩)]) (by simp) (by simp [go_sem]) ?_
    refine (catch_fault _ _ n e 0 4 [] _ k1 z1 k2 z2 hs' hs (by omega)).mono ?_
    rintro x u' w'' ⟨rfl, rfl, rfl⟩
    simp [Leaves, settle, results, Try.results27, go_sem, k1, k2, z1, z2, hs, hs']
    exact .inr ⟨n, e, w1, hb, ⟨rfl, rfl⟩, rfl⟩

/- what Decode attempts -/
set_option maxRecDepth 100000 in
set_option maxHeartbeats 2000000 in
theorem work_any (S T : Nat) (s : Tx.Bs) (w : World) (h1 : CellsAt w S [strV s]) (h2 : CellsAt w T (tbC ⟨0, 0, []⟩ (.slice none 0 0))) (hs : s.length ≤ maxLen) :
    Calls Try.prog 28 #[.pointer (some ⟨S, 0, none⟩), .pointer (some ⟨T, 0, none⟩)] w fun e w' => w.grownBy w' (some T) ∧ ((∃ t cv, Wr.parse s = some t ∧ e = .returned (.tuple #[]) ∧ CellsAt w' T (tbC t.first cv) ∧ OwnCh w' w.heap.size cv t.ch ∧ Short t) ∨ (Wr.parse s = none ∧ e = gaveUp)) := by
  obtain ⟨s0, _⟩ := ca_at h1 0 rfl
  have ss := h1.1
  have H2 := hid h2
  obtain ⟨r, hr⟩ : ∃ r, w.heap.size = r := ⟨_, rfl⟩
  obtain ⟨W, hW⟩ : ∃ W, w.alloc (.cells #[strV s] 64) = W := ⟨_, rfl⟩
  have R0 : Rr W r s := by rw [← hW, ← hr]; exact ca_new w [strV s] 64
  have B0 : Hid (Below r w W) := by rw [← hW, ← hr]; exact (Below.refl _ _).alloc (Nat.le_refl _) _
  have C := hid (rtable_any r s W R0 hs)
  have hT : T < r := by rw [← hr]; exact h2.1
  clear h1 h2 R0 hs
  go_enter Try.func28, Try.ntmps28
  go_wp2_with fail
  refine C.out.mono ?_
  rintro e w1 ⟨hb, ⟨t, cv, hp, rfl, ho, hS⟩ | ⟨hp, rfl⟩⟩
  case inr =>
    have B1 := B0.out.trans hb
    exact ⟨rfl, ⟨B1.os, B1.tape, B1.output, B1.size, fun k hk _ => B1.block k (by rw [← hr]; exact hk)⟩, .inr ⟨hp, rfl⟩⟩
  have B1 := B0.out.trans hb
  have G1 : Hid (w.grownBy w1 (some T)) := ⟨B1.os, B1.tape, B1.output, B1.size, fun k hk _ => B1.block k (by rw [← hr]; exact hk)⟩
  have T1 : Hid (CellsAt w1 T (tbC ⟨0, 0, []⟩ (.slice none 0 0))) := ca_block H2.out (by have := B1.size; omega) (B1.block T hT)
  obtain ⟨ca, cc, rfl⟩ := owns_shape0 ho
  obtain ⟨n, hn⟩ : ∃ n, t.ch.length = n := ⟨_, rfl⟩
  have HO : Hid (OwnCh w1 r (.slice ca n cc) t.ch) := by rw [← hn]; exact ho
  rw [hn]
  have HPP := hid hp
  have HSS := hid hS
  have HR := hid hr
  clear hp ho hS hn B1 hb C H2 s0 ss hW
  obtain ⟨-, ⟨t0, t1, t2, t3⟩, ⟨f0, f1, f2, f3⟩, st⟩ := res4' T1.out
  clear hr
  go_wp2
  go_end0
  refine ⟨?_, .inl ⟨t, .slice ca n cc, HPP.out, rfl, ?_, ?_, HSS.out⟩⟩
  · repeat (refine grown_set ?_ _ _)
    exact G1.out
  · exact ca_put (ca_put (ca_put (ca_put T1.out 0 _ (by simp)) 1 _ (by simp)) 2 _ (by simp)) 3 _ (by simp)
  · have ne : ∀ o, Value.ownBlock (.slice ca n cc) ≠ some (⟨T, o, none⟩ : Addr).block := by
      intro o q
      have := (HO.out.lt _ q).1
      simp only at this
      omega
    repeat (refine ownsRow_setCell_other ?_ (ne _) _)
    rw [HR.out]
    exact HO.out
end Go.Proofs.Ytombhnjmelidcaa
