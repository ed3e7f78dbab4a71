/- The contracts of the reader's function literals: a kind more, and which kind it is. -/
import Derived.Test.YtombhnjmelidcaaWdB
import Derived.Test.YtombhnjmelidcaaWeD
import Derived.Deep.RegionHeld3
namespace Go.Proofs.Ytombhnjmelidcaa
open Go.RowKit
set_option linter.unusedVariables false
set_option linter.unusedSimpArgs false

theorem left_over {p : Prop} (h : p) (P : Program) (a : Act) (w : World) : wpAny P .any #[] (fun _ _ _ => True) 0 #[] a w → p := fun _ => h
theorem rlocal_yes (r : Nat) (s s' : Tx.Bs) (l : Tb.Lc) (w : World) (h : Rr w r s) (hs : s.length ≤ maxLen) (hp : Wr.pLoc s = some (l, s')) :
    Calls Try.prog 47 #[.pointer (some ⟨r, 0, none⟩)] w fun e w' => e = .returned (lcV l) ∧ Rr w' r s' ∧ w.grownBy w' (some r) := by
  refine (rlocal_any r s w h hs).mono ?_
  rintro e w' ⟨hg, ⟨l1, s1, h1, h2, h3⟩ | ⟨h1, _⟩⟩
  · rw [hp] at h1
    simp at h1
    obtain ⟨rfl, rfl⟩ := h1
    exact ⟨h2, h3, hg⟩
  · rw [hp] at h1; cases h1
theorem rlocal_no (r : Nat) (s : Tx.Bs) (w : World) (h : Rr w r s) (hs : s.length ≤ maxLen) (hp : Wr.pLoc s = none) :
    Calls Try.prog 47 #[.pointer (some ⟨r, 0, none⟩)] w fun e w' => e = gaveUp ∧ w.grownBy w' (some r) := by
  refine (rlocal_any r s w h hs).mono ?_
  rintro e w' ⟨hg, ⟨l1, s1, h1, h2, h3⟩ | ⟨h1, h2⟩⟩
  · rw [hp] at h1; cases h1
  · exact ⟨h2, hg⟩
theorem step_local {ops : Array Oper} {o : Oper} {a : Act} {w : World} {K : Act → World → Prop} {Q : Exit → Act → World → Prop} {E : Prop}
    (hg : o.guard = none) (x : Operand) (t : TypeId) (hop : o.op = Op.call { callee := Callee.value (Operand.func 47), args := #[x], argTypes := #[t] })
    (vx : Value) (hx : a.eval x = vx) {v : Value} {C : World → Prop} (hc : Calls Try.prog 47 #[vx] w fun e w' => e = .returned v ∧ C w') (hK : ∀ w', C w' → K (a.put o.dst v) w') :
    if Region.wanted o (yielded ops a.tmps) = true then Oper.wp Try.prog o a w K Q else E := by
  have hw : Region.wanted o (yielded ops a.tmps) = true := by simp [Region.wanted, hg]
  rw [if_pos hw]
  unfold Oper.wp
  simp only [execOp, hop, resolve, invoke, Sem.run_bind, List.map_toArray, List.map_cons, List.map_nil, hx]
  have e : Oper.upon Try.prog o a K Q (.ok (.enter 47 #[vx]) w) := by
    rw [Oper.upon_enter]
    exact hc.mono (by rintro e w' ⟨rfl, h⟩; exact hK w' h)
  go_simp
structure TS (w : World) (r N : Nat) (s : Tx.Bs) (ks : List Tb.Lc) (kv : Value) : Prop where
  rd : Rr w r s
  pb : CellsAt w N [.pointer (some ⟨r, 0, none⟩)]
  res : CellsAt w (N + 1) (tbC ⟨0, 0, []⟩ (.slice none 0 0))
  k : CellsAt w (N + 1 + 1) [kv]
  own : OwnLc w (N + 1 + 1 + 1) kv ks
  lt : r < N
theorem ts_grown {w w' : World} {r N : Nat} {s s' : Tx.Bs} {ks : List Tb.Lc} {kv : Value} (h : TS w r N s ks kv) (hg : w.grownBy w' (some r)) (hr : Rr w' r s') : TS w' r N s' ks kv :=
  have := h.lt
  ⟨hr, ca_grown h.pb hg (by omega), ca_grown h.res hg (by omega), ca_grown h.k hg (by omega), h.own.kept hg (.inr (fun q => by have := (h.own.lt _ q).1; omega)), h.lt⟩
theorem below_grownR {w w' : World} {r : Nat} (hg : w.grownBy w' (some r)) (hr : r < w.heap.size) : Below r w w' := ⟨hg.os, hg.tape, hg.output, hg.size, fun k hk => hg.block k (by omega) (by simp; omega)⟩
abbrev two1 (K N : Nat) (kv : Value) (r : Nat) (w : World) : Prop := w.cell? ⟨K, 0, none⟩ = some kv ∧ w.cell? ⟨N, 0, none⟩ = some (.pointer (some ⟨r, 0, none⟩))
theorem ts_two {w : World} {r N : Nat} {s : Tx.Bs} {ks : List Tb.Lc} {kv : Value} (h : TS w r N s ks kv) : two1 (N + 1 + 1) N kv r w := ⟨(ca_at h.k 0 rfl).1, (ca_at h.pb 0 rfl).1⟩
set_option maxRecDepth 100000 in
set_option maxHeartbeats 4000000 in
theorem more_no (r N : Nat) (s : Tx.Bs) (ks : List Tb.Lc) (kv : Value) (w : World) (h : TS w r N s ks kv) (hs : s.length ≤ maxLen) (hp : Wr.pLoc s = none) :
    Calls Try.prog 46 #[.pointer (some ⟨N + 1 + 1, 0, none⟩), .pointer (some ⟨N, 0, none⟩)] w fun e w' => e = gaveUp ∧ Below r w w' := by
  obtain ⟨ka, kcap, rfl⟩ := lc_shape h.own
  have H := hid h
  have C := rlocal_no r s w.drew h.rd hs hp
  obtain ⟨k0, _⟩ := ca_at h.k 0 rfl
  obtain ⟨p0, _⟩ := ca_at h.pb 0 rfl
  have sk := h.k.1
  have sp := h.pb.1
  have sr := h.rd.1
  clear h
  go_enter Try.func46, Try.ntmps46
  go_wp2_with fail
  go_region_with (go_at_call 47; refine C.mono ?_; rintro e w1 ⟨rfl, hg⟩; refine left_over ⟨rfl, rfl, below_grownR (show World.grownBy w w1 (some r) from ⟨hg.os, hg.tape, hg.output, hg.size, hg.block⟩) sr⟩ Try.prog ⟨#[], []⟩ w ?_)
  all_goals trivial
/- a kind behind those that are there -/
theorem ts_app {w w3 : World} {r N n : Nat} {s : Tx.Bs} {ks : List Tb.Lc} {l : Tb.Lc} {kv v' : Value} {o : Obj} (h : TS w r N s ks kv) (ho : w3.ownsRow (N + 1 + 1 + 1) 23 3 v' n (ks.flatMap lcCells ++ lcCells l)) (hg : (w.alloc o).grownBy w3 kv.ownBlock) :
    ∃ va vcap, v' = .slice va n vcap ∧ Hid (TS (w3.setCell ⟨N + 1 + 1, 0, none⟩ v') r N s (ks ++ [l]) v' ∧ Below r w (w3.setCell ⟨N + 1 + 1, 0, none⟩ v')) ∧ w3.cell? ⟨N + 1 + 1, 0, none⟩ = some kv ∧ w3.frozen? ⟨N + 1 + 1, 0, none⟩ = false ∧ N + 1 + 1 < w3.heap.size := by
  obtain ⟨va, vcap, e⟩ := owns_shape0 ho
  have lt := h.lt
  have ne : ∀ Y, Y < N + 1 + 1 + 1 → ∀ k, kv.ownBlock = some k → k ≠ Y := fun Y hY k hk => by have := (h.own.lt k hk).1; omega
  have k3 := ca_grownO (ca_alloc h.k o) hg (ne _ (by omega))
  have hn : n = (ks ++ [l]).length := by
    have := ho.1
    have e1 : (ks.flatMap lcCells ++ lcCells l) = (ks ++ [l]).flatMap lcCells := by simp
    rw [e1] at this
    have e2 : ((ks ++ [l]).flatMap lcCells).length = (ks ++ [l]).length * 3 := by
      generalize ks ++ [l] = q
      induction q with
      | nil => rfl
      | cons x r ih => rw [List.flatMap_cons, List.length_append, ih, lcCells_len]; simp; omega
    omega
  have o3 : OwnLc w3 (N + 1 + 1 + 1) v' (ks ++ [l]) := by
    show World.ownsRow _ _ _ _ _ _ _
    rw [← hn]
    simpa using ho
  refine ⟨va, vcap, e, ⟨⟨ca_far (ca_grownO (ca_alloc h.rd o) hg (ne _ (by omega))) (by omega), ca_far (ca_grownO (ca_alloc h.pb o) hg (ne _ (by omega))) (by omega), ca_far (ca_grownO (ca_alloc h.res o) hg (ne _ (by omega))) (by omega), ca_put k3 0 v' (by simp), ownsRow_setCell_other o3 (fun q => by have := (o3.lt _ q).1; simp only at this; omega) _, lt⟩, ?_⟩, (ca_at k3 0 rfl).1, (ca_at k3 0 rfl).2, k3.1⟩
  refine below_set ?_ (by omega) _
  exact Below.grown ((Below.refl r w).alloc (Nat.le_of_lt h.rd.1) o) hg (by have := h.rd.1; simp; omega) (fun k hk => by have := (h.own.lt k hk).1; omega)
set_option maxRecDepth 100000 in
set_option maxHeartbeats 4000000 in
theorem more_yes (r N : Nat) (s s' : Tx.Bs) (l : Tb.Lc) (ks : List Tb.Lc) (kv : Value) (w : World) (h : TS w r N s ks kv) (hs : s.length ≤ maxLen) (hp : Wr.pLoc s = some (l, s')) (hn : ks.length ≤ 100000) :
    Calls Try.prog 46 #[.pointer (some ⟨N + 1 + 1, 0, none⟩), .pointer (some ⟨N, 0, none⟩)] w fun e w' => ∃ kv', e = .returned (.tuple #[]) ∧ TS w' r N s' (ks ++ [l]) kv' ∧ Below r w w' := by
  obtain ⟨i0, hi, hz0, hz1, hz2⟩ := info_parts Try.infoLc
  obtain ⟨ka, kcap, rfl⟩ := lc_shape h.own
  have H := hid h
  have C := rlocal_yes r s s' l w.drew h.rd hs hp
  have T2 := ts_two h
  have T2d : two1 (N + 1 + 1) N (.slice ka ks.length kcap) r w.drew := T2
  obtain ⟨k0, kf⟩ := ca_at h.k 0 rfl
  obtain ⟨p0, _⟩ := ca_at h.pb 0 rfl
  have sk := h.k.1
  have sp := h.pb.1
  have sr := h.rd.1
  have lt := h.lt
  clear h
  go_enter Try.func46, Try.ntmps46
  go_wp2_with fail
  go_region_law (first | (refine step_append_own rfl (.tmp 2) (.tmp 5) 68 rfl (N + 1 + 1 + 1) 23 i0 (.agg #[.int .i64 0, .int .i64 0, .string ⟨#[]⟩]) 3 32 Try.underlying68 hi hz0 hz1 hz2 rfl (by decide) _ _ _ (by simp [Act.eval, Act.put]) (World.ownsRow.alloc S1.out.own _) _ 1 1 (lcCells l) (by simp [Act.eval, Act.put]) rfl (three_cells' _ _ _ _) (lc_one l) (by unfold maxLen; omega) (by omega) (by have := S1.out.k.1; simp; omega) ?_; intro v' w6 hown' hgrow; obtain ⟨va', vcap', e', S6, c6, f6, s6⟩ := ts_app S1.out hown' ⟨hgrow.os, hgrow.tape, hgrow.output, hgrow.size, hgrow.block⟩; subst e'; clear hown' hgrow) | (refine step_local rfl (.tmp 3) 62 rfl _ (by simp [Act.eval, Act.put]) C ?_; rintro w1 ⟨R1, G1⟩; have S1 := hid (ts_grown H.out (show World.grownBy w w1 (some r) from ⟨G1.os, G1.tape, G1.output, G1.size, G1.block⟩) R1); have B1 := hid (below_grownR (show World.grownBy w w1 (some r) from ⟨G1.os, G1.tape, G1.output, G1.size, G1.block⟩) sr); obtain ⟨m0, m1⟩ := ts_two S1.out; have sk1 := S1.out.k.1; have sp1 := S1.out.pb.1; clear R1 G1))
  all_goals
    go_wp2
    go_end0
    exact ⟨_, rfl, S6.out.1, B1.out.trans (S6.out.2)⟩
end Go.Proofs.Ytombhnjmelidcaa
