/- The contract of the reader's third function literal: a change more. -/
import Derived.Test.YtombhnjmelidcaaWdD
import Derived.Test.YtombhnjmelidcaaTbG
import Derived.Shelf.Abstract
namespace Go.Proofs.Ytombhnjmelidcaa
open Go.RowKit Go.Shelf
set_option linter.unusedVariables false
set_option linter.unusedSimpArgs false

theorem kindEnters : ∀ args w, (callFunc 48 args).run Try.prog w = .ok (.enter 48 args) w := enters_of Try.func48 (by kernel_rfl) rfl
abbrev kindF (N : Nat) : Value := .func (.func 48) #[] #[.pointer (some ⟨N, 0, none⟩), .pointer (some ⟨N + 1 + 1, 0, none⟩)]
theorem step_kind {ops : Array Oper} {o : Oper} {a : Act} {w : World} {K : Act → World → Prop} {Q : Exit → Act → World → Prop} {E : Prop} {N : Nat}
    (hg : o.guard = none) (x : Operand) (hop : o.op = Op.call { callee := Callee.value x, args := #[], argTypes := #[] })
    (hx : a.eval x = kindF N) {v : Value} {C : World → Prop} (hc : Calls Try.prog 48 #[.pointer (some ⟨N, 0, none⟩), .pointer (some ⟨N + 1 + 1, 0, none⟩)] w fun e w' => e = .returned v ∧ C w') (hK : ∀ w', C w' → K (a.put o.dst v) w') :
    if Region.wanted o (yielded ops a.tmps) = true then Oper.wp Try.prog o a w K Q else E := by
  have hw : Region.wanted o (yielded ops a.tmps) = true := by simp [Region.wanted, hg]
  rw [if_pos hw]
  unfold Oper.wp
  have eg := kindEnters
  simp only [execOp, hop, resolve, invoke, Sem.run_bind, List.map_toArray, List.map_cons, List.map_nil, hx]
  have e : Oper.upon Try.prog o a K Q (.ok (.enter 48 #[.pointer (some ⟨N, 0, none⟩), .pointer (some ⟨N + 1 + 1, 0, none⟩)]) w) := by
    rw [Oper.upon_enter]
    exact hc.mono (by rintro e w' ⟨rfl, h⟩; exact hK w' h)
  go_simp
theorem kind_yes (r N : Nat) (s s' : Tx.Bs) (l : Tb.Lc) (ks : List Tb.Lc) (kv : Value) (w : World) (h : TS w r N s ks kv) (hs : s.length ≤ maxLen) (hn : ks.length ≤ 100000) (hp : Wr.pKind ks s = some (l, s')) :
    Calls Try.prog 48 #[.pointer (some ⟨N, 0, none⟩), .pointer (some ⟨N + 1 + 1, 0, none⟩)] w fun e w' => e = .returned (lcV l) ∧ Rr w' r s' ∧ w.grownBy w' (some r) := by
  refine (kind_any r N s ks kv w h hs hn).mono ?_
  rintro e w' ⟨hg, ⟨l1, s1, h1, h2, h3⟩ | ⟨h1, _⟩⟩
  · rw [hp] at h1
    simp at h1
    obtain ⟨rfl, rfl⟩ := h1
    exact ⟨h2, h3, hg⟩
  · rw [hp] at h1; cases h1
theorem kind_no (r N : Nat) (s : Tx.Bs) (ks : List Tb.Lc) (kv : Value) (w : World) (h : TS w r N s ks kv) (hs : s.length ≤ maxLen) (hn : ks.length ≤ 100000) (hp : Wr.pKind ks s = none) :
    Calls Try.prog 48 #[.pointer (some ⟨N, 0, none⟩), .pointer (some ⟨N + 1 + 1, 0, none⟩)] w fun e w' => e = gaveUp ∧ w.grownBy w' (some r) := by
  refine (kind_any r N s ks kv w h hs hn).mono ?_
  rintro e w' ⟨hg, ⟨l1, s1, h1, h2, h3⟩ | ⟨h1, h2⟩⟩
  · rw [hp] at h1; cases h1
  · exact ⟨h2, hg⟩
structure TS2 (w : World) (r N F V : Nat) (s : Tx.Bs) (ks : List Tb.Lc) (kv : Value) (f : Tb.Lc) (cv : Value) (chs : List Tb.Cg) : Prop where
  ts : TS w r N s ks kv
  fn : CellsAt w F [kindF N]
  t : CellsAt w V (tbC f cv)
  own : OwnCh w (V + 1) cv chs
  h1 : N + 1 + 1 < F
  h2 : F < V
  hk : ∀ b, kv.ownBlock = some b → b < F
theorem ts2_grown {w w' : World} {r N F V : Nat} {s s' : Tx.Bs} {ks : List Tb.Lc} {kv : Value} {f : Tb.Lc} {cv : Value} {chs : List Tb.Cg} (h : TS2 w r N F V s ks kv f cv chs) (hg : w.grownBy w' (some r)) (hr : Rr w' r s') : TS2 w' r N F V s' ks kv f cv chs :=
  have := h.ts.lt
  have := h.h1
  have := h.h2
  ⟨ts_grown h.ts hg hr, ca_grown h.fn hg (by omega), ca_grown h.t hg (by omega), h.own.kept hg (.inr (fun q => by have := (h.own.lt _ q).1; omega)), h.h1, h.h2, h.hk⟩
theorem ts2_app {w w3 : World} {r N F V n : Nat} {s : Tx.Bs} {ks : List Tb.Lc} {kv : Value} {f : Tb.Lc} {cv v' : Value} {chs : List Tb.Cg} {c : Tb.Cg} {o : Obj} (h : TS2 w r N F V s ks kv f cv chs) (ho : w3.ownsRow (V + 1) 32 4 v' n (chs.flatMap cgCells ++ cgCells c)) (hg : (w.alloc o).grownBy w3 cv.ownBlock) :
    ∃ va vcap, v' = .slice va n vcap ∧ Hid (TS2 (w3.setCell ⟨V, 3, none⟩ v') r N F V s ks kv f v' (chs ++ [c]) ∧ Below r w (w3.setCell ⟨V, 3, none⟩ v')) ∧ w3.cell? ⟨V, 3, none⟩ = some cv ∧ w3.frozen? ⟨V, 3, none⟩ = false ∧ V < w3.heap.size := by
  obtain ⟨va, vcap, e⟩ := owns_shape0 ho
  have lt := h.ts.lt
  have l1 := h.h1
  have l2 := h.h2
  have ne : ∀ Y, Y < V + 1 → ∀ k, cv.ownBlock = some k → k ≠ Y := fun Y hY k hk => by have := (h.own.lt k hk).1; omega
  have t3 := ca_grownO (ca_alloc h.t o) hg (ne _ (by omega))
  have e1 : (chs.flatMap cgCells ++ cgCells c) = (chs ++ [c]).flatMap cgCells := by simp
  have hn : n = (chs ++ [c]).length := by
    have := ho.1
    rw [e1, flat_len] at this
    omega
  have o3 : OwnCh w3 (V + 1) v' (chs ++ [c]) := by
    show World.ownsRow _ _ _ _ _ _ _
    rw [← hn, ← e1]
    exact ho
  have ok : OwnLc w3 (N + 1 + 1 + 1) kv ks := (World.ownsRow.alloc h.ts.own o).kept hg (by
    cases q : kv.ownBlock with
    | none => exact .inl rfl
    | some b =>
      right
      intro q2
      have a1 := h.hk b q
      have a2 := (h.own.lt b q2.symm).1
      omega)
  refine ⟨va, vcap, e, ⟨⟨⟨ca_far (ca_grownO (ca_alloc h.ts.rd o) hg (ne _ (by omega))) (by omega), ca_far (ca_grownO (ca_alloc h.ts.pb o) hg (ne _ (by omega))) (by omega), ca_far (ca_grownO (ca_alloc h.ts.res o) hg (ne _ (by omega))) (by omega), ca_far (ca_grownO (ca_alloc h.ts.k o) hg (ne _ (by omega))) (by omega), ownsRow_setCell_other ok (fun q => by have := h.hk _ q; simp only at this; omega) _, lt⟩, ca_far (ca_grownO (ca_alloc h.fn o) hg (ne _ (by omega))) (by omega), ca_put t3 3 v' (by simp), ownsRow_setCell_other o3 (fun q => by have := (o3.lt _ q).1; simp only at this; omega) _, l1, l2, h.hk⟩, ?_⟩, (ca_at t3 3 rfl).1, (ca_at t3 3 rfl).2, t3.1⟩
  refine below_set ?_ (by omega) _
  exact Below.grown ((Below.refl r w).alloc (Nat.le_of_lt h.ts.rd.1) o) hg (by have := h.ts.rd.1; simp; omega) (fun k hk => by have := (h.own.lt k hk).1; omega)
theorem grown_drew {w w1 : World} {g : Option Nat} (h : w.drew.grownBy w1 g) : w.grownBy w1 g := ⟨h.os, h.tape, h.output, h.size, h.block⟩
set_option maxRecDepth 100000 in
set_option maxHeartbeats 8000000 in
theorem change_any (r N F V : Nat) (s : Tx.Bs) (ks : List Tb.Lc) (kv : Value) (f : Tb.Lc) (cv : Value) (chs : List Tb.Cg) (w : World) (h : TS2 w r N F V s ks kv f cv chs) (hs : s.length ≤ maxLen) (hn : ks.length ≤ 100000) (hc : chs.length ≤ 100000) :
    Calls Try.prog 51 #[.pointer (some ⟨N, 0, none⟩), .pointer (some ⟨V, 0, none⟩), .pointer (some ⟨F, 0, none⟩)] w fun e w' => Below r w w' ∧ ((∃ c s' cv', Wr.pCh ks s = some (c, s') ∧ e = .returned (.tuple #[]) ∧ TS2 w' r N F V s' ks kv f cv' (chs ++ [c])) ∨ (Wr.pCh ks s = none ∧ e = gaveUp)) := by
  obtain ⟨i0, hi, hz0, hz1, hz2⟩ := info_parts Try.infoCg
  obtain ⟨P, hP⟩ : ∃ P, Wr.pCh ks s = P := ⟨_, rfl⟩
  rw [hP]
  have HP := hid hP
  have HS := hid hs
  obtain ⟨va, vcap, rfl⟩ := owns_shape0 h.own
  have T0 := hid h
  have sr := h.ts.rd.1
  clear h hP hs
  obtain ⟨p0, _⟩ := ca_at T0.out.ts.pb 0 rfl
  have sp := T0.out.ts.pb.1
  by_cases q1 : 5 ≤ s.length
  case neg =>
    have HE : Hid (P = none) := by show _ = _; rw [← HP.out, Wr.pCh, Wr.pNum_none q1]
    have C1 := hid (rnumber_no r 5 s w T0.out.ts.rd q1)
    go_enter Try.func51, Try.ntmps51
    go_wp2_with fail
    refine C1.out.mono ?_
    rintro e w1 ⟨rfl, rfl⟩
    exact ⟨rfl, Below.refl _ _, .inr ⟨HE.out, rfl⟩⟩
  have C1 := hid (rnumber_yes r 5 s w T0.out.ts.rd q1 (by omega) HS.out)
  obtain ⟨A, hA⟩ : ∃ A, Wr.leN (s.take 5) = A := ⟨_, rfl⟩
  obtain ⟨s1, hs1⟩ : ∃ s1, s.drop 5 = s1 := ⟨_, rfl⟩
  have bA : A < 1099511627776 := by have := Wr.leN_lt (s.take 5); rw [hA, List.length_take, Nat.min_eq_left q1] at this; exact this
  have HE1 : Hid (Wr.pNum 5 s = some (A, s1)) := by show _ = _; rw [Wr.pNum_some q1, hA, hs1]
  have HS1 : Hid (s1.length ≤ maxLen) := by show _ ≤ _; rw [← hs1, List.length_drop]; exact Nat.le_trans (Nat.sub_le _ _) HS.out
  rw [hA, hs1] at C1
  clear hA hs1 q1
  go_enter Try.func51, Try.ntmps51
  go_wp2_with fail
  refine C1.out.mono ?_
  rintro e w1 ⟨rfl, R1, G1⟩
  have T1 := hid (ts2_grown T0.out G1 R1)
  have B1 := hid (below_grownR G1 sr)
  clear R1 G1 C1 T0 p0 sp
  have sr1 := T1.out.ts.rd.1
  obtain ⟨t3, tf3⟩ := ca_at T1.out.t 3 rfl
  obtain ⟨f0, _⟩ := ca_at T1.out.fn 0 rfl
  have st := T1.out.t.1
  have sf := T1.out.fn.1
  have eg := kindEnters
  cases hK : Wr.pKind ks s1 with
  | none =>
    have HE : Hid (P = none) := by show _ = _; rw [← HP.out, Wr.pCh, HE1.out]; simp only; rw [hK]
    have C2 := kind_no r N s1 ks kv w1.drew (show TS w1.drew r N s1 ks kv from ⟨T1.out.ts.rd, T1.out.ts.pb, T1.out.ts.res, T1.out.ts.k, T1.out.ts.own, T1.out.ts.lt⟩) HS1.out hn hK
    clear hK
    go_wp2_with fail
    go_region_with (go_at_call 48; refine C2.mono ?_; rintro e w2 ⟨rfl, hg⟩; refine left_over ⟨rfl, B1.out.trans (below_grownR (grown_drew hg) sr1), .inr ⟨HE.out, rfl⟩⟩ Try.prog ⟨#[], []⟩ w ?_)
    all_goals trivial
  | some p =>
    obtain ⟨l, s2⟩ := p
    have HE : Hid (P = some (⟨(A : Int) - 274877906944, l⟩, s2)) := by show _ = _; rw [← HP.out, Wr.pCh, HE1.out]; simp only; rw [hK]
    have C2 := kind_yes r N s1 s2 l ks kv w1.drew (show TS w1.drew r N s1 ks kv from ⟨T1.out.ts.rd, T1.out.ts.pb, T1.out.ts.res, T1.out.ts.k, T1.out.ts.own, T1.out.ts.lt⟩) HS1.out hn hK
    clear hK
    go_wp2_with fail
    go_region_law (first | (refine step_append_own rfl (.tmp 8) (.tmp 13) 24 rfl (V + 1) 32 i0 (.agg #[.int .i64 0, .int .i64 0, .int .i64 0, .string ⟨#[]⟩]) 4 40 Try.underlying24 hi hz0 hz1 hz2 rfl (by decide) _ _ _ (by simp [Act.eval, Act.put]) (World.ownsRow.alloc S1.out.own _) _ 1 1 (cgCells ⟨(A : Int) - 274877906944, l⟩) (by simp [Act.eval, Act.put]) rfl (four_cells _ _ _ _ _) (cg_one ⟨(A : Int) - 274877906944, l⟩) (by unfold maxLen; omega) (by omega) (by have := S1.out.t.1; simp; omega) ?_; intro v' w6 hown' hgrow; obtain ⟨va', vcap', e', S6, c6, f6, s6⟩ := ts2_app S1.out hown' ⟨hgrow.os, hgrow.tape, hgrow.output, hgrow.size, hgrow.block⟩; subst e'; clear hown' hgrow) | (refine step_kind rfl (.tmp 10) rfl (by simp [Act.eval, Act.put]) C2 ?_; rintro w2 ⟨R2, G2⟩; have S1 := hid (ts2_grown T1.out (grown_drew G2) R2); have B2 := hid (below_grownR (grown_drew G2) sr1); obtain ⟨m3, mf3⟩ := ca_at S1.out.t 3 rfl; have st2 := S1.out.t.1; clear R2 G2))
    all_goals
      go_wp2
      go_end0
      exact ⟨(B1.out.trans B2.out).trans S6.out.2, .inl ⟨_, _, _, HE.out, rfl, S6.out.1⟩⟩
end Go.Proofs.Ytombhnjmelidcaa
