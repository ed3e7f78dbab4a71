/- The contract of the reader's kind: which one it is. -/
import Derived.Test.YtombhnjmelidcaaWdC
namespace Go.Proofs.Ytombhnjmelidcaa
open Go.RowKit
set_option linter.unusedVariables false
set_option linter.unusedSimpArgs false

set_option maxRecDepth 100000 in
set_option maxHeartbeats 4000000 in
theorem kind_any (r N : Nat) (s : Tx.Bs) (ks : List Tb.Lc) (kv : Value) (w : World) (h : TS w r N s ks kv) (hs : s.length ≤ maxLen) (hn : ks.length ≤ 100000) :
    Calls Try.prog 48 #[.pointer (some ⟨N, 0, none⟩), .pointer (some ⟨N + 1 + 1, 0, none⟩)] w fun e w' => w.grownBy w' (some r) ∧ ((∃ l s', Wr.pKind ks s = some (l, s') ∧ e = .returned (lcV l) ∧ Rr w' r s') ∨ (Wr.pKind ks s = none ∧ e = gaveUp)) := by
  obtain ⟨P, hP⟩ : ∃ P, Wr.pKind ks s = P := ⟨_, rfl⟩
  rw [hP]
  have HP := hid hP
  have HS := hid hs
  obtain ⟨ka, kcap, rfl⟩ := lc_shape h.own
  have lt := h.lt
  have sN := h.k.1
  obtain ⟨Z, hZ⟩ : ∃ Z, w.heap.size = Z := ⟨_, rfl⟩
  obtain ⟨W0, hW⟩ : ∃ W, w.alloc (.cells #[.int .i64 0, .int .i64 0, .string ⟨#[]⟩] 23) = W := ⟨_, rfl⟩
  have G0 : Hid (w.grownBy W0 (some r)) := by rw [← hW]; exact grown_alloc (grown_refl _ _) _
  have T0 : Hid (TS W0 r N s ks (.slice ka ks.length kcap)) := by
    rw [← hW]
    exact ⟨ca_alloc h.rd _, ca_alloc h.pb _, ca_alloc h.res _, ca_alloc h.k _, World.ownsRow.alloc h.own _, h.lt⟩
  have Z0 : Hid (CellsAt W0 Z [.int .i64 0, .int .i64 0, .string ⟨#[]⟩]) := by rw [← hW, ← hZ]; exact ca_new _ _ _
  have HZ : Hid (w.heap.size ≤ Z) := by show _ ≤ _; omega
  have ZN : N + 1 + 1 < Z := by omega
  clear h hP hs
  obtain ⟨p0, _⟩ := ca_at T0.out.pb 0 rfl
  have sp := T0.out.pb.1
  by_cases q1 : 2 ≤ s.length
  case neg =>
    have HE : Hid (P = none) := by show _ = _; rw [← HP.out, Wr.pKind, Wr.pNum_none q1]
    have C1 := hid (rnumber_no r 2 s W0 T0.out.rd q1)
    go_enter Try.func48, Try.ntmps48
    go_wp2_with fail
    refine C1.out.mono ?_
    rintro e w1 ⟨rfl, rfl⟩
    exact ⟨rfl, G0.out, .inr ⟨HE.out, rfl⟩⟩
  have C1 := hid (rnumber_yes r 2 s W0 T0.out.rd q1 (by omega) HS.out)
  obtain ⟨A, hA⟩ : ∃ A, Wr.leN (s.take 2) = A := ⟨_, rfl⟩
  obtain ⟨s1, hs1⟩ : ∃ s1, s.drop 2 = s1 := ⟨_, rfl⟩
  have HE1 : Hid (Wr.pNum 2 s = some (A, s1)) := by show _ = _; rw [Wr.pNum_some q1, hA, hs1]
  rw [hA, hs1] at C1
  clear hA hs1 q1
  go_enter Try.func48, Try.ntmps48
  go_wp2_with fail
  refine C1.out.mono ?_
  rintro e w1 ⟨rfl, R1, G1⟩
  have HG1 : Hid (w.grownBy w1 (some r)) := grown_trans G0.out G1
  have Z1 := hid (ca_grown Z0.out G1 (by omega))
  have T1 := hid (ts_grown T0.out G1 R1)
  clear R1 G1 C1 G0 T0 Z0 hW hZ p0 sp
  obtain ⟨k0, _⟩ := ca_at T1.out.k 0 rfl
  have sk := T1.out.k.1
  by_cases q2 : A < ks.length
  case neg =>
    have HE : Hid (P = none) := by show _ = _; rw [← HP.out, Wr.pKind, HE1.out]; simp only; rw [List.getElem?_eq_none (by omega)]
    have q2' : ¬ (A : Int) < ks.length := by omega
    go_wp2_with fail
    try rw [show decide ((A : Int) < ks.length) = false by simp; omega]
    refine (require_no _ _ _).mono ?_
    rintro e w2 ⟨rfl, rfl⟩
    exact ⟨rfl, HG1.out, .inr ⟨HE.out, rfl⟩⟩
  obtain ⟨l, hl⟩ : ∃ l, ks[A]? = some l := ⟨_, List.getElem?_eq_getElem q2⟩
  have HE : Hid (P = some (l, s1)) := by show _ = _; rw [← HP.out, Wr.pKind, HE1.out]; simp only; rw [hl]
  obtain ⟨lb, lo, lcap, e, hlb, l0, l1, l2⟩ := rdLc_at (ownLc_rd T1.out.own) hl
  simp only [Value.slice.injEq] at e
  obtain ⟨rfl, _, rfl⟩ := e
  have q2' : (A : Int) < ks.length := by omega
  obtain ⟨z0, e0⟩ := ca_at Z1.out 0 rfl
  obtain ⟨z1, e1⟩ := ca_at Z1.out 1 rfl
  obtain ⟨z2, e2⟩ := ca_at Z1.out 2 rfl
  have sz := Z1.out.1
  clear hl
  go_wp2_with (go_at_call 50; refine (require_yes _ _ _).mono ?_; rintro e w2 ⟨rfl, rfl⟩)
  refine bodyPost_ret (v := lcV l) (by simp [results, Try.results48, go_sem, *]) rfl ⟨?_, .inl ⟨_, _, HE.out, rfl, ?_⟩⟩
  · repeat (refine grown_new ?_ HZ.out)
    exact HG1.out
  · repeat (refine ca_far ?_ (by omega))
    exact T1.out.rd
end Go.Proofs.Ytombhnjmelidcaa
