/- The contracts of the reader's local, and of which kind it is. -/
import Derived.Test.YtombhnjmelidcaaWdA
namespace Go.Proofs.Ytombhnjmelidcaa
open Go.RowKit
set_option linter.unusedVariables false
set_option linter.unusedSimpArgs false

set_option maxRecDepth 100000 in
set_option maxHeartbeats 2000000 in
theorem rnumber_no (r k : Nat) (s : Tx.Bs) (w : World) (h : Rr w r s) (hk : ¬ k ≤ s.length) :
    Calls Try.prog 49 #[.pointer (some ⟨r, 0, none⟩), .int .i64 k] w fun e w' => e = gaveUp ∧ w' = w := by
  have C0 := hid (take_no r (k : Int) s w h (by omega))
  clear h
  go_enter Try.func49, Try.ntmps49
  go_wp2_with fail
  refine C0.out.mono ?_
  rintro e w1 ⟨rfl, rfl⟩
  exact ⟨rfl, rfl, rfl⟩
theorem grown_of_below {w w1 w2 : World} {g : Option Nat} (h : w.grownBy w1 g) (hb : Below w1.heap.size w1 w2) : w.grownBy w2 g := grown_trans h ⟨hb.os, hb.tape, hb.output, hb.size, fun k hk _ => hb.block k hk⟩
theorem ca_set3 {w : World} {X : Nat} {a b c : Value} (h : CellsAt w X [a, b, c]) : (∀ u, CellsAt (w.setCell ⟨X, 0, none⟩ u) X [u, b, c]) ∧ (∀ u, CellsAt (w.setCell ⟨X, 1, none⟩ u) X [a, u, c]) ∧ (∀ u, CellsAt (w.setCell ⟨X, 2, none⟩ u) X [a, b, u]) :=
  ⟨fun u => ca_put h 0 u (by simp), fun u => ca_put h 1 u (by simp), fun u => ca_put h 2 u (by simp)⟩
/- a write into memory that is new -/
theorem grown_new {w w1 : World} {g : Option Nat} {q o : Nat} {u : Value} (h : w.grownBy w1 g) (hq : w.heap.size ≤ q) : w.grownBy (w1.setCell ⟨q, o, none⟩ u) g :=
  ⟨by rw [← h.os]; rfl, by rw [← h.tape]; rfl, by rw [← h.output]; rfl, by simpa using h.size, fun k hk hn => by rw [Below.heap_setCell _ _ _ _ (show k ≠ q by omega)]; exact h.block k hk hn⟩
set_option maxRecDepth 100000 in
set_option maxHeartbeats 4000000 in
theorem rlocal_any (r : Nat) (s : Tx.Bs) (w : World) (h : Rr w r s) (hs : s.length ≤ maxLen) :
    Calls Try.prog 47 #[.pointer (some ⟨r, 0, none⟩)] w fun e w' => w.grownBy w' (some r) ∧ ((∃ l s', Wr.pLoc s = some (l, s') ∧ e = .returned (lcV l) ∧ Rr w' r s') ∨ (Wr.pLoc s = none ∧ e = gaveUp)) := by
  obtain ⟨P, hP⟩ : ∃ P, Wr.pLoc s = P := ⟨_, rfl⟩
  rw [hP]
  have HP := hid hP
  have HS := hid hs
  have hr : ¬ r = w.heap.size ∧ ¬ r = w.heap.size + 1 := by have := h.1; omega
  obtain ⟨hr1, hr2⟩ := hr
  obtain ⟨N, hN⟩ : ∃ N, w.heap.size = N := ⟨_, rfl⟩
  rw [hN] at hr1 hr2
  obtain ⟨W0, hW⟩ : ∃ W, (w.alloc (.cells #[.int .i64 0, .int .i64 0, .string ⟨#[]⟩] 23)).alloc (.cells #[.int .i64 0, .int .i64 0, .string ⟨#[]⟩] 23) = W := ⟨_, rfl⟩
  have G0 : Hid (w.grownBy W0 (some r)) := by rw [← hW]; exact grown_alloc (grown_alloc (grown_refl _ _) _) _
  have R0 : Hid (Rr W0 r s) := by rw [← hW]; exact ca_alloc (ca_alloc h _) _
  have Z0 : Hid (CellsAt W0 N [.int .i64 0, .int .i64 0, .string ⟨#[]⟩]) := by rw [← hW, ← hN]; exact ca_alloc (ca_new w [.int .i64 0, .int .i64 0, .string ⟨#[]⟩] 23) _
  have L0 : Hid (CellsAt W0 (N + 1) [.int .i64 0, .int .i64 0, .string ⟨#[]⟩]) := by
    rw [← hW, ← hN]
    have := ca_new (w.alloc (.cells #[.int .i64 0, .int .i64 0, .string ⟨#[]⟩] 23)) [.int .i64 0, .int .i64 0, .string ⟨#[]⟩] 23
    rw [World.size_alloc] at this
    exact this
  have HNN : Hid (w.heap.size ≤ N ∧ w.heap.size ≤ N + 1) := by show _ ∧ _; omega
  clear h hP hs
  by_cases q1 : 3 ≤ s.length
  case neg =>
    have HE : Hid (P = none) := by show _ = _; rw [← HP.out, Wr.pLoc, Wr.pNum_none q1]
    have C1 := hid (rnumber_no r 3 s W0 R0.out q1)
    go_enter Try.func47, Try.ntmps47
    go_wp2_with fail
    refine C1.out.mono ?_
    rintro e w1 ⟨rfl, rfl⟩
    exact ⟨rfl, G0.out, .inr ⟨HE.out, rfl⟩⟩
  have C1 := hid (rnumber_yes r 3 s W0 R0.out q1 (by omega) HS.out)
  obtain ⟨A, hA⟩ : ∃ A, Wr.leN (s.take 3) = A := ⟨_, rfl⟩
  obtain ⟨s1, hs1⟩ : ∃ s1, s.drop 3 = s1 := ⟨_, rfl⟩
  have bA : A < 16777216 := by have := Wr.leN_lt (s.take 3); rw [hA, List.length_take, Nat.min_eq_left q1] at this; exact this
  have HE1 : Hid (Wr.pNum 3 s = some (A, s1)) := by show _ = _; rw [Wr.pNum_some q1, hA, hs1]
  have HS1 : Hid (s1.length ≤ maxLen) := by show _ ≤ _; rw [← hs1, List.length_drop]; exact Nat.le_trans (Nat.sub_le _ _) HS.out
  rw [hA, hs1] at C1
  clear hA hs1 q1
  go_enter Try.func47, Try.ntmps47
  go_wp2_with fail
  refine C1.out.mono ?_
  rintro e w1 ⟨rfl, R1, G1⟩
  have HR1 := hid R1
  have HG1 : Hid (w.grownBy w1 (some r)) := grown_trans G0.out G1
  have Z1 := hid (ca_grown Z0.out G1 (fun q => hr1 q.symm))
  have L1 := hid (ca_grown L0.out G1 (fun q => hr2 q.symm))
  clear R1 G1 C1 G0 R0 Z0 L0 hW hN
  obtain ⟨y0, f0⟩ := ca_at L1.out 0 rfl
  have sl := L1.out.1
  have M1 := hid ((ca_set3 L1.out).1 (.int .i64 ((A : Int) - 100000)))
  have MR1 := hid (ca_far (q := N + 1) (o := 0) (u := .int .i64 ((A : Int) - 100000)) HR1.out hr2)
  have MZ1 := hid (ca_far (q := N + 1) (o := 0) (u := .int .i64 ((A : Int) - 100000)) Z1.out (by omega))
  have MG1 := hid (grown_new (q := N + 1) (o := 0) (u := .int .i64 ((A : Int) - 100000)) HG1.out HNN.out.2)
  obtain ⟨V1, hV1⟩ : ∃ V, w1.setCell ⟨N + 1, 0, none⟩ (.int .i64 ((A : Int) - 100000)) = V := ⟨_, rfl⟩
  rw [hV1] at M1 MR1 MZ1 MG1
  clear HR1 HG1 Z1 L1
  by_cases q2 : 2 ≤ s1.length
  case neg =>
    have HE : Hid (P = none) := by show _ = _; rw [← HP.out, Wr.pLoc, HE1.out]; simp only; rw [Wr.pNum_none q2]
    have C2 := hid (rnumber_no r 2 s1 V1 MR1.out q2)
    go_wp2_with fail
    refine C2.out.mono ?_
    rintro e w2 ⟨rfl, rfl⟩
    exact ⟨rfl, MG1.out, .inr ⟨HE.out, rfl⟩⟩
  have C2 := hid (rnumber_yes r 2 s1 V1 MR1.out q2 (by omega) HS1.out)
  obtain ⟨B, hB⟩ : ∃ A, Wr.leN (s1.take 2) = A := ⟨_, rfl⟩
  obtain ⟨s2, hs2⟩ : ∃ s2, s1.drop 2 = s2 := ⟨_, rfl⟩
  have HE2 : Hid (Wr.pNum 2 s1 = some (B, s2)) := by show _ = _; rw [Wr.pNum_some q2, hB, hs2]
  have HS2 : Hid (s2.length ≤ maxLen) := by show _ ≤ _; rw [← hs2, List.length_drop]; exact Nat.le_trans (Nat.sub_le _ _) HS1.out
  rw [hB, hs2] at C2
  clear hB hs2 q2
  go_wp2_with fail
  refine C2.out.mono ?_
  rintro e w2 ⟨rfl, R2, G2⟩
  have HR2 := hid R2
  have HG2 : Hid (w.grownBy w2 (some r)) := grown_trans MG1.out G2
  have Z2 := hid (ca_grown MZ1.out G2 (fun q => hr1 q.symm))
  have L2 := hid (ca_grown M1.out G2 (fun q => hr2 q.symm))
  clear R2 G2 C2 MG1 MR1 MZ1 M1 hV1 y0 f0 sl
  obtain ⟨y1, f1⟩ := ca_at L2.out 1 rfl
  have sl := L2.out.1
  have M2 := hid ((ca_set3 L2.out).2.1 (.int .i64 (B : Int)))
  have MR2 := hid (ca_far (q := N + 1) (o := 1) (u := .int .i64 (B : Int)) HR2.out hr2)
  have MZ2 := hid (ca_far (q := N + 1) (o := 1) (u := .int .i64 (B : Int)) Z2.out (by omega))
  have MG2 := hid (grown_new (q := N + 1) (o := 1) (u := .int .i64 (B : Int)) HG2.out HNN.out.2)
  obtain ⟨V2, hV2⟩ : ∃ V, w2.setCell ⟨N + 1, 1, none⟩ (.int .i64 (B : Int)) = V := ⟨_, rfl⟩
  rw [hV2] at M2 MR2 MZ2 MG2
  clear HR2 HG2 Z2 L2
  by_cases q3 : 1 ≤ s2.length
  case neg =>
    have HE : Hid (P = none) := by show _ = _; rw [← HP.out, Wr.pLoc, HE1.out]; simp only; rw [HE2.out]; simp only; rw [Wr.pNum_none q3]
    have C3 := hid (rnumber_no r 1 s2 V2 MR2.out q3)
    go_wp2_with fail
    refine C3.out.mono ?_
    rintro e w3 ⟨rfl, rfl⟩
    exact ⟨rfl, MG2.out, .inr ⟨HE.out, rfl⟩⟩
  have C3 := hid (rnumber_yes r 1 s2 V2 MR2.out q3 (by omega) HS2.out)
  obtain ⟨n, hn⟩ : ∃ A, Wr.leN (s2.take 1) = A := ⟨_, rfl⟩
  obtain ⟨s3, hs3⟩ : ∃ s3, s2.drop 1 = s3 := ⟨_, rfl⟩
  have HE3 : Hid (Wr.pNum 1 s2 = some (n, s3)) := by show _ = _; rw [Wr.pNum_some q3, hn, hs3]
  have HS3 : Hid (s3.length ≤ maxLen) := by show _ ≤ _; rw [← hs3, List.length_drop]; exact Nat.le_trans (Nat.sub_le _ _) HS2.out
  rw [hn, hs3] at C3
  clear hn hs3 q3
  go_wp2_with fail
  refine C3.out.mono ?_
  rintro e w3 ⟨rfl, R3, G3⟩
  have HR3 := hid R3
  have HG3 : Hid (w.grownBy w3 (some r)) := grown_trans MG2.out G3
  have Z3 := hid (ca_grown MZ2.out G3 (fun q => hr1 q.symm))
  have L3 := hid (ca_grown M2.out G3 (fun q => hr2 q.symm))
  clear R3 G3 C3 MG2 MR2 MZ2 M2 hV2 y1 f1 sl
  by_cases q4 : n ≤ s3.length
  case neg =>
    have HE : Hid (P = none) := by show _ = _; rw [← HP.out, Wr.pLoc, HE1.out]; simp only; rw [HE2.out]; simp only; rw [HE3.out]; simp only; rw [if_neg q4]
    have C4 := hid (take_no r (n : Int) s3 w3 HR3.out (by omega))
    go_wp2_with fail
    refine C4.out.mono ?_
    rintro e w4 ⟨rfl, rfl⟩
    exact ⟨rfl, HG3.out, .inr ⟨HE.out, rfl⟩⟩
  have C4 := hid (take_yes r n s3 w3 HR3.out q4 HS3.out)
  have HE : Hid (P = some (⟨(A : Int) - 100000, B, s3.take n⟩, s3.drop n)) := by show _ = _; rw [← HP.out, Wr.pLoc, HE1.out]; simp only; rw [HE2.out]; simp only; rw [HE3.out]; simp only; rw [if_pos q4]
  obtain ⟨nm, hnm⟩ : ∃ nm, s3.take n = nm := ⟨_, rfl⟩
  rw [hnm] at C4 HE
  clear hnm
  go_wp2_with fail
  refine C4.out.mono ?_
  rintro e w4 ⟨rfl, R4, G4⟩
  have HR4 := hid R4
  have HG4 : Hid (w.grownBy w4 (some r)) := grown_trans HG3.out G4
  have Z4 := hid (ca_grown Z3.out G4 (fun q => hr1 q.symm))
  have L4 := hid (ca_grown L3.out G4 (fun q => hr2 q.symm))
  clear R4 G4 C4 HG3 HR3 Z3 L3
  obtain ⟨y0, f0⟩ := ca_at L4.out 0 rfl
  obtain ⟨y1, f1⟩ := ca_at L4.out 1 rfl
  obtain ⟨y2, f2⟩ := ca_at L4.out 2 rfl
  obtain ⟨z0, e0⟩ := ca_at Z4.out 0 rfl
  obtain ⟨z1, e1⟩ := ca_at Z4.out 1 rfl
  obtain ⟨z2, e2⟩ := ca_at Z4.out 2 rfl
  have sl := L4.out.1
  have sz := Z4.out.1
  go_wp2
  refine bodyPost_ret (v := lcV ⟨(A : Int) - 100000, B, nm⟩) (by simp [results, Try.results47, go_sem, *]) rfl ⟨?_, .inl ⟨_, _, HE.out, rfl, ?_⟩⟩
  · repeat (refine grown_new ?_ (by first | exact HNN.out.1 | exact HNN.out.2))
    exact HG4.out
  · repeat (refine ca_far ?_ (by first | exact hr1 | exact hr2))
    exact HR4.out
end Go.Proofs.Ytombhnjmelidcaa
