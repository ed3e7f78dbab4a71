/- The contract of delta's Diff. -/
import Derived.Test.YtombhnjmelidcaaPdA
import Derived.Test.YtombhnjmelidcaaPdC
import Derived.Test.YtombhnjmelidcaaPrD
import Derived.Deep.RegionHeld3
namespace Go.Proofs.Ytombhnjmelidcaa
open Go.RowKit Go.Lib
set_option linter.unusedVariables false
set_option linter.unusedSimpArgs false

def Tb.diffE (t u : Tb.Tbl) : Int := if Tb.tableE t ≠ 0 then Tb.tableE t else Tb.tableE u
def pt0 : Tb.Pt := ⟨⟨0, 0, []⟩, 0, 0, []⟩
def DiffEnd (t u : Tb.Tbl) (w : World) (e : Ending) (w' : World) : Prop :=
  ∃ p pv, e = .returned (.tuple #[ptV p.first p.head p.tail pv, .int .i64 (Tb.diffE t u)]) ∧ (Tb.diffE t u = 0 → Tb.IsDiff t u p) ∧ (Tb.diffE t u ≠ 0 → p = pt0) ∧ OwnCh w' w.heap.size pv p.put ∧ Below w.heap.size w w'
theorem diffEnd_no {t u : Tb.Tbl} {w w' : World} {E : Int} (h : Tb.diffE t u = E) (h0 : E ≠ 0) (hb : Below w.heap.size w w') : DiffEnd t u w (.returned (.tuple #[.agg #[.int .i64 0, .int .i64 0, .string ⟨#[]⟩, .int .i64 0, .int .i64 0, .slice none 0 0], .int .i64 E])) w' :=
  ⟨pt0, .slice none 0 0, by rw [h]; rfl, fun q => absurd (h ▸ q) h0, fun _ => rfl, ownCh_nil _ _, hb⟩
theorem addr_add (b o i : Nat) : (⟨b, o, none⟩ : Addr).add i = ⟨b, o + i, none⟩ := by
  unfold Addr.add
  split
  · rename_i q
    have q' : i = 0 := by simpa using q
    rw [q']; rfl
  · rfl
/- a part of a list, as Go cuts it -/
theorem rdCh_sliced {w : World} {aa : Option Addr} {acap k : Nat} {a : List Tb.Cg} (h : RdCh w (.slice aa a.length acap) a) (hk : k ≤ a.length) (hc : ¬ acap = k) : RdCh w (.slice (aa.map (·.add (k * 4))) (a.length - k) (acap - k)) (a.drop k) := by
  by_cases q : a.drop k = []
  · rw [q]
    have : a.length - k = 0 := by have := congrArg List.length q; rw [List.length_drop] at this; exact this
    rw [this]
    exact ⟨_, _, rfl, fun h => absurd rfl h⟩
  · obtain ⟨a', cap', e1, h2⟩ := id h
    simp only [Value.slice.injEq] at e1
    obtain ⟨rfl, _, _⟩ := e1
    obtain ⟨b, o, e2, _⟩ := h2 (by intro q'; rw [q'] at q; simp at q)
    subst e2
    have := rdCh_drop (c' := acap - k) h k (a.length - k) (by omega)
    rw [Option.map_some, addr_add]
    exact this
theorem rdCh_cut {w : World} {aa : Option Addr} {acap k : Nat} {a : List Tb.Cg} (h : RdCh w (.slice aa a.length acap) a) (hk : k = a.length) : RdCh w (.slice aa (a.length - k) (acap - k)) (a.drop k) := by
  rw [List.drop_eq_nil_of_le (by omega), show a.length - k = 0 by omega]
  exact ⟨_, _, rfl, fun h => absurd rfl h⟩
theorem res6 {w w5 : World} {R : Nat} {c0 c1 c2 c3 c4 c5 : Value} (h : CellsAt w R [c0, c1, c2, c3, c4, c5]) (hb : Below w.heap.size w w5) : CellsAt w5 R [c0, c1, c2, c3, c4, c5] ∧ (w5.cell? ⟨R, 0, none⟩ = some c0 ∧ w5.cell? ⟨R, 1, none⟩ = some c1 ∧ w5.cell? ⟨R, 2, none⟩ = some c2 ∧ w5.cell? ⟨R, 3, none⟩ = some c3 ∧ w5.cell? ⟨R, 4, none⟩ = some c4 ∧ w5.cell? ⟨R, 5, none⟩ = some c5) ∧
    (w5.frozen? ⟨R, 0, none⟩ = false ∧ w5.frozen? ⟨R, 1, none⟩ = false ∧ w5.frozen? ⟨R, 2, none⟩ = false ∧ w5.frozen? ⟨R, 3, none⟩ = false ∧ w5.frozen? ⟨R, 4, none⟩ = false ∧ w5.frozen? ⟨R, 5, none⟩ = false) ∧ R < w5.heap.size := by
  have h5 := ca_below h hb
  exact ⟨h5, ⟨(ca_at h5 0 rfl).1, (ca_at h5 1 rfl).1, (ca_at h5 2 rfl).1, (ca_at h5 3 rfl).1, (ca_at h5 4 rfl).1, (ca_at h5 5 rfl).1⟩, ⟨(ca_at h5 0 rfl).2, (ca_at h5 1 rfl).2, (ca_at h5 2 rfl).2, (ca_at h5 3 rfl).2, (ca_at h5 4 rfl).2, (ca_at h5 5 rfl).2⟩, h5.1⟩
theorem cells3 {V w2 : World} {b : Nat} {x y z : Value} (hb : Below V.heap.size V w2) (hs : b < V.heap.size) (h : V.cell? ⟨b, 0, none⟩ = some x ∧ V.cell? ⟨b, 1, none⟩ = some y ∧ V.cell? ⟨b, 2, none⟩ = some z) : w2.cell? ⟨b, 0, none⟩ = some x ∧ w2.cell? ⟨b, 1, none⟩ = some y ∧ w2.cell? ⟨b, 2, none⟩ = some z :=
  ⟨(hb.cell (p := ⟨b, 0, none⟩) hs).trans h.1, (hb.cell (p := ⟨b, 1, none⟩) hs).trans h.2.1, (hb.cell (p := ⟨b, 2, none⟩) hs).trans h.2.2⟩

theorem set3 {w : World} {b q o : Nat} {u x y z : Value} (hne : ¬ b = q) (h : w.cell? ⟨b, 0, none⟩ = some x ∧ w.cell? ⟨b, 1, none⟩ = some y ∧ w.cell? ⟨b, 2, none⟩ = some z) : (w.setCell ⟨q, o, none⟩ u).cell? ⟨b, 0, none⟩ = some x ∧ (w.setCell ⟨q, o, none⟩ u).cell? ⟨b, 1, none⟩ = some y ∧ (w.setCell ⟨q, o, none⟩ u).cell? ⟨b, 2, none⟩ = some z := by
  have e : ∀ k, (w.setCell ⟨q, o, none⟩ u).cell? ⟨b, k, none⟩ = w.cell? ⟨b, k, none⟩ := fun k => World.cell?_of_block (Below.heap_setCell _ _ _ _ hne)
  rw [e, e, e]; exact h
set_option maxRecDepth 100000 in
set_option maxHeartbeats 4000000 in
theorem pDiff_any (t u : Tb.Tbl) (v v' : Value) (w : World) (h : RdCh w v t.ch) (h' : RdCh w v' u.ch) (hS : Tb.Sized t) (hS' : Tb.Sized u) (hc : ∀ a n c, v = .slice a n c → n ≤ c ∧ c ≤ maxLen) (hc' : ∀ a n c, v' = .slice a n c → n ≤ c ∧ c ≤ maxLen) :
    Calls Try.prog 19 #[tbV t.first v, tbV u.first v'] w (DiffEnd t u w) := by
  obtain ⟨E1, hE1⟩ : ∃ E, Tb.tableE t = E := ⟨_, rfl⟩
  obtain ⟨E2, hE2⟩ : ∃ E, Tb.tableE u = E := ⟨_, rfl⟩
  have HD : Hid (Tb.diffE t u = if E1 ≠ 0 then E1 else E2) := by show _ = _; rw [Tb.diffE, hE1, hE2]
  have HC1 : Hid (∀ W, Below w.heap.size w W → Calls Try.prog 24 #[tbV t.first v] W fun e w' => e = .returned (.int .i64 E1) ∧ Below W.heap.size W w') := fun W hW => by
    rw [← hE1]; exact pCheck_any t _ W (rdCh_below h hW) hS
  have HC2 : Hid (∀ W, Below w.heap.size w W → Calls Try.prog 24 #[tbV u.first v'] W fun e w' => e = .returned (.int .i64 E2) ∧ Below W.heap.size W w') := fun W hW => by
    rw [← hE2]; exact pCheck_any u _ W (rdCh_below h' hW) hS'
  have HL1 : Hid (E1 = 0 → t.ch.length ≤ 1000) := fun q => (Tb.good_parts (hE1.trans q)).1
  have HL2 : Hid (E2 = 0 → u.ch.length ≤ 1000) := fun q => (Tb.good_parts (hE2.trans q)).1
  clear hE1 hE2 hS hS'
  obtain ⟨f, a⟩ := t
  obtain ⟨g, b⟩ := u
  dsimp only at *
  have HA := hid h
  have HB := hid h'
  obtain ⟨aa, acap, rfl, _⟩ := h
  obtain ⟨ba, bcap, rfl, _⟩ := h'
  obtain ⟨ka, ka2⟩ := hc _ _ _ rfl
  obtain ⟨kb, kb2⟩ := hc' _ _ _ rfl
  unfold maxLen at ka2 kb2
  clear hc hc'
  obtain ⟨N, hN⟩ : ∃ N, w.heap.size = N := ⟨_, rfl⟩
  have HNN := hid hN
  obtain ⟨W0, hW⟩ : ∃ W0, ((w.alloc (.cells (tbC f (.slice aa a.length acap)).toArray 26)).alloc (.cells (tbC g (.slice ba b.length bcap)).toArray 26)).alloc (.cells (ptC ⟨0, 0, []⟩ 0 0 (.slice none 0 0)).toArray 42) = W0 := ⟨_, rfl⟩
  have B0 : Hid (Below w.heap.size w W0) := by
    rw [← hW]; show Below _ _ _
    exact (((Below.refl _ _).alloc (Nat.le_refl _) _).alloc (by simp) _).alloc (by simp; omega) _
  have T0 : Hid (CellsAt W0 N (tbC f (.slice aa a.length acap))) := by rw [← hW, ← hN]; exact ca_alloc (ca_alloc (ca_new _ _ _) _) _
  have U0 : Hid (CellsAt W0 (N + 1) (tbC g (.slice ba b.length bcap))) := by
    rw [← hW, ← hN]; show CellsAt _ _ _
    have := ca_alloc (ca_new (w.alloc (.cells (tbC f (.slice aa a.length acap)).toArray 26)) (tbC g (.slice ba b.length bcap)) 26) (.cells (ptC ⟨0, 0, []⟩ 0 0 (.slice none 0 0)).toArray 42)
    simpa using this
  have R0 : Hid (CellsAt W0 (N + 1 + 1) (ptC ⟨0, 0, []⟩ 0 0 (.slice none 0 0))) := by
    rw [← hW, ← hN]; show CellsAt _ _ _
    have := ca_new ((w.alloc (.cells (tbC f (.slice aa a.length acap)).toArray 26)).alloc (.cells (tbC g (.slice ba b.length bcap)).toArray 26)) (ptC ⟨0, 0, []⟩ 0 0 (.slice none 0 0)) 42
    simpa using this
  have HW := hid hW
  have HS := hid (HC1.out W0 B0.out)
  clear hW HC1
  rw [← HW.out] at HS
  go_enter Try.func19, Try.ntmps19
  go_wp2_with fail
  refine HS.out.mono ?_
  rintro e w1 ⟨rfl, hb1⟩
  rw [HW.out] at hb1
  clear hN
  have T1 := hid (ca_below T0.out hb1)
  have U1 := hid (ca_below U0.out hb1)
  have R1 := hid (ca_below R0.out hb1)
  have B1 : Hid (Below w.heap.size w w1) := B0.out.trans (hb1.mono B0.out.size)
  clear T0 U0 R0 B0 hb1 HS HW
  have HBN : Hid (∀ q, N ≤ q → w.heap.size ≤ q) := fun q hq => by rw [HNN.out]; exact hq
  by_cases h1 : E1 = 0
  case neg =>
    have HE : Hid (Tb.diffE ⟨f, a⟩ ⟨g, b⟩ = E1) := by show _ = _; rw [HD.out, if_pos h1]
    have h1' : (E1 != 0) = true := by simp [h1]
    obtain ⟨_, ⟨r0, r1, r2, r3, r4, r5⟩, ⟨f0, f1, f2, f3, f4, f5⟩, sr⟩ := res6 R1.out (Below.refl _ _)
    go_wp2
    refine bodyPost_ret (v := .tuple #[.agg #[.int .i64 0, .int .i64 0, .string ⟨#[]⟩, .int .i64 0, .int .i64 0, .slice none 0 0], .int .i64 E1]) (by simp [results, Try.results19, go_sem, *]) rfl (diffEnd_no HE.out h1 ?_)
    repeat (refine below_set ?_ (HBN.out _ (by omega)) _)
    exact B1.out
  subst h1
  have HD2 : Hid (Tb.diffE ⟨f, a⟩ ⟨g, b⟩ = E2) := by show _ = _; rw [HD.out]; rfl
  have la := HL1.out rfl
  clear HD HL1
  have HS := hid (HC2.out w1 B1.out)
  obtain ⟨u0, i0⟩ := ca_at U1.out 0 rfl
  obtain ⟨u1, i1⟩ := ca_at U1.out 1 rfl
  obtain ⟨u2, i2⟩ := ca_at U1.out 2 rfl
  obtain ⟨u3, i3⟩ := ca_at U1.out 3 rfl
  have su := U1.out.1
  go_wp2_with fail
  refine HS.out.mono ?_
  rintro e w2 ⟨rfl, hb2⟩
  have T2 := hid (ca_below T1.out hb2)
  have U2 := hid (ca_below U1.out hb2)
  have R2 := hid (ca_below R1.out hb2)
  have B2 : Hid (Below w.heap.size w w2) := B1.out.trans (hb2.mono B1.out.size)
  clear T1 U1 R1 B1 hb2 HS HC2 u0 i0 u1 i1 u2 i2 u3 i3 su
  by_cases h2 : E2 = 0
  case neg =>
    have h2' : (E2 != 0) = true := by simp [h2]
    obtain ⟨_, ⟨r0, r1, r2, r3, r4, r5⟩, ⟨f0, f1, f2, f3, f4, f5⟩, sr⟩ := res6 R2.out (Below.refl _ _)
    go_wp2
    refine bodyPost_ret (v := .tuple #[.agg #[.int .i64 0, .int .i64 0, .string ⟨#[]⟩, .int .i64 0, .int .i64 0, .slice none 0 0], .int .i64 E2]) (by simp [results, Try.results19, go_sem, *]) rfl (diffEnd_no HD2.out h2 ?_)
    repeat (refine below_set ?_ (HBN.out _ (by omega)) _)
    exact B2.out
  subst h2
  have lb := HL2.out rfl
  clear HL2
  obtain ⟨t3, j3⟩ := ca_at T2.out 3 rfl
  obtain ⟨u3, i3⟩ := ca_at U2.out 3 rfl
  have st := T2.out.1
  have su := U2.out.1
  go_wp2_with fail
  refine (sameAhead_any a b _ _ _ (rdCh_below HA.out B2.out) (rdCh_below HB.out B2.out) (by omega) (by omega)).mono ?_
  rintro e w3 ⟨k, rfl, PR, hb3⟩
  have T3 := hid (ca_below T2.out hb3)
  have U3 := hid (ca_below U2.out hb3)
  have R3 := hid (ca_below R2.out hb3)
  have B3 : Hid (Below w.heap.size w w3) := B2.out.trans (hb3.mono B2.out.size)
  clear T2 U2 R2 B2 hb3 t3 j3 u3 i3 st su
  have HPR := hid PR
  have k1 : k ≤ a.length := PR.la
  have k2 : k ≤ b.length := PR.lb
  clear PR
  go_wp2_with fail
  go_cut [9, 10] from 29 to 36 (fun s9 s10 wc => ∃ X C Y D, s9 = .slice X (a.length - k) C ∧ s10 = .slice Y (b.length - k) D ∧ b.length - k ≤ D ∧ D ≤ 9223372036854775807 ∧ Hid (RdCh w3 (.slice X (a.length - k) C) (a.drop k)) ∧ Hid (RdCh w3 (.slice Y (b.length - k) D) (b.drop k)) ∧ ∃ n, wc = w3.drewN n)
  case first =>
    obtain ⟨t3, j3⟩ := ca_at T3.out 3 rfl
    obtain ⟨u3, i3⟩ := ca_at U3.out 3 rfl
    have st := T3.out.1
    have su := U3.out.1
    have HRA := hid (rdCh_below HA.out B3.out)
    have HRB := hid (rdCh_below HB.out B3.out)
    by_cases qa : acap = k <;> by_cases qb : bcap = k
    all_goals
      go_quiet (fail)
      go_wp2_with fail
      go_meet
      refine ⟨_, _, _, _, rfl, rfl, by omega, by omega, ?_, ?_, _, rfl⟩
      · first
        | exact rdCh_sliced HRA.out k1 qa
        | (have := rdCh_cut HRA.out (show k = a.length by omega); rw [qa] at this; exact hid (by simpa using this))
      · first
        | exact rdCh_sliced HRB.out k2 qb
        | (have := rdCh_cut HRB.out (show k = b.length by omega); rw [qb] at this; exact hid (by simpa using this))
  case rest =>
  obtain ⟨X, C, Y, D, rfl, rfl, hD, hD2, RX, RY, n3, rfl⟩ := hcut
  have SQ : Hid (∀ s, Tb.IsEnd (a.drop k) (b.drop k) s → Tb.IsSuf a b k s) := fun s => Tb.suf_of_end HPR.out.la HPR.out.lb
  obtain ⟨A, hA⟩ : ∃ A, a.drop k = A := ⟨_, rfl⟩
  obtain ⟨B, hB⟩ : ∃ B, b.drop k = B := ⟨_, rfl⟩
  have eA : a.length - k = A.length := by rw [← hA, List.length_drop]
  have eB : b.length - k = B.length := by rw [← hB, List.length_drop]
  rw [hA, eA] at RX
  rw [hB, eB] at RY
  rw [hA, hB] at SQ
  rw [eB] at hD
  rw [eA, eB]
  have lA : A.length ≤ 1000 := by omega
  have lB : B.length ≤ 1000 := by omega
  have HM : Hid (∀ s, s ≤ B.length → Tb.mid b k s = B.take (B.length - s)) := fun s hs => by rw [Tb.mid, hB, show b.length - s - k = B.length - s by omega]
  clear hA hB eA eB
  have T4 : Hid (CellsAt (w3.drewN n3) N (tbC f (.slice aa a.length acap))) := T3
  have U4 : Hid (CellsAt (w3.drewN n3) (N + 1) (tbC g (.slice ba b.length bcap))) := U3
  have R4 : Hid (CellsAt (w3.drewN n3) (N + 1 + 1) (ptC ⟨0, 0, []⟩ 0 0 (.slice none 0 0))) := R3
  have B4 : Hid (Below w.heap.size w (w3.drewN n3)) := below_drewN B3.out _
  have RX4 : Hid (RdCh (w3.drewN n3) (.slice X A.length C) A) := RX
  have RY4 : Hid (RdCh (w3.drewN n3) (.slice Y B.length D) B) := RY
  clear T3 U3 R3 B3 RX RY k1 k2
  obtain ⟨w4, hw4⟩ : ∃ w4, w3.drewN n3 = w4 := ⟨_, rfl⟩
  rw [hw4] at T4 U4 R4 B4 RX4 RY4 ⊢
  clear hw4
  go_wp2_with fail
  refine (sameBehind_any A B _ _ _ RX4.out RY4.out (by omega) (by omega)).mono ?_
  rintro e w5 ⟨s, rfl, EN, hb5⟩
  have U5 := hid (ca_below U4.out hb5)
  have R5 := hid (ca_below R4.out hb5)
  have B5 : Hid (Below w.heap.size w w5) := B4.out.trans (hb5.mono B4.out.size)
  have RY5 := hid (rdCh_below RY4.out hb5)
  clear T4 U4 R4 B4 RX4 RY4 hb5
  have HEN := hid EN
  have s2 : s ≤ B.length := EN.lb
  clear EN
  obtain ⟨m, hm⟩ : ∃ m : Nat, B.length - s = m := ⟨_, rfl⟩
  have em : (B.length : Int) - s = m := by omega
  have hmD : m ≤ D := by omega
  have hmD' : (m : Int) ≤ D := by omega
  have hm0 : (0 : Int) ≤ m := by omega
  have hwm : IntKind.i64.wrap (m : Int) = m := by rw [IntKind.wrap_i64]; omega
  have HM2 : Hid (Tb.mid b k s = B.take m) := by show _ = _; rw [HM.out s s2, hm]
  clear HM hm
  obtain ⟨L, hL⟩ : ∃ L, B.take m = L := ⟨_, rfl⟩
  have lL : L.length ≤ 1000 := by rw [← hL]; simp; omega
  rw [hL] at HM2
  have RL : RdCh w5 (.slice Y m D) L := by rw [← hL]; exact rdCh_take RY5.out m (by omega)
  clear hL
  have BV : Below w5.heap.size w5 (w5.alloc (.cells #[.slice Y m D] 24)).drew := ((Below.refl w5.heap.size w5).alloc (Nat.le_refl _) (.cells #[.slice Y m D] 24)).trans (show Below w5.heap.size (w5.alloc (.cells #[.slice Y m D] 24)) (w5.alloc (.cells #[.slice Y m D] 24)).drew from ⟨rfl, rfl, rfl, Nat.le_refl _, fun _ _ => rfl⟩)
  have CC : Calls Try.prog 36 #[.slice (some ⟨w5.heap.size, 0, none⟩) 1 1] (w5.alloc (.cells #[.slice Y m D] 24)).drew fun e w' => ∃ v, e = .returned v ∧ OwnCh w' (w5.alloc (.cells #[.slice Y m D] 24)).drew.heap.size v L ∧ Below (w5.alloc (.cells #[.slice Y m D] 24)).drew.heap.size (w5.alloc (.cells #[.slice Y m D] 24)).drew w' := by
    have := concat_any w5.heap.size 0 1 1 [.slice Y m D] [L] (w5.alloc (.cells #[.slice Y m D] 24)).drew ⟨rfl, by show w5.heap.size < (w5.alloc _).heap.size; simp, fun i v hv => ?_, fun i v p hv hp => ?_⟩ rfl (by omega) (by simp; omega)
    · simpa using this
    · have C := ca_new w5 [.slice Y m D] 24
      have := (C.2 i v hv).1
      rw [Nat.zero_add]
      exact this
    · match i, hv, hp with
      | 0, hv, hp => simp at hv hp; subst hv hp; exact rdCh_below RL BV
  have HBV := hid BV
  have UV := hid (ca_below U5.out BV)
  have RV := hid (ca_below R5.out BV)
  clear BV RL
  obtain ⟨u0, i0⟩ := ca_at U5.out 0 rfl
  obtain ⟨u1, i1⟩ := ca_at U5.out 1 rfl
  obtain ⟨u2, i2⟩ := ca_at U5.out 2 rfl
  have su := U5.out.1
  have UU : w5.cell? ⟨N + 1, 0, none⟩ = some (.int .i64 g.shift) ∧ w5.cell? ⟨N + 1, 1, none⟩ = some (.int .i64 g.save) ∧ w5.cell? ⟨N + 1, 2, none⟩ = some (strV g.name) := ⟨u0, u1, u2⟩
  have UUV : (w5.alloc (.cells #[.slice Y m D] 24)).drew.cell? ⟨N + 1, 0, none⟩ = some (.int .i64 g.shift) ∧ (w5.alloc (.cells #[.slice Y m D] 24)).drew.cell? ⟨N + 1, 1, none⟩ = some (.int .i64 g.save) ∧ (w5.alloc (.cells #[.slice Y m D] 24)).drew.cell? ⟨N + 1, 2, none⟩ = some (strV g.name) := ⟨(ca_at UV.out 0 rfl).1, (ca_at UV.out 1 rfl).1, (ca_at UV.out 2 rfl).1⟩
  have suV := UV.out.1
  have RV' := RV.out
  have neR : ¬ N + 1 = N + 1 + 1 := by omega
  go_wp2_with fail
  go_region_held3 (fun w' => w'.cell? ⟨N + 1, 0, none⟩ = some (.int .i64 g.shift) ∧ w'.cell? ⟨N + 1, 1, none⟩ = some (.int .i64 g.save) ∧ w'.cell? ⟨N + 1, 2, none⟩ = some (strV g.name))
    (first | with_reducible exact UU | with_reducible exact UUV | with_reducible exact UU6 | with_reducible exact set3 neR (set3 neR (set3 neR (set3 neR (set3 neR (set3 neR UU6))))) | go_keep)
    (first | (go_at_call 36; (with_reducible refine CC.mono ?_); rintro e w6 ⟨pv, rfl, O6, hb6⟩; have UU6 := cells3 hb6 suV UUV; obtain ⟨pa, pcap, rfl⟩ := owns_shape0 O6; obtain ⟨-, ⟨r0, r1, r2, r3, r4, r5⟩, ⟨f0, f1, f2, f3, f4, f5⟩, sr⟩ := res6 RV' hb6; have O7 := hid O6; have hb7 := hid hb6; clear O6 hb6 CC))
  all_goals
    have B6 : Hid (Below w.heap.size w w6) := B5.out.trans ((HBV.out.trans (hb7.out.mono HBV.out.size)).mono B5.out.size)
    have O8 : Hid (OwnCh w6 (N + 1 + 1 + 1) (.slice pa L.length pcap) L) := owns_base O7.out (by have := R5.out.1; show N + 1 + 1 + 1 ≤ (w5.alloc _).heap.size; simp; omega)
    clear O7 hb7
    go_wp2
    refine bodyPost_ret (v := .tuple #[ptV g k s (.slice pa L.length pcap), .int .i64 0]) (by simp [results, Try.results19, go_sem, *]) rfl ?_
    refine ⟨⟨g, k, s, L⟩, .slice pa L.length pcap, by rw [HD2.out], fun _ => ⟨rfl, k, s, rfl, rfl, HPR.out, SQ.out s HEN.out, HM2.out.symm⟩, fun q => absurd HD2.out q, ?_, ?_⟩
    · simp only
      have ne : ∀ o, Value.ownBlock (.slice pa L.length pcap) ≠ some (⟨N + 1 + 1, o, none⟩ : Addr).block := by
        intro o q
        have := (O8.out.lt _ q).1
        simp only at this
        omega
      have o1 : OwnCh w6 w.heap.size (.slice pa L.length pcap) L := owns_base O8.out (by rw [HNN.out]; omega)
      repeat (refine ownsRow_setCell_other ?_ (ne _) _)
      exact o1
    · repeat (refine below_set ?_ (HBN.out _ (by omega)) _)
      exact B6.out
end Go.Proofs.Ytombhnjmelidcaa
