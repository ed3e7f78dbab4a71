/- The walk of DeltaLeast. -/
import Derived.Test.YtombhnjmelidcaaPdG
namespace Go.Proofs.Ytombhnjmelidcaa
open Go.RowKit Go.Lib
set_option linter.unusedVariables false
set_option linter.unusedSimpArgs false

theorem pApply_ok {t : Tb.Tbl} {p : Tb.Pt} (h : Tb.pApplyE t p = 0) : Tb.tableE t = 0 ∧ (0 ≤ p.head ∧ 0 ≤ p.tail ∧ p.head ≤ t.ch.length ∧ p.tail ≤ t.ch.length - p.head) ∧ p.put.length ≤ 1000 ∧ Tb.tableE (Tb.applied t p) = 0 := by
  unfold Tb.pApplyE at h
  split at h
  · rename_i q; exact absurd h q
  · rename_i q
    unfold Tb.applyE Tb.fitsB at h
    split at h
    · omega
    · rename_i q1
      split at h
      · omega
      · rename_i q2
        exact ⟨by simpa using q, by simpa using q1, by omega, h⟩
set_option maxRecDepth 100000 in
set_option maxHeartbeats 4000000 in
theorem deltaLeast_is (t : Tb.Tbl) (v : Value) (p : Tb.Pt) (pv : Value) (w : World) (h : ArgT w t v) (h' : ArgP w p pv) :
    Calls Try.prog 6 #[tbV t.first v, ptV p.first p.head p.tail pv] w fun e w' => e = .returned (.bool true) ∧ Below w.heap.size w w' := by
  have HA := hid h
  have HP := hid h'
  obtain ⟨E, hE⟩ : ∃ E, Tb.pApplyE t p = E := ⟨_, rfl⟩
  have HOK : Hid (E = 0 → Tb.tableE t = 0 ∧ (0 ≤ p.head ∧ 0 ≤ p.tail ∧ p.head ≤ t.ch.length ∧ p.tail ≤ t.ch.length - p.head) ∧ p.put.length ≤ 1000 ∧ Tb.tableE (Tb.applied t p) = 0) := fun q => pApply_ok (hE.trans q)
  have HAPP : Hid (∀ W, Below w.heap.size w W → Calls Try.prog 18 #[tbV t.first v, ptV p.first p.head p.tail pv] W fun e w' => ∃ f ov l, e = .returned (.tuple #[tbV f ov, .int .i64 E]) ∧ (E = 0 → f = p.first ∧ l = (Tb.applied t p).ch) ∧ (¬ E = 0 → f = ⟨0, 0, []⟩ ∧ l = []) ∧ OwnCh w' W.heap.size ov l ∧ Below W.heap.size W w') := fun W hW => by
    have := pApply' (argT_below h hW) (argP_below h' hW)
    refine this.mono ?_
    rintro e w' ⟨f, ov, l, he, h1, h2, h3, h4⟩
    rw [hE] at he h1 h2
    exact ⟨f, ov, l, he, h1, h2, h3, h4⟩
  clear hE
  obtain ⟨va, n, vcap, rfl⟩ : ∃ va n vcap, v = .slice va n vcap := by obtain ⟨a, c, e, _⟩ := h.rd; exact ⟨a, _, c, e⟩
  obtain ⟨pa, m, pcap, rfl, hm⟩ : ∃ pa m pcap, pv = .slice pa m pcap ∧ Hid (m = p.put.length) := by obtain ⟨a, c, e, _⟩ := h'.rd; exact ⟨a, _, c, e, rfl⟩
  obtain ⟨f, a⟩ := t
  obtain ⟨g, H, T, b⟩ := p
  dsimp only at *
  clear h h'
  obtain ⟨N, hN⟩ : ∃ N, w.heap.size = N := ⟨_, rfl⟩
  have HNN := hid hN
  obtain ⟨W0, hW⟩ : ∃ W0, (w.alloc (.cells (tbC f (.slice va n vcap)).toArray 26)).alloc (.cells (ptC g H T (.slice pa m pcap)).toArray 42) = W0 := ⟨_, rfl⟩
  have B0 : Hid (Below w.heap.size w W0) := by
    rw [← hW]; show Below _ _ _
    exact ((Below.refl _ _).alloc (Nat.le_refl _) _).alloc (by simp) _
  have T0 : Hid (CellsAt W0 N (tbC f (.slice va n vcap))) := by rw [← hW, ← hN]; exact ca_alloc (ca_new _ _ _) _
  have P0 : Hid (CellsAt W0 (N + 1) (ptC g H T (.slice pa m pcap))) := by
    rw [← hW, ← hN]; show CellsAt _ _ _
    have := ca_new (w.alloc (.cells (tbC f (.slice va n vcap)).toArray 26)) (ptC g H T (.slice pa m pcap)) 42
    rw [World.size_alloc] at this
    exact this
  have HW := hid hW
  clear hW
  go_enter Try.func6, Try.ntmps6
  go_wp2_with fail
  refine (deltaBegun_is _).mono ?_
  rintro e w1 ⟨rfl, hb1⟩
  rw [show (w.alloc (.cells #[.int .i64 f.shift, .int .i64 f.save, strV f.name, .slice va n vcap] 26)).alloc (.cells #[.int .i64 g.shift, .int .i64 g.save, strV g.name, .int .i64 H, .int .i64 T, .slice pa m pcap] 42) = W0 from HW.out] at hb1
  clear HW hN
  have T1 := hid (ca_below T0.out hb1)
  have P1 := hid (ca_below P0.out hb1)
  have B1 : Hid (Below w.heap.size w w1) := B0.out.trans (hb1.mono B0.out.size)
  clear T0 P0 B0 hb1
  obtain ⟨-, ⟨t0, t1, t2, t3⟩, -, st⟩ := res4 T1.out (Below.refl _ _)
  obtain ⟨-, ⟨p0, p1, p2, p3, p4, p5⟩, -, sp⟩ := res6 P1.out (Below.refl _ _)
  go_wp2_with fail
  refine (HAPP.out w1 B1.out).mono ?_
  rintro e w2 ⟨uf, uv, ul, rfl, q1, q2, O2, hb2⟩
  obtain ⟨ua, ucap, rfl⟩ := owns_shape0 O2
  have HO2 := hid O2
  have T2 := hid (ca_below T1.out hb2)
  have P2 := hid (ca_below P1.out hb2)
  have B2 : Hid (Below w.heap.size w w2) := B1.out.trans (hb2.mono B1.out.size)
  have Q1 := hid q1
  have Q2 := hid q2
  clear T1 P1 B1 O2 q1 q2 HAPP t0 t1 t2 t3 st p0 p1 p2 p3 p4 p5 sp hb2
  by_cases h0 : E = 0
  case neg =>
    obtain ⟨rfl, rfl⟩ := Q2.out h0
    have h0' : (E != 0) = true := by simp [h0]
    go_wp2
    go_ret
    exact ⟨rfl, B2.out.alloc B2.out.size _⟩
  obtain ⟨eu1, eu2⟩ := Q1.out h0
  obtain ⟨g1, g2, g3, g4⟩ := HOK.out h0
  subst h0
  have HG1 : Hid (Tb.tableE ⟨f, a⟩ = 0) := g1
  have HG2 := hid g2
  have HAS := hid (Tb.applied_sized (t := ⟨f, a⟩) (p := ⟨g, H, T, b⟩) HA.out.sized HP.out.first HP.out.names (Tb.good_parts g1).1 g3).1
  have HEQ : Hid ((⟨uf, ul⟩ : Tb.Tbl) = Tb.applied ⟨f, a⟩ ⟨g, H, T, b⟩) := by show _ = _; rw [eu1, eu2]; rfl
  have HG4 : Hid (Tb.tableE ⟨uf, ul⟩ = 0) := by show _ = _; rw [HEQ.out]; exact g4
  have AU : Hid (ArgT w2 ⟨uf, ul⟩ (.slice ua ul.length ucap)) := argT_own HO2.out (by rw [HEQ.out]; exact HAS.out)
  clear g1 g2 g3 g4 eu1 eu2 HAS Q1 Q2 HO2 HOK
  obtain ⟨W2, hW2⟩ : ∃ W2, w2.alloc (.cells (tbC uf (.slice ua ul.length ucap)).toArray 26) = W2 := ⟨_, rfl⟩
  have X2 : Below w2.heap.size w2 W2 := by rw [← hW2]; exact (Below.refl _ _).alloc (Nat.le_refl _) _
  have T3 := hid (ca_below T2.out X2)
  have P3 := hid (ca_below P2.out X2)
  have B3 : Hid (Below w.heap.size w W2) := B2.out.trans (X2.mono B2.out.size)
  have AU3 := hid (argT_below AU.out X2)
  have AT3 := hid (argT_below HA.out B3.out)
  have DD := hid (pDiff' AT3.out AU3.out)
  have HW2 := hid hW2
  clear X2 T2 P2 B2 AU AU3 AT3
  obtain ⟨-, ⟨t0, t1, t2, t3⟩, -, st⟩ := res4 T3.out (Below.refl _ _)
  rw [← hW2] at t0 t1 t2 t3 st
  clear hW2
  go_wp2_with fail
  rw [show w2.alloc (.cells #[.int .i64 uf.shift, .int .i64 uf.save, strV uf.name, .slice ua ul.length ucap] 26) = W2 from HW2.out]
  refine DD.out.mono ?_
  rintro e w3 ⟨q, qv, rfl, z1, _, O3, hb3⟩
  have e0 : Tb.diffE ⟨f, a⟩ ⟨uf, ul⟩ = 0 := by rw [Tb.diffE, HG1.out]; simpa using HG4.out
  have hd := z1 e0
  rw [HEQ.out] at hd
  obtain ⟨l1, l2⟩ := Tb.diff_least HG2.out hd
  rw [e0]
  obtain ⟨qf, qh, qt, ql⟩ := q
  dsimp only at l1 l2 O3 ⊢
  subst l2
  obtain ⟨qa, qcap, rfl⟩ := owns_shape0 O3
  have P4 := hid (ca_below P3.out hb3)
  have B4 : Hid (Below w.heap.size w w3) := B3.out.trans (hb3.mono B3.out.size)
  have hl : (ql.length : Int) ≤ m := by rw [hm.out]; omega
  clear z1 hd e0 l1 O3 hb3 DD HW2 t0 t1 t2 t3 st P3 T3 B3 hm
  obtain ⟨-, ⟨p0, p1, p2, p3, p4, p5⟩, -, sp⟩ := res6 P4.out (Below.refl _ _)
  go_wp2
  go_ret
  exact ⟨rfl, B4.out.alloc B4.out.size _⟩
end Go.Proofs.Ytombhnjmelidcaa
