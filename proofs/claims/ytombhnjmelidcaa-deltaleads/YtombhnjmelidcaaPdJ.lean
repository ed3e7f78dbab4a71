/- The walk of DeltaLeads. -/
import Derived.Test.YtombhnjmelidcaaPdI
namespace Go.Proofs.Ytombhnjmelidcaa
open Go.RowKit Go.Lib
set_option linter.unusedVariables false
set_option linter.unusedSimpArgs false

theorem diffOk {w : World} {t u : Tb.Tbl} {v v' : Value} (h : ArgT w t v) (h' : ArgT w u v') (e1 : Tb.tableE t = 0) (e2 : Tb.tableE u = 0) : Calls Try.prog 19 #[tbV t.first v, tbV u.first v'] w fun e w' => ∃ q qv, e = .returned (.tuple #[ptV q.first q.head q.tail qv, .int .i64 0]) ∧ Hid (Tb.IsDiff t u q) ∧ Hid (OwnCh w' w.heap.size qv q.put) ∧ Below w.heap.size w w' := by
  have e0 : Tb.diffE t u = 0 := by rw [Tb.diffE, e1, e2]; rfl
  refine (pDiff' h h').mono ?_
  rintro e w' ⟨q, qv, he, h1, _, h3, h4⟩
  rw [e0] at he
  exact ⟨q, qv, he, h1 e0, h3, h4⟩
theorem diffNo {w : World} {t u : Tb.Tbl} {v v' : Value} {E : Int} (h : ArgT w t v) (h' : ArgT w u v') (e0 : Tb.diffE t u = E) (hE : E ≠ 0) : Calls Try.prog 19 #[tbV t.first v, tbV u.first v'] w fun e w' => ∃ qv, e = .returned (.tuple #[ptV ⟨0, 0, []⟩ 0 0 qv, .int .i64 E]) ∧ Hid (OwnCh w' w.heap.size qv []) ∧ Below w.heap.size w w' := by
  refine (pDiff' h h').mono ?_
  rintro e w' ⟨q, qv, he, _, h2, h3, h4⟩
  rw [e0] at he h2
  have := h2 hE
  subst this
  exact ⟨qv, he, h3, h4⟩
theorem applyOk {w : World} {t u : Tb.Tbl} {q : Tb.Pt} {v qv : Value} (h : ArgT w t v) (hd : Tb.IsDiff t u q) (h' : ArgP w q qv) (e1 : Tb.tableE t = 0) (e2 : Tb.tableE u = 0) : Calls Try.prog 18 #[tbV t.first v, ptV q.first q.head q.tail qv] w fun e w' => ∃ ov, e = .returned (.tuple #[tbV u.first ov, .int .i64 0]) ∧ Hid (OwnCh w' w.heap.size ov u.ch) ∧ Below w.heap.size w w' := by
  have e0 : Tb.pApplyE t q = 0 := by rw [Tb.pApplyE, e1, if_neg (by simp), Tb.diff_applyE hd (Tb.good_parts e2).1, e2]
  refine (pApply' h h').mono ?_
  rintro e w' ⟨f, ov, l, he, h1, _, h3, h4⟩
  obtain ⟨hf, hl⟩ := h1 e0
  rw [Tb.diff_applied hd] at hl
  rw [e0, hf, hd.first] at he
  rw [hl] at h3
  exact ⟨ov, he, h3, h4⟩

set_option maxRecDepth 100000 in
set_option maxHeartbeats 8000000 in
theorem deltaLeads_is (t : Tb.Tbl) (tv : Value) (u : Tb.Tbl) (uv : Value) (v : Tb.Tbl) (vv : Value) (w : World) (h : ArgT w t tv) (h2 : ArgT w u uv) (h3 : ArgT w v vv) :
    Calls Try.prog 8 #[tbV t.first tv, tbV u.first uv, tbV v.first vv] w fun e w' => e = .returned (.bool true) ∧ Below w.heap.size w w' := by
  have HT := hid h
  have HU := hid h2
  have HV := hid h3
  obtain ⟨ta, tc, et, _⟩ := h.rd
  obtain ⟨ua, uc, eu, _⟩ := h2.rd
  obtain ⟨sa, sc, es, _⟩ := h3.rd
  subst et eu es
  obtain ⟨tn, htn⟩ : ∃ n, t.ch.length = n := ⟨_, rfl⟩
  obtain ⟨un, hun⟩ : ∃ n, u.ch.length = n := ⟨_, rfl⟩
  obtain ⟨sn, hsn⟩ : ∃ n, v.ch.length = n := ⟨_, rfl⟩
  obtain ⟨f, hf⟩ : ∃ f, t.first = f := ⟨_, rfl⟩
  obtain ⟨g, hg⟩ : ∃ f, u.first = f := ⟨_, rfl⟩
  obtain ⟨gs, hgs⟩ : ∃ f, v.first = f := ⟨_, rfl⟩
  rw [htn] at HT ⊢
  rw [hun] at HU ⊢
  rw [hsn] at HV ⊢
  rw [hf, hg, hgs]
  have HTN := hid htn
  have Hf := hid hf
  have Hg := hid hg
  have Hgs := hid hgs
  clear h h2 h3 htn hun hsn hf hg hgs
  obtain ⟨N, hN⟩ : ∃ N, w.heap.size = N := ⟨_, rfl⟩
  obtain ⟨W0, hW⟩ : ∃ W0, ((w.alloc (.cells (tbC f (.slice ta tn tc)).toArray 26)).alloc (.cells (tbC g (.slice ua un uc)).toArray 26)).alloc (.cells (tbC gs (.slice sa sn sc)).toArray 26) = W0 := ⟨_, rfl⟩
  have B0 : Hid (Below w.heap.size w W0) := by
    rw [← hW]; show Below _ _ _
    exact (((Below.refl _ _).alloc (Nat.le_refl _) _).alloc (by simp) _).alloc (by simp; omega) _
  have T0 : Hid (CellsAt W0 N (tbC f (.slice ta tn tc))) := by rw [← hW, ← hN]; exact ca_alloc (ca_alloc (ca_new _ _ _) _) _
  have U0 : Hid (CellsAt W0 (N + 1) (tbC g (.slice ua un uc))) := by
    rw [← hW, ← hN]; show CellsAt _ _ _
    have := ca_alloc (ca_new (w.alloc (.cells (tbC f (.slice ta tn tc)).toArray 26)) (tbC g (.slice ua un uc)) 26) (.cells (tbC gs (.slice sa sn sc)).toArray 26)
    rw [World.size_alloc] at this
    exact this
  have S0 : Hid (CellsAt W0 (N + 1 + 1) (tbC gs (.slice sa sn sc))) := by
    rw [← hW, ← hN]; show CellsAt _ _ _
    have := ca_new ((w.alloc (.cells (tbC f (.slice ta tn tc)).toArray 26)).alloc (.cells (tbC g (.slice ua un uc)).toArray 26)) (tbC gs (.slice sa sn sc)) 26
    rw [World.size_alloc, World.size_alloc] at this
    exact this
  have HW := hid hW
  clear hW
  obtain ⟨E, hE⟩ : ∃ E, Tb.diffE t u = E := ⟨_, rfl⟩
  by_cases nE : E = 0
  case neg =>
    have C0 := hid (diffNo (argT_below HT.out B0.out) (argT_below HU.out B0.out) hE nE)
    rw [Hf.out, Hg.out] at C0
    rw [← HW.out] at C0
    have nE' : (E != 0) = true := by simp [nE]
    clear hE
    go_enter Try.func8, Try.ntmps8
    go_wp2_with fail
    refine C0.out.mono ?_
    rintro e w1 ⟨xv, rfl, Xk, hb1⟩
    rw [HW.out] at hb1
    clear C0 HW hN
    obtain ⟨xa, xc, rfl⟩ := owns_shape0 Xk.out
    have Xr := hid (ownCh_rd Xk.out)
    obtain ⟨xn, hxn⟩ : ∃ n, ([] : List Tb.Cg).length = n := ⟨_, rfl⟩
    rw [hxn] at Xr ⊢
    have hx0 : xn = 0 := by rw [← hxn]; rfl
    subst hx0
    obtain ⟨V1, hV1⟩ : ∃ V, w1.alloc (.cells ([.int .i64 0, .int .i64 0, .string ⟨#[]⟩, .int .i64 0, .int .i64 0, .slice xa 0 xc]).toArray 42) = V := ⟨_, rfl⟩
    obtain ⟨b1, hB1⟩ : ∃ b, w1.heap.size = b := ⟨_, rfl⟩
    have step : Below W0.heap.size W0 V1 := by rw [← hV1]; exact hb1.alloc hb1.size _
    have own1 : Below w1.heap.size w1 V1 := by rw [← hV1]; exact (Below.refl _ _).alloc (Nat.le_refl _) _
    have T1 := hid (ca_below T0.out step)
    have U1 := hid (ca_below U0.out step)
    have S1 := hid (ca_below S0.out step)
    have B1 : Hid (Below w.heap.size w V1) := B0.out.trans (step.mono B0.out.size)
    clear T0 U0 S0 B0
    have X1 : Hid (CellsAt V1 b1 ([.int .i64 0, .int .i64 0, .string ⟨#[]⟩, .int .i64 0, .int .i64 0, .slice xa 0 xc])) := by rw [← hV1, ← hB1]; exact ca_new _ _ _
    clear step
    clear Xr Xk hxn
    clear own1 hb1
    go_wp2_with fail
    refine (deltaBegun_is _).mono ?_
    rintro e w2 ⟨rfl, hb2⟩
    have step := hb2
    have T2 := hid (ca_below T1.out step)
    have U2 := hid (ca_below U1.out step)
    have S2 := hid (ca_below S1.out step)
    have X2 := hid (ca_below X1.out step)
    have B2 : Hid (Below w.heap.size w w2) := B1.out.trans (step.mono B1.out.size)
    clear T1 U1 S1 X1 B1
    clear step hb2
    obtain ⟨-, ⟨X_0, X_1, X_2, X_3, X_4, X_5⟩, -, X_s⟩ := res6 X2.out (Below.refl _ _)
    go_wp2
    go_ret
    exact ⟨rfl, B2.out⟩
  subst nE
  obtain ⟨g1, g2⟩ : Tb.tableE t = 0 ∧ Tb.tableE u = 0 := by
    rw [Tb.diffE] at hE
    split at hE
    · rename_i q; exact absurd hE q
    · rename_i q; exact ⟨by simpa using q, hE⟩
  clear hE
  have G1 := hid g1
  have G2 := hid g2
  have HLT : Hid (t.ch.length ≤ 1000) := (Tb.good_parts g1).1
  have HLU : Hid (u.ch.length ≤ 1000000) := Nat.le_trans (Tb.good_parts g2).1 (by decide)
  clear g1 g2
  have HAP1 : Hid (∀ W, Below w.heap.size w W → ∀ (q : Tb.Pt) (qv : Value), Tb.IsDiff t u q → ArgP W q qv → Calls Try.prog 18 #[tbV f (.slice ta tn tc), ptV q.first q.head q.tail qv] W fun e w' => ∃ ov, e = .returned (.tuple #[tbV g ov, .int .i64 0]) ∧ Hid (OwnCh w' W.heap.size ov u.ch) ∧ Below W.heap.size W w') := fun W hW q qv hd hq => by
    rw [← Hf.out, ← Hg.out]; exact applyOk (argT_below HT.out hW) hd hq G1.out G2.out
  obtain ⟨⟨qf, qh, qt, qp⟩, hq⟩ : ∃ q, Tb.IsDiff t t q ∨ ¬ ∃ q, Tb.IsDiff t t q := by
    by_cases q : ∃ q, Tb.IsDiff t t q
    · obtain ⟨q, hq⟩ := q; exact ⟨q, .inl hq⟩
    · exact ⟨pt0, .inr q⟩
  have HDTT : Hid (∀ W, Below w.heap.size w W → Calls Try.prog 19 #[tbV f (.slice ta tn tc), tbV f (.slice ta tn tc)] W fun e w' => ∃ qv, e = .returned (.tuple #[ptV qf (tn : Int) qt qv, .int .i64 0]) ∧ Hid (OwnCh w' W.heap.size qv []) ∧ Below W.heap.size W w') := fun W hW => by
    rw [← Hf.out]
    refine (diffOk (argT_below HT.out hW) (argT_below HT.out hW) G1.out G1.out).mono ?_
    rintro e w' ⟨q, qv, he, h1, h2, h3⟩
    rcases hq with hq | hq
    · have := Tb.diff_unique h1.out hq
      subst this
      obtain ⟨s1, s2⟩ := Tb.diff_self h1.out
      simp only at s1 s2
      rw [s1] at h2
      rw [s2, HTN.out] at he
      exact ⟨qv, he, h2, h3⟩
    · exact absurd ⟨q, h1.out⟩ hq
  clear hq
  have C0 := hid (diffOk (argT_below HT.out B0.out) (argT_below HU.out B0.out) G1.out G2.out)
  rw [Hf.out, Hg.out] at C0
  rw [← HW.out] at C0
  obtain ⟨F, hF⟩ : ∃ E, Tb.tableE v = E := ⟨_, rfl⟩
  by_cases nF : F = 0
  case neg =>
    have nF' : (F != 0) = true := by simp [nF]
    have HDTV : Hid (∀ W, Below w.heap.size w W → Calls Try.prog 19 #[tbV f (.slice ta tn tc), tbV gs (.slice sa sn sc)] W fun e w' => ∃ qv, e = .returned (.tuple #[ptV ⟨0, 0, []⟩ 0 0 qv, .int .i64 F]) ∧ Hid (OwnCh w' W.heap.size qv []) ∧ Below W.heap.size W w') := fun W hW => by
      rw [← Hf.out, ← Hgs.out]; exact diffNo (argT_below HT.out hW) (argT_below HV.out hW) (by rw [Tb.diffE, G1.out, if_neg (by simp), hF]) nF
    clear hF
    go_enter Try.func8, Try.ntmps8
    go_wp2_with fail
    refine C0.out.mono ?_
    rintro e w1 ⟨⟨xf, xh, xt, xp⟩, xv, rfl, XD, Xk, hb1⟩
    rw [HW.out] at hb1
    clear C0 HW hN
    dsimp only at Xk ⊢
    obtain ⟨xa, xc, rfl⟩ := owns_shape0 Xk.out
    have xr := hid (ownCh_rd Xk.out)
    obtain ⟨xn, hxn⟩ : ∃ n, xp.length = n := ⟨_, rfl⟩
    rw [hxn] at xr ⊢
    obtain ⟨V1, hV1⟩ : ∃ V, w1.alloc (.cells (ptC xf xh xt (.slice xa xn xc)).toArray 42) = V := ⟨_, rfl⟩
    obtain ⟨b1, hB1⟩ : ∃ b, w1.heap.size = b := ⟨_, rfl⟩
    have step : Below W0.heap.size W0 V1 := by rw [← hV1]; exact hb1.alloc hb1.size _
    have own1 : Below w1.heap.size w1 V1 := by rw [← hV1]; exact (Below.refl _ _).alloc (Nat.le_refl _) _
    have T1 := hid (ca_below T0.out step)
    have U1 := hid (ca_below U0.out step)
    have S1 := hid (ca_below S0.out step)
    have B1 : Hid (Below w.heap.size w V1) := B0.out.trans (step.mono B0.out.size)
    clear T0 U0 S0 B0
    have X1 : Hid (CellsAt V1 b1 (ptC xf xh xt (.slice xa xn xc))) := by rw [← hV1, ← hB1]; exact ca_new _ _ _
    clear step
    have XA1 := hid ((show ArgP V1 ⟨xf, xh, xt, xp⟩ (.slice xa xn xc) from by have := argP_below (argP_diff Xk.out XD.out HU.out.sized HLT.out) own1; rw [hxn] at this; exact this))
    clear xr Xk hxn
    clear own1 hb1
    go_wp2_with fail
    refine (deltaBegun_is _).mono ?_
    rintro e w2 ⟨rfl, hb2⟩
    have step := hb2
    have T2 := hid (ca_below T1.out step)
    have U2 := hid (ca_below U1.out step)
    have S2 := hid (ca_below S1.out step)
    have X2 := hid (ca_below X1.out step)
    have XA2 := hid (argP_below XA1.out step)
    have B2 : Hid (Below w.heap.size w w2) := B1.out.trans (step.mono B1.out.size)
    clear T1 U1 S1 X1 XA1 B1
    clear step hb2
    obtain ⟨-, ⟨T_0, T_1, T_2, T_3⟩, -, T_s⟩ := res4 T2.out (Below.refl _ _)
    obtain ⟨-, ⟨X_0, X_1, X_2, X_3, X_4, X_5⟩, -, X_s⟩ := res6 X2.out (Below.refl _ _)
    go_wp2_with fail
    refine (HAP1.out w2 B2.out _ _ XD.out XA2.out).mono ?_
    rintro e w3 ⟨yv, rfl, Yk, hb3⟩
    clear T_0 T_1 T_2 T_3 T_s X_0 X_1 X_2 X_3 X_4 X_5 X_s
    obtain ⟨ya, yc, rfl⟩ := owns_shape0 Yk.out
    have yr := hid (ownCh_rd Yk.out)
    obtain ⟨yn, hyn⟩ : ∃ n, u.ch.length = n := ⟨_, rfl⟩
    rw [hyn] at yr ⊢
    obtain ⟨V3, hV3⟩ : ∃ V, w3.alloc (.cells (tbC g (.slice ya yn yc)).toArray 26) = V := ⟨_, rfl⟩
    obtain ⟨b3, hB3⟩ : ∃ b, w3.heap.size = b := ⟨_, rfl⟩
    have step : Below w2.heap.size w2 V3 := by rw [← hV3]; exact hb3.alloc hb3.size _
    have own1 : Below w3.heap.size w3 V3 := by rw [← hV3]; exact (Below.refl _ _).alloc (Nat.le_refl _) _
    have T3 := hid (ca_below T2.out step)
    have U3 := hid (ca_below U2.out step)
    have S3 := hid (ca_below S2.out step)
    have X3 := hid (ca_below X2.out step)
    have XA3 := hid (argP_below XA2.out step)
    have B3 : Hid (Below w.heap.size w V3) := B2.out.trans (step.mono B2.out.size)
    clear T2 U2 S2 X2 XA2 B2
    have Y3 : Hid (CellsAt V3 b3 (tbC g (.slice ya yn yc))) := by rw [← hV3, ← hB3]; exact ca_new _ _ _
    clear step
    have YR3 := hid (rdCh_below yr.out own1)
    clear yr Yk
    clear own1 hb3
    obtain ⟨-, ⟨Y_0, Y_1, Y_2, Y_3⟩, -, Y_s⟩ := res4 Y3.out (Below.refl _ _)
    obtain ⟨-, ⟨U_0, U_1, U_2, U_3⟩, -, U_s⟩ := res4 U3.out (Below.refl _ _)
    go_wp2_with fail
    refine (sameTable_yes g _ _ u.ch _ YR3.out (argT_below HU.out B3.out).rd HLU.out).mono ?_
    rintro e w4 ⟨rfl, hb4⟩
    clear Y_0 Y_1 Y_2 Y_3 Y_s U_0 U_1 U_2 U_3 U_s
    have step := hb4
    have T4 := hid (ca_below T3.out step)
    have U4 := hid (ca_below U3.out step)
    have S4 := hid (ca_below S3.out step)
    have X4 := hid (ca_below X3.out step)
    have Y4 := hid (ca_below Y3.out step)
    have XA4 := hid (argP_below XA3.out step)
    have YR4 := hid (rdCh_below YR3.out step)
    have B4 : Hid (Below w.heap.size w w4) := B3.out.trans (step.mono B3.out.size)
    clear T3 U3 S3 X3 Y3 XA3 YR3 B3
    clear step hb4
    obtain ⟨-, ⟨T_0, T_1, T_2, T_3⟩, -, T_s⟩ := res4 T4.out (Below.refl _ _)
    go_wp2_with fail
    refine (HDTT.out w4 B4.out).mono ?_
    rintro e w5 ⟨qv, rfl, Qk, hb5⟩
    clear T_0 T_1 T_2 T_3 T_s
    obtain ⟨qa, qc, rfl⟩ := owns_shape0 Qk.out
    have qr := hid (ownCh_rd Qk.out)
    obtain ⟨qn, hqn⟩ : ∃ n, ([] : List Tb.Cg).length = n := ⟨_, rfl⟩
    rw [hqn] at qr ⊢
    have hq0 : qn = 0 := by rw [← hqn]; rfl
    subst hq0
    obtain ⟨V5, hV5⟩ : ∃ V, w5.alloc (.cells (ptC qf (tn : Int) qt (.slice qa 0 qc)).toArray 42) = V := ⟨_, rfl⟩
    obtain ⟨b5, hB5⟩ : ∃ b, w5.heap.size = b := ⟨_, rfl⟩
    have step : Below w4.heap.size w4 V5 := by rw [← hV5]; exact hb5.alloc hb5.size _
    have own1 : Below w5.heap.size w5 V5 := by rw [← hV5]; exact (Below.refl _ _).alloc (Nat.le_refl _) _
    have T5 := hid (ca_below T4.out step)
    have U5 := hid (ca_below U4.out step)
    have S5 := hid (ca_below S4.out step)
    have X5 := hid (ca_below X4.out step)
    have Y5 := hid (ca_below Y4.out step)
    have XA5 := hid (argP_below XA4.out step)
    have YR5 := hid (rdCh_below YR4.out step)
    have B5 : Hid (Below w.heap.size w V5) := B4.out.trans (step.mono B4.out.size)
    clear T4 U4 S4 X4 Y4 XA4 YR4 B4
    have Q5 : Hid (CellsAt V5 b5 (ptC qf (tn : Int) qt (.slice qa 0 qc))) := by rw [← hV5, ← hB5]; exact ca_new _ _ _
    clear step
    clear qr Qk hqn
    clear own1 hb5
    obtain ⟨-, ⟨T_0, T_1, T_2, T_3⟩, -, T_s⟩ := res4 T5.out (Below.refl _ _)
    obtain ⟨-, ⟨S_0, S_1, S_2, S_3⟩, -, S_s⟩ := res4 S5.out (Below.refl _ _)
    obtain ⟨-, ⟨Q_0, Q_1, Q_2, Q_3, Q_4, Q_5⟩, -, Q_s⟩ := res6 Q5.out (Below.refl _ _)
    go_wp2_with fail
    refine (HDTV.out V5 B5.out).mono ?_
    rintro e w6 ⟨av, rfl, Ak, hb6⟩
    clear T_0 T_1 T_2 T_3 T_s S_0 S_1 S_2 S_3 S_s Q_0 Q_1 Q_2 Q_3 Q_4 Q_5 Q_s
    obtain ⟨aa, ac, rfl⟩ := owns_shape0 Ak.out
    have ar := hid (ownCh_rd Ak.out)
    obtain ⟨an, han⟩ : ∃ n, ([] : List Tb.Cg).length = n := ⟨_, rfl⟩
    rw [han] at ar ⊢
    obtain ⟨V6, hV6⟩ : ∃ V, w6.alloc (.cells ([.int .i64 0, .int .i64 0, .string ⟨#[]⟩, .int .i64 0, .int .i64 0, .slice aa an ac]).toArray 42) = V := ⟨_, rfl⟩
    obtain ⟨b6, hB6⟩ : ∃ b, w6.heap.size = b := ⟨_, rfl⟩
    have step : Below V5.heap.size V5 V6 := by rw [← hV6]; exact hb6.alloc hb6.size _
    have own1 : Below w6.heap.size w6 V6 := by rw [← hV6]; exact (Below.refl _ _).alloc (Nat.le_refl _) _
    have T6 := hid (ca_below T5.out step)
    have U6 := hid (ca_below U5.out step)
    have S6 := hid (ca_below S5.out step)
    have X6 := hid (ca_below X5.out step)
    have Y6 := hid (ca_below Y5.out step)
    have Q6 := hid (ca_below Q5.out step)
    have XA6 := hid (argP_below XA5.out step)
    have YR6 := hid (rdCh_below YR5.out step)
    have B6 : Hid (Below w.heap.size w V6) := B5.out.trans (step.mono B5.out.size)
    clear T5 U5 S5 X5 Y5 Q5 XA5 YR5 B5
    have A6 : Hid (CellsAt V6 b6 ([.int .i64 0, .int .i64 0, .string ⟨#[]⟩, .int .i64 0, .int .i64 0, .slice aa an ac])) := by rw [← hV6, ← hB6]; exact ca_new _ _ _
    clear step
    clear ar Ak han
    clear own1 hb6
    go_wp2
    go_ret
    exact ⟨rfl, B6.out⟩
  subst nF
  have G3 := hid hF
  have HLV : Hid (v.ch.length ≤ 1000) := (Tb.good_parts hF).1
  clear hF
  have HDTV : Hid (∀ W, Below w.heap.size w W → Calls Try.prog 19 #[tbV f (.slice ta tn tc), tbV gs (.slice sa sn sc)] W fun e w' => ∃ q qv, e = .returned (.tuple #[ptV q.first q.head q.tail qv, .int .i64 0]) ∧ Hid (Tb.IsDiff t v q) ∧ Hid (OwnCh w' W.heap.size qv q.put) ∧ Below W.heap.size W w') := fun W hW => by
    rw [← Hf.out, ← Hgs.out]; exact diffOk (argT_below HT.out hW) (argT_below HV.out hW) G1.out G3.out
  have HDVU : Hid (∀ W, Below w.heap.size w W → Calls Try.prog 19 #[tbV gs (.slice sa sn sc), tbV g (.slice ua un uc)] W fun e w' => ∃ q qv, e = .returned (.tuple #[ptV q.first q.head q.tail qv, .int .i64 0]) ∧ Hid (Tb.IsDiff v u q) ∧ Hid (OwnCh w' W.heap.size qv q.put) ∧ Below W.heap.size W w') := fun W hW => by
    rw [← Hg.out, ← Hgs.out]; exact diffOk (argT_below HV.out hW) (argT_below HU.out hW) G3.out G2.out
  have HAP2 : Hid (∀ W, Below w.heap.size w W → ∀ (q : Tb.Pt) (qv : Value), Tb.IsDiff t v q → ArgP W q qv → Calls Try.prog 18 #[tbV f (.slice ta tn tc), ptV q.first q.head q.tail qv] W fun e w' => ∃ ov, e = .returned (.tuple #[tbV gs ov, .int .i64 0]) ∧ Hid (OwnCh w' W.heap.size ov v.ch) ∧ Below W.heap.size W w') := fun W hW q qv hd hq => by
    rw [← Hf.out, ← Hgs.out]; exact applyOk (argT_below HT.out hW) hd hq G1.out G3.out
  have HAP3 : Hid (∀ (W : World) (cv : Value) (q : Tb.Pt) (qv : Value), ArgT W v cv → Tb.IsDiff v u q → ArgP W q qv → Calls Try.prog 18 #[tbV gs cv, ptV q.first q.head q.tail qv] W fun e w' => ∃ ov, e = .returned (.tuple #[tbV g ov, .int .i64 0]) ∧ Hid (OwnCh w' W.heap.size ov u.ch) ∧ Below W.heap.size W w') := fun W cv q qv hc hd hq => by
    rw [← Hg.out, ← Hgs.out]; exact applyOk hc hd hq G3.out G2.out
  go_enter Try.func8, Try.ntmps8
  go_wp2_with fail
  refine C0.out.mono ?_
  rintro e w1 ⟨⟨xf, xh, xt, xp⟩, xv, rfl, XD, Xk, hb1⟩
  rw [HW.out] at hb1
  clear C0 HW hN
  dsimp only at Xk ⊢
  obtain ⟨xa, xc, rfl⟩ := owns_shape0 Xk.out
  have xr := hid (ownCh_rd Xk.out)
  obtain ⟨xn, hxn⟩ : ∃ n, xp.length = n := ⟨_, rfl⟩
  rw [hxn] at xr ⊢
  obtain ⟨V1, hV1⟩ : ∃ V, w1.alloc (.cells (ptC xf xh xt (.slice xa xn xc)).toArray 42) = V := ⟨_, rfl⟩
  obtain ⟨b1, hB1⟩ : ∃ b, w1.heap.size = b := ⟨_, rfl⟩
  have step : Below W0.heap.size W0 V1 := by rw [← hV1]; exact hb1.alloc hb1.size _
  have own1 : Below w1.heap.size w1 V1 := by rw [← hV1]; exact (Below.refl _ _).alloc (Nat.le_refl _) _
  have T1 := hid (ca_below T0.out step)
  have U1 := hid (ca_below U0.out step)
  have S1 := hid (ca_below S0.out step)
  have B1 : Hid (Below w.heap.size w V1) := B0.out.trans (step.mono B0.out.size)
  clear T0 U0 S0 B0
  have X1 : Hid (CellsAt V1 b1 (ptC xf xh xt (.slice xa xn xc))) := by rw [← hV1, ← hB1]; exact ca_new _ _ _
  clear step
  have XA1 := hid ((show ArgP V1 ⟨xf, xh, xt, xp⟩ (.slice xa xn xc) from by have := argP_below (argP_diff Xk.out XD.out HU.out.sized HLT.out) own1; rw [hxn] at this; exact this))
  clear xr Xk hxn
  clear own1 hb1
  go_wp2_with fail
  refine (deltaBegun_is _).mono ?_
  rintro e w2 ⟨rfl, hb2⟩
  have step := hb2
  have T2 := hid (ca_below T1.out step)
  have U2 := hid (ca_below U1.out step)
  have S2 := hid (ca_below S1.out step)
  have X2 := hid (ca_below X1.out step)
  have XA2 := hid (argP_below XA1.out step)
  have B2 : Hid (Below w.heap.size w w2) := B1.out.trans (step.mono B1.out.size)
  clear T1 U1 S1 X1 XA1 B1
  clear step hb2
  obtain ⟨-, ⟨T_0, T_1, T_2, T_3⟩, -, T_s⟩ := res4 T2.out (Below.refl _ _)
  obtain ⟨-, ⟨X_0, X_1, X_2, X_3, X_4, X_5⟩, -, X_s⟩ := res6 X2.out (Below.refl _ _)
  go_wp2_with fail
  refine (HAP1.out w2 B2.out _ _ XD.out XA2.out).mono ?_
  rintro e w3 ⟨yv, rfl, Yk, hb3⟩
  clear T_0 T_1 T_2 T_3 T_s X_0 X_1 X_2 X_3 X_4 X_5 X_s
  obtain ⟨ya, yc, rfl⟩ := owns_shape0 Yk.out
  have yr := hid (ownCh_rd Yk.out)
  obtain ⟨yn, hyn⟩ : ∃ n, u.ch.length = n := ⟨_, rfl⟩
  rw [hyn] at yr ⊢
  obtain ⟨V3, hV3⟩ : ∃ V, w3.alloc (.cells (tbC g (.slice ya yn yc)).toArray 26) = V := ⟨_, rfl⟩
  obtain ⟨b3, hB3⟩ : ∃ b, w3.heap.size = b := ⟨_, rfl⟩
  have step : Below w2.heap.size w2 V3 := by rw [← hV3]; exact hb3.alloc hb3.size _
  have own1 : Below w3.heap.size w3 V3 := by rw [← hV3]; exact (Below.refl _ _).alloc (Nat.le_refl _) _
  have T3 := hid (ca_below T2.out step)
  have U3 := hid (ca_below U2.out step)
  have S3 := hid (ca_below S2.out step)
  have X3 := hid (ca_below X2.out step)
  have XA3 := hid (argP_below XA2.out step)
  have B3 : Hid (Below w.heap.size w V3) := B2.out.trans (step.mono B2.out.size)
  clear T2 U2 S2 X2 XA2 B2
  have Y3 : Hid (CellsAt V3 b3 (tbC g (.slice ya yn yc))) := by rw [← hV3, ← hB3]; exact ca_new _ _ _
  clear step
  have YR3 := hid (rdCh_below yr.out own1)
  clear yr Yk
  clear own1 hb3
  obtain ⟨-, ⟨Y_0, Y_1, Y_2, Y_3⟩, -, Y_s⟩ := res4 Y3.out (Below.refl _ _)
  obtain ⟨-, ⟨U_0, U_1, U_2, U_3⟩, -, U_s⟩ := res4 U3.out (Below.refl _ _)
  go_wp2_with fail
  refine (sameTable_yes g _ _ u.ch _ YR3.out (argT_below HU.out B3.out).rd HLU.out).mono ?_
  rintro e w4 ⟨rfl, hb4⟩
  clear Y_0 Y_1 Y_2 Y_3 Y_s U_0 U_1 U_2 U_3 U_s
  have step := hb4
  have T4 := hid (ca_below T3.out step)
  have U4 := hid (ca_below U3.out step)
  have S4 := hid (ca_below S3.out step)
  have X4 := hid (ca_below X3.out step)
  have Y4 := hid (ca_below Y3.out step)
  have XA4 := hid (argP_below XA3.out step)
  have YR4 := hid (rdCh_below YR3.out step)
  have B4 : Hid (Below w.heap.size w w4) := B3.out.trans (step.mono B3.out.size)
  clear T3 U3 S3 X3 Y3 XA3 YR3 B3
  clear step hb4
  obtain ⟨-, ⟨T_0, T_1, T_2, T_3⟩, -, T_s⟩ := res4 T4.out (Below.refl _ _)
  go_wp2_with fail
  refine (HDTT.out w4 B4.out).mono ?_
  rintro e w5 ⟨qv, rfl, Qk, hb5⟩
  clear T_0 T_1 T_2 T_3 T_s
  obtain ⟨qa, qc, rfl⟩ := owns_shape0 Qk.out
  have qr := hid (ownCh_rd Qk.out)
  obtain ⟨qn, hqn⟩ : ∃ n, ([] : List Tb.Cg).length = n := ⟨_, rfl⟩
  rw [hqn] at qr ⊢
  have hq0 : qn = 0 := by rw [← hqn]; rfl
  subst hq0
  obtain ⟨V5, hV5⟩ : ∃ V, w5.alloc (.cells (ptC qf (tn : Int) qt (.slice qa 0 qc)).toArray 42) = V := ⟨_, rfl⟩
  obtain ⟨b5, hB5⟩ : ∃ b, w5.heap.size = b := ⟨_, rfl⟩
  have step : Below w4.heap.size w4 V5 := by rw [← hV5]; exact hb5.alloc hb5.size _
  have own1 : Below w5.heap.size w5 V5 := by rw [← hV5]; exact (Below.refl _ _).alloc (Nat.le_refl _) _
  have T5 := hid (ca_below T4.out step)
  have U5 := hid (ca_below U4.out step)
  have S5 := hid (ca_below S4.out step)
  have X5 := hid (ca_below X4.out step)
  have Y5 := hid (ca_below Y4.out step)
  have XA5 := hid (argP_below XA4.out step)
  have YR5 := hid (rdCh_below YR4.out step)
  have B5 : Hid (Below w.heap.size w V5) := B4.out.trans (step.mono B4.out.size)
  clear T4 U4 S4 X4 Y4 XA4 YR4 B4
  have Q5 : Hid (CellsAt V5 b5 (ptC qf (tn : Int) qt (.slice qa 0 qc))) := by rw [← hV5, ← hB5]; exact ca_new _ _ _
  clear step
  clear qr Qk hqn
  clear own1 hb5
  obtain ⟨-, ⟨T_0, T_1, T_2, T_3⟩, -, T_s⟩ := res4 T5.out (Below.refl _ _)
  obtain ⟨-, ⟨S_0, S_1, S_2, S_3⟩, -, S_s⟩ := res4 S5.out (Below.refl _ _)
  obtain ⟨-, ⟨Q_0, Q_1, Q_2, Q_3, Q_4, Q_5⟩, -, Q_s⟩ := res6 Q5.out (Below.refl _ _)
  go_wp2_with fail
  refine (HDTV.out V5 B5.out).mono ?_
  rintro e w6 ⟨⟨af, ah, at_, ap⟩, av, rfl, AD, Ak, hb6⟩
  clear T_0 T_1 T_2 T_3 T_s S_0 S_1 S_2 S_3 S_s Q_0 Q_1 Q_2 Q_3 Q_4 Q_5 Q_s
  dsimp only at Ak ⊢
  obtain ⟨aa, ac, rfl⟩ := owns_shape0 Ak.out
  have ar := hid (ownCh_rd Ak.out)
  obtain ⟨an, han⟩ : ∃ n, ap.length = n := ⟨_, rfl⟩
  rw [han] at ar ⊢
  obtain ⟨V6, hV6⟩ : ∃ V, w6.alloc (.cells (ptC af ah at_ (.slice aa an ac)).toArray 42) = V := ⟨_, rfl⟩
  obtain ⟨b6, hB6⟩ : ∃ b, w6.heap.size = b := ⟨_, rfl⟩
  have step : Below V5.heap.size V5 V6 := by rw [← hV6]; exact hb6.alloc hb6.size _
  have own1 : Below w6.heap.size w6 V6 := by rw [← hV6]; exact (Below.refl _ _).alloc (Nat.le_refl _) _
  have T6 := hid (ca_below T5.out step)
  have U6 := hid (ca_below U5.out step)
  have S6 := hid (ca_below S5.out step)
  have X6 := hid (ca_below X5.out step)
  have Y6 := hid (ca_below Y5.out step)
  have Q6 := hid (ca_below Q5.out step)
  have XA6 := hid (argP_below XA5.out step)
  have YR6 := hid (rdCh_below YR5.out step)
  have B6 : Hid (Below w.heap.size w V6) := B5.out.trans (step.mono B5.out.size)
  clear T5 U5 S5 X5 Y5 Q5 XA5 YR5 B5
  have A6 : Hid (CellsAt V6 b6 (ptC af ah at_ (.slice aa an ac))) := by rw [← hV6, ← hB6]; exact ca_new _ _ _
  clear step
  have AA6 := hid ((show ArgP V6 ⟨af, ah, at_, ap⟩ (.slice aa an ac) from by have := argP_below (argP_diff Ak.out AD.out HV.out.sized HLT.out) own1; rw [han] at this; exact this))
  clear ar Ak han
  clear own1 hb6
  obtain ⟨-, ⟨S_0, S_1, S_2, S_3⟩, -, S_s⟩ := res4 S6.out (Below.refl _ _)
  obtain ⟨-, ⟨U_0, U_1, U_2, U_3⟩, -, U_s⟩ := res4 U6.out (Below.refl _ _)
  go_wp2_with fail
  refine (HDVU.out V6 B6.out).mono ?_
  rintro e w7 ⟨⟨bf, bh, bt, bp⟩, bv, rfl, BD, Bk, hb7⟩
  clear S_0 S_1 S_2 S_3 S_s U_0 U_1 U_2 U_3 U_s
  dsimp only at Bk ⊢
  obtain ⟨ba, bc, rfl⟩ := owns_shape0 Bk.out
  have br := hid (ownCh_rd Bk.out)
  obtain ⟨bn, hbn⟩ : ∃ n, bp.length = n := ⟨_, rfl⟩
  rw [hbn] at br ⊢
  obtain ⟨V7, hV7⟩ : ∃ V, w7.alloc (.cells (ptC bf bh bt (.slice ba bn bc)).toArray 42) = V := ⟨_, rfl⟩
  obtain ⟨b7, hB7⟩ : ∃ b, w7.heap.size = b := ⟨_, rfl⟩
  have step : Below V6.heap.size V6 V7 := by rw [← hV7]; exact hb7.alloc hb7.size _
  have own1 : Below w7.heap.size w7 V7 := by rw [← hV7]; exact (Below.refl _ _).alloc (Nat.le_refl _) _
  have T7 := hid (ca_below T6.out step)
  have U7 := hid (ca_below U6.out step)
  have S7 := hid (ca_below S6.out step)
  have X7 := hid (ca_below X6.out step)
  have Y7 := hid (ca_below Y6.out step)
  have Q7 := hid (ca_below Q6.out step)
  have A7 := hid (ca_below A6.out step)
  have XA7 := hid (argP_below XA6.out step)
  have YR7 := hid (rdCh_below YR6.out step)
  have AA7 := hid (argP_below AA6.out step)
  have B7 : Hid (Below w.heap.size w V7) := B6.out.trans (step.mono B6.out.size)
  clear T6 U6 S6 X6 Y6 Q6 A6 XA6 YR6 AA6 B6
  have D7 : Hid (CellsAt V7 b7 (ptC bf bh bt (.slice ba bn bc))) := by rw [← hV7, ← hB7]; exact ca_new _ _ _
  clear step
  have DA7 := hid ((show ArgP V7 ⟨bf, bh, bt, bp⟩ (.slice ba bn bc) from by have := argP_below (argP_diff Bk.out BD.out HU.out.sized HLV.out) own1; rw [hbn] at this; exact this))
  clear br Bk hbn
  clear own1 hb7
  obtain ⟨-, ⟨T_0, T_1, T_2, T_3⟩, -, T_s⟩ := res4 T7.out (Below.refl _ _)
  obtain ⟨-, ⟨A_0, A_1, A_2, A_3, A_4, A_5⟩, -, A_s⟩ := res6 A7.out (Below.refl _ _)
  go_wp2_with fail
  refine (HAP2.out V7 B7.out _ _ AD.out AA7.out).mono ?_
  rintro e w8 ⟨cv, rfl, Ck, hb8⟩
  clear T_0 T_1 T_2 T_3 T_s A_0 A_1 A_2 A_3 A_4 A_5 A_s
  obtain ⟨ca, cc, rfl⟩ := owns_shape0 Ck.out
  have cr := hid (ownCh_rd Ck.out)
  obtain ⟨cn, hcn⟩ : ∃ n, v.ch.length = n := ⟨_, rfl⟩
  rw [hcn] at cr ⊢
  obtain ⟨V8, hV8⟩ : ∃ V, w8.alloc (.cells (tbC gs (.slice ca cn cc)).toArray 26) = V := ⟨_, rfl⟩
  obtain ⟨b8, hB8⟩ : ∃ b, w8.heap.size = b := ⟨_, rfl⟩
  have step : Below V7.heap.size V7 V8 := by rw [← hV8]; exact hb8.alloc hb8.size _
  have own1 : Below w8.heap.size w8 V8 := by rw [← hV8]; exact (Below.refl _ _).alloc (Nat.le_refl _) _
  have T8 := hid (ca_below T7.out step)
  have U8 := hid (ca_below U7.out step)
  have S8 := hid (ca_below S7.out step)
  have X8 := hid (ca_below X7.out step)
  have Y8 := hid (ca_below Y7.out step)
  have Q8 := hid (ca_below Q7.out step)
  have A8 := hid (ca_below A7.out step)
  have D8 := hid (ca_below D7.out step)
  have XA8 := hid (argP_below XA7.out step)
  have YR8 := hid (rdCh_below YR7.out step)
  have AA8 := hid (argP_below AA7.out step)
  have DA8 := hid (argP_below DA7.out step)
  have B8 : Hid (Below w.heap.size w V8) := B7.out.trans (step.mono B7.out.size)
  clear T7 U7 S7 X7 Y7 Q7 A7 D7 XA7 YR7 AA7 DA7 B7
  have C8 : Hid (CellsAt V8 b8 (tbC gs (.slice ca cn cc))) := by rw [← hV8, ← hB8]; exact ca_new _ _ _
  clear step
  have CA8 := hid ((show ArgT V8 v (.slice ca cn cc) from by have := argT_below (argT_own (f := v.first) Ck.out HV.out.sized) own1; rw [hcn] at this; exact this))
  clear cr Ck hcn
  clear own1 hb8
  obtain ⟨-, ⟨C_0, C_1, C_2, C_3⟩, -, C_s⟩ := res4 C8.out (Below.refl _ _)
  obtain ⟨-, ⟨D_0, D_1, D_2, D_3, D_4, D_5⟩, -, D_s⟩ := res6 D8.out (Below.refl _ _)
  go_wp2_with fail
  refine (HAP3.out V8 _ _ _ CA8.out BD.out DA8.out).mono ?_
  rintro e w9 ⟨dv, rfl, Dk, hb9⟩
  clear C_0 C_1 C_2 C_3 C_s D_0 D_1 D_2 D_3 D_4 D_5 D_s
  obtain ⟨da, dc, rfl⟩ := owns_shape0 Dk.out
  have dr := hid (ownCh_rd Dk.out)
  obtain ⟨dn, hdn⟩ : ∃ n, u.ch.length = n := ⟨_, rfl⟩
  rw [hdn] at dr ⊢
  obtain ⟨V9, hV9⟩ : ∃ V, w9.alloc (.cells (tbC g (.slice da dn dc)).toArray 26) = V := ⟨_, rfl⟩
  obtain ⟨b9, hB9⟩ : ∃ b, w9.heap.size = b := ⟨_, rfl⟩
  have step : Below V8.heap.size V8 V9 := by rw [← hV9]; exact hb9.alloc hb9.size _
  have own1 : Below w9.heap.size w9 V9 := by rw [← hV9]; exact (Below.refl _ _).alloc (Nat.le_refl _) _
  have T9 := hid (ca_below T8.out step)
  have U9 := hid (ca_below U8.out step)
  have S9 := hid (ca_below S8.out step)
  have X9 := hid (ca_below X8.out step)
  have Y9 := hid (ca_below Y8.out step)
  have Q9 := hid (ca_below Q8.out step)
  have A9 := hid (ca_below A8.out step)
  have D9 := hid (ca_below D8.out step)
  have C9 := hid (ca_below C8.out step)
  have XA9 := hid (argP_below XA8.out step)
  have YR9 := hid (rdCh_below YR8.out step)
  have AA9 := hid (argP_below AA8.out step)
  have DA9 := hid (argP_below DA8.out step)
  have CA9 := hid (argT_below CA8.out step)
  have B9 : Hid (Below w.heap.size w V9) := B8.out.trans (step.mono B8.out.size)
  clear T8 U8 S8 X8 Y8 Q8 A8 D8 C8 XA8 YR8 AA8 DA8 CA8 B8
  have E9 : Hid (CellsAt V9 b9 (tbC g (.slice da dn dc))) := by rw [← hV9, ← hB9]; exact ca_new _ _ _
  clear step
  have ER9 := hid (rdCh_below dr.out own1)
  clear dr Dk
  clear own1 hb9
  obtain ⟨-, ⟨E_0, E_1, E_2, E_3⟩, -, E_s⟩ := res4 E9.out (Below.refl _ _)
  obtain ⟨-, ⟨U_0, U_1, U_2, U_3⟩, -, U_s⟩ := res4 U9.out (Below.refl _ _)
  go_wp2_with fail
  refine (sameTable_yes g _ _ u.ch _ ER9.out (argT_below HU.out B9.out).rd HLU.out).mono ?_
  rintro e w10 ⟨rfl, hb10⟩
  clear E_0 E_1 E_2 E_3 E_s U_0 U_1 U_2 U_3 U_s
  have step := hb10
  have T10 := hid (ca_below T9.out step)
  have U10 := hid (ca_below U9.out step)
  have S10 := hid (ca_below S9.out step)
  have X10 := hid (ca_below X9.out step)
  have Y10 := hid (ca_below Y9.out step)
  have Q10 := hid (ca_below Q9.out step)
  have A10 := hid (ca_below A9.out step)
  have D10 := hid (ca_below D9.out step)
  have C10 := hid (ca_below C9.out step)
  have E10 := hid (ca_below E9.out step)
  have XA10 := hid (argP_below XA9.out step)
  have YR10 := hid (rdCh_below YR9.out step)
  have AA10 := hid (argP_below AA9.out step)
  have DA10 := hid (argP_below DA9.out step)
  have CA10 := hid (argT_below CA9.out step)
  have ER10 := hid (rdCh_below ER9.out step)
  have B10 : Hid (Below w.heap.size w w10) := B9.out.trans (step.mono B9.out.size)
  clear T9 U9 S9 X9 Y9 Q9 A9 D9 C9 E9 XA9 YR9 AA9 DA9 CA9 ER9 B9
  clear step hb10
  go_wp2
  go_ret
  exact ⟨rfl, B10.out⟩
end Go.Proofs.Ytombhnjmelidcaa
