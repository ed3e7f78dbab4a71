/- The walk of DeltaTells. -/
import Derived.Test.YtombhnjmelidcaaPdI
namespace Go.Proofs.Ytombhnjmelidcaa
open Go.RowKit Go.Lib
set_option linter.unusedVariables false
set_option linter.unusedSimpArgs false

set_option maxRecDepth 100000 in
set_option maxHeartbeats 8000000 in
theorem deltaTells_is (t : Tb.Tbl) (v : Value) (u : Tb.Tbl) (v' : Value) (p : Tb.Pt) (pv : Value) (w : World) (h : ArgT w t v) (h2 : ArgT w u v') (h' : ArgP w p pv) :
    Calls Try.prog 7 #[tbV t.first v, tbV u.first v', ptV p.first p.head p.tail pv] w fun e w' => e = .returned (.bool true) ∧ Below w.heap.size w w' := by
  obtain ⟨E1, hE1⟩ : ∃ E, Tb.tableE t = E := ⟨_, rfl⟩
  obtain ⟨E2, hE2⟩ : ∃ E, Tb.tableE u = E := ⟨_, rfl⟩
  obtain ⟨D, hD⟩ : ∃ E, Tb.diffE t u = E := ⟨_, rfl⟩
  obtain ⟨F, hF⟩ : ∃ E, Tb.pApplyE t p = E := ⟨_, rfl⟩
  obtain ⟨G, hG⟩ : ∃ E, Tb.applyE t p = E := ⟨_, rfl⟩
  have HD : Hid (D = if E1 ≠ 0 then E1 else E2) := by show _ = _; rw [← hD, Tb.diffE, hE1, hE2]
  have HF : Hid (F = if E1 ≠ 0 then E1 else G) := by show _ = _; rw [← hF, Tb.pApplyE, hE1, hG]
  have HDF : Hid (∀ W, Below w.heap.size w W → Calls Try.prog 19 #[tbV t.first v, tbV u.first v'] W fun e w' => ∃ q qv, e = .returned (.tuple #[ptV q.first q.head q.tail qv, .int .i64 D]) ∧ Hid (D = 0 → Tb.IsDiff t u q) ∧ Hid (D ≠ 0 → q = pt0) ∧ Hid (OwnCh w' W.heap.size qv q.put) ∧ Below W.heap.size W w') := fun W hW => by
    refine (pDiff' (argT_below h hW) (argT_below h2 hW)).mono ?_
    rintro e w' ⟨q, qv, he, h1, h2, h3, h4⟩
    rw [hD] at he h1 h2
    exact ⟨q, qv, he, h1, h2, h3, h4⟩
  have HAPP : Hid (∀ W, Below w.heap.size w W → Calls Try.prog 18 #[tbV t.first v, ptV p.first p.head p.tail pv] W fun e w' => ∃ f ov l, e = .returned (.tuple #[tbV f ov, .int .i64 F]) ∧ Hid (F = 0 → f = p.first ∧ l = (Tb.applied t p).ch) ∧ Hid (¬ F = 0 → f = ⟨0, 0, []⟩ ∧ l = []) ∧ Hid (OwnCh w' W.heap.size ov l) ∧ Below W.heap.size W w') := fun W hW => by
    refine (pApply' (argT_below h hW) (argP_below h' hW)).mono ?_
    rintro e w' ⟨f, ov, l, he, h1, h2, h3, h4⟩
    rw [hF] at he h1 h2
    exact ⟨f, ov, l, he, h1, h2, h3, h4⟩
  have HC1 : Hid (∀ W, Below w.heap.size w W → Calls Try.prog 12 #[tbV t.first v] W fun e w' => e = .returned (.int .i64 E1) ∧ Below W.heap.size W w') := fun W hW => by
    rw [← hE1]; exact checkTable_any t v W (rdCh_below h.rd hW) h.sized.ch h.sized.first h.sized.names
  have HC2 : Hid (∀ W, Below w.heap.size w W → Calls Try.prog 12 #[tbV u.first v'] W fun e w' => e = .returned (.int .i64 E2) ∧ Below W.heap.size W w') := fun W hW => by
    rw [← hE2]; exact checkTable_any u v' W (rdCh_below h2.rd hW) h2.sized.ch h2.sized.first h2.sized.names
  have HAO : Hid (E1 = 0 → ∀ W, Below w.heap.size w W → Calls Try.prog 20 #[tbV t.first v, ptV p.first p.head p.tail pv] W fun e w' => ∃ f ov l, e = .returned (.tuple #[tbV f ov, .int .i64 G]) ∧ Hid (G = 0 → f = p.first ∧ l = (Tb.applied t p).ch) ∧ Hid (OwnCh w' W.heap.size ov l) ∧ Below W.heap.size W w') := fun q W hW => by
    refine (applyOf_any t p v pv W (rdCh_below h.rd hW) (rdCh_below h'.rd hW) h.caps (Tb.good_parts (hE1.trans q)).1 h'.len h'.first h.sized.names h'.names).mono ?_
    rintro e w' ⟨f, ov, l, he, h1, _, h3, h4⟩
    rw [hG] at he h1
    exact ⟨f, ov, l, he, h1, h3, h4⟩
  have HDO : Hid (E1 = 0 → E2 = 0 → ∀ W, Below w.heap.size w W → Calls Try.prog 21 #[tbV t.first v, tbV u.first v'] W fun e w' => ∃ q qv, e = .returned (ptV q.first q.head q.tail qv) ∧ Hid (Tb.IsDiff t u q) ∧ Hid (OwnCh w' W.heap.size qv q.put) ∧ Below W.heap.size W w') := fun q1 q2 W hW => by
    refine (diffOf_any t u v v' W (rdCh_below h.rd hW) (rdCh_below h2.rd hW) (Tb.good_parts (hE1.trans q1)).1 (Tb.good_parts (hE2.trans q2)).1).mono ?_
    rintro e w' ⟨q, qv, h1, he, h3, h4⟩
    exact ⟨q, qv, he, h1, h3, h4⟩
  have HLA : Hid (G = 0 → (Tb.applied t p).ch.length ≤ 1000000) := fun q => by
    have := (Tb.good_parts (t := Tb.applied t p) (by
      have e := hG.trans q
      unfold Tb.applyE at e
      split at e
      · omega
      · split at e
        · omega
        · exact e)).1
    omega
  have HLU : Hid (E2 = 0 → u.ch.length ≤ 1000) := fun q => (Tb.good_parts (hE2.trans q)).1
  clear hE1 hE2 hD hF hG
  obtain ⟨va, n, vcap, rfl⟩ : ∃ va n vcap, v = .slice va n vcap := by obtain ⟨a, c, e, _⟩ := h.rd; exact ⟨a, _, c, e⟩
  obtain ⟨ua, m, ucap, rfl⟩ : ∃ va n vcap, v' = .slice va n vcap := by obtain ⟨a, c, e, _⟩ := h2.rd; exact ⟨a, _, c, e⟩
  obtain ⟨pa, k, pcap, rfl⟩ : ∃ pa m pcap, pv = .slice pa m pcap := by obtain ⟨a, c, e, _⟩ := h'.rd; exact ⟨a, _, c, e⟩
  clear h h2 h'
  obtain ⟨f, hf⟩ : ∃ f, t.first = f := ⟨_, rfl⟩
  obtain ⟨g, hg⟩ : ∃ f, u.first = f := ⟨_, rfl⟩
  rw [hf] at HDF HAPP HC1 HAO HDO ⊢
  rw [hg] at HDF HC2 HDO ⊢
  clear hf hg
  obtain ⟨N, hN⟩ : ∃ N, w.heap.size = N := ⟨_, rfl⟩
  obtain ⟨W0, hW⟩ : ∃ W0, ((w.alloc (.cells (tbC f (.slice va n vcap)).toArray 26)).alloc (.cells (tbC g (.slice ua m ucap)).toArray 26)).alloc (.cells (ptC p.first p.head p.tail (.slice pa k pcap)).toArray 42) = W0 := ⟨_, rfl⟩
  have B0 : Hid (Below w.heap.size w W0) := by
    rw [← hW]; show Below _ _ _
    exact (((Below.refl _ _).alloc (Nat.le_refl _) _).alloc (by simp) _).alloc (by simp; omega) _
  have T0 : Hid (CellsAt W0 N (tbC f (.slice va n vcap))) := by rw [← hW, ← hN]; exact ca_alloc (ca_alloc (ca_new _ _ _) _) _
  have U0 : Hid (CellsAt W0 (N + 1) (tbC g (.slice ua m ucap))) := by
    rw [← hW, ← hN]; show CellsAt _ _ _
    have := ca_alloc (ca_new (w.alloc (.cells (tbC f (.slice va n vcap)).toArray 26)) (tbC g (.slice ua m ucap)) 26) (.cells (ptC p.first p.head p.tail (.slice pa k pcap)).toArray 42)
    rw [World.size_alloc] at this
    exact this
  have P0 : Hid (CellsAt W0 (N + 1 + 1) (ptC p.first p.head p.tail (.slice pa k pcap))) := by
    rw [← hW, ← hN]; show CellsAt _ _ _
    have := ca_new ((w.alloc (.cells (tbC f (.slice va n vcap)).toArray 26)).alloc (.cells (tbC g (.slice ua m ucap)).toArray 26)) (ptC p.first p.head p.tail (.slice pa k pcap)) 42
    rw [World.size_alloc, World.size_alloc] at this
    exact this
  have HW := hid hW
  clear hW
  by_cases nE1 : E1 = 0
  case neg =>
    have hd1 : D = E1 := by rw [HD.out, if_pos nE1]
    have hf1 : F = E1 := by rw [HF.out, if_pos nE1]
    subst hd1 hf1
    have C0 := hid (HDF.out W0 B0.out)
    rw [← HW.out] at C0
    clear HDF HC2 HAO HDO HLA HLU HD HF
    go_enter Try.func7, Try.ntmps7
    go_wp2_with fail
    refine C0.out.mono ?_
    rintro e w1 ⟨⟨xf, xh, xt, xp⟩, xv, rfl, Xi, Xj, Xk, hb1⟩
    rw [HW.out] at hb1
    clear C0 HW hN
    dsimp only at Xk ⊢
    obtain ⟨rfl, rfl, rfl, rfl⟩ : xf = ⟨0, 0, []⟩ ∧ xh = 0 ∧ xt = 0 ∧ xp = [] := by have := Xj.out nE1; simpa [pt0] using this
    obtain ⟨xa, xc, rfl⟩ := owns_shape0 Xk.out
    have Xr := hid (ownCh_rd Xk.out)
    obtain ⟨xn, hxn⟩ : ∃ n, ([] : List Tb.Cg).length = n := ⟨_, rfl⟩
    rw [hxn] at Xr ⊢
    obtain ⟨V1, hV1⟩ : ∃ V, w1.alloc (.cells ([.int .i64 0, .int .i64 0, .string ⟨#[]⟩, .int .i64 0, .int .i64 0, .slice xa xn xc]).toArray 42) = V := ⟨_, rfl⟩
    obtain ⟨b1, hB1⟩ : ∃ b, w1.heap.size = b := ⟨_, rfl⟩
    have step : Below W0.heap.size W0 V1 := by rw [← hV1]; exact hb1.alloc hb1.size _
    have own1 : Below w1.heap.size w1 V1 := by rw [← hV1]; exact (Below.refl _ _).alloc (Nat.le_refl _) _
    have T1 := hid (ca_below T0.out step)
    have U1 := hid (ca_below U0.out step)
    have P1 := hid (ca_below P0.out step)
    have B1 : Hid (Below w.heap.size w V1) := B0.out.trans (step.mono B0.out.size)
    clear T0 U0 P0 B0
    have X1 : Hid (CellsAt V1 b1 ([.int .i64 0, .int .i64 0, .string ⟨#[]⟩, .int .i64 0, .int .i64 0, .slice xa xn xc])) := by rw [← hV1, ← hB1]; exact ca_new _ _ _
    clear step
    have XR1 := hid (rdCh_below Xr.out own1)
    clear Xr Xi Xj Xk hxn
    clear own1 hb1
    obtain ⟨-, ⟨T_0, T_1, T_2, T_3⟩, -, T_s⟩ := res4 T1.out (Below.refl _ _)
    obtain ⟨-, ⟨P_0, P_1, P_2, P_3, P_4, P_5⟩, -, P_s⟩ := res6 P1.out (Below.refl _ _)
    go_wp2_with fail
    refine (HAPP.out V1 B1.out).mono ?_
    rintro e w2 ⟨yf, yv, yl, rfl, Yi, Yj, Yk, hb2⟩
    clear T_0 T_1 T_2 T_3 T_s P_0 P_1 P_2 P_3 P_4 P_5 P_s
    obtain ⟨ya, yc, rfl⟩ := owns_shape0 Yk.out
    have Yr := hid (ownCh_rd Yk.out)
    obtain ⟨yn, hyn⟩ : ∃ n, yl.length = n := ⟨_, rfl⟩
    rw [hyn] at Yr ⊢
    obtain ⟨V2, hV2⟩ : ∃ V, w2.alloc (.cells (tbC yf (.slice ya yn yc)).toArray 26) = V := ⟨_, rfl⟩
    obtain ⟨b2, hB2⟩ : ∃ b, w2.heap.size = b := ⟨_, rfl⟩
    have step : Below V1.heap.size V1 V2 := by rw [← hV2]; exact hb2.alloc hb2.size _
    have own1 : Below w2.heap.size w2 V2 := by rw [← hV2]; exact (Below.refl _ _).alloc (Nat.le_refl _) _
    have T2 := hid (ca_below T1.out step)
    have U2 := hid (ca_below U1.out step)
    have P2 := hid (ca_below P1.out step)
    have X2 := hid (ca_below X1.out step)
    have XR2 := hid (rdCh_below XR1.out step)
    have B2 : Hid (Below w.heap.size w V2) := B1.out.trans (step.mono B1.out.size)
    clear T1 U1 P1 X1 XR1 B1
    have Y2 : Hid (CellsAt V2 b2 (tbC yf (.slice ya yn yc))) := by rw [← hV2, ← hB2]; exact ca_new _ _ _
    clear step
    have YR2 := hid (rdCh_below Yr.out own1)
    clear Yr Yk
    clear own1 hb2
    obtain ⟨-, ⟨T_0, T_1, T_2, T_3⟩, -, T_s⟩ := res4 T2.out (Below.refl _ _)
    go_wp2_with fail
    refine (HC1.out V2 B2.out).mono ?_
    rintro e w3 ⟨rfl, hb3⟩
    clear T_0 T_1 T_2 T_3 T_s
    have step := hb3
    have T3 := hid (ca_below T2.out step)
    have U3 := hid (ca_below U2.out step)
    have P3 := hid (ca_below P2.out step)
    have X3 := hid (ca_below X2.out step)
    have Y3 := hid (ca_below Y2.out step)
    have XR3 := hid (rdCh_below XR2.out step)
    have YR3 := hid (rdCh_below YR2.out step)
    have B3 : Hid (Below w.heap.size w w3) := B2.out.trans (step.mono B2.out.size)
    clear T2 U2 P2 X2 Y2 XR2 YR2 B2
    clear step hb3
    have h1e : (F == 0) = false := by simp [nE1]
    obtain ⟨V4, hV4⟩ : ∃ V, w3.alloc (.cells ([.int .i64 0, .int .i64 0, .string ⟨#[]⟩, .slice none 0 0]).toArray 26) = V := ⟨_, rfl⟩
    obtain ⟨b4, hB4⟩ : ∃ b, w3.heap.size = b := ⟨_, rfl⟩
    have step : Below w3.heap.size w3 V4 := by rw [← hV4]; exact (Below.refl _ _).alloc (Nat.le_refl _) _
    have T4 := hid (ca_below T3.out step)
    have U4 := hid (ca_below U3.out step)
    have P4 := hid (ca_below P3.out step)
    have X4 := hid (ca_below X3.out step)
    have Y4 := hid (ca_below Y3.out step)
    have XR4 := hid (rdCh_below XR3.out step)
    have YR4 := hid (rdCh_below YR3.out step)
    have B4 : Hid (Below w.heap.size w V4) := B3.out.trans (step.mono B3.out.size)
    clear T3 U3 P3 X3 Y3 XR3 YR3 B3
    have Z4 : Hid (CellsAt V4 b4 (tbC ⟨0, 0, []⟩ (.slice none 0 0))) := by rw [← hV4, ← hB4]; exact ca_new _ _ _
    clear step
    have ZR4 : Hid (RdCh V4 (.slice none 0 0) []) := rd_nil
    obtain ⟨V5, hV5⟩ : ∃ V, V4.alloc (.cells ([.int .i64 0, .int .i64 0, .string ⟨#[]⟩, .int .i64 0, .int .i64 0, .slice none 0 0]).toArray 42) = V := ⟨_, rfl⟩
    obtain ⟨b5, hB5⟩ : ∃ b, V4.heap.size = b := ⟨_, rfl⟩
    have step : Below V4.heap.size V4 V5 := by rw [← hV5]; exact (Below.refl _ _).alloc (Nat.le_refl _) _
    have T5 := hid (ca_below T4.out step)
    have U5 := hid (ca_below U4.out step)
    have P5 := hid (ca_below P4.out step)
    have X5 := hid (ca_below X4.out step)
    have Y5 := hid (ca_below Y4.out step)
    have Z5 := hid (ca_below Z4.out step)
    have XR5 := hid (rdCh_below XR4.out step)
    have YR5 := hid (rdCh_below YR4.out step)
    have ZR5 := hid (rdCh_below ZR4.out step)
    have B5 : Hid (Below w.heap.size w V5) := B4.out.trans (step.mono B4.out.size)
    clear T4 U4 P4 X4 Y4 Z4 XR4 YR4 ZR4 B4
    have Q5 : Hid (CellsAt V5 b5 (ptC ⟨0, 0, []⟩ 0 0 (.slice none 0 0))) := by rw [← hV5, ← hB5]; exact ca_new _ _ _
    clear step
    have QR5 : Hid (RdCh V5 (.slice none 0 0) []) := rd_nil
    go_wp2_with fail
    refine (deltaBegun_is _).mono ?_
    rintro e w6 ⟨rfl, hb6⟩
    have step := hb6
    have T6 := hid (ca_below T5.out step)
    have U6 := hid (ca_below U5.out step)
    have P6 := hid (ca_below P5.out step)
    have X6 := hid (ca_below X5.out step)
    have Y6 := hid (ca_below Y5.out step)
    have Z6 := hid (ca_below Z5.out step)
    have Q6 := hid (ca_below Q5.out step)
    have XR6 := hid (rdCh_below XR5.out step)
    have YR6 := hid (rdCh_below YR5.out step)
    have ZR6 := hid (rdCh_below ZR5.out step)
    have QR6 := hid (rdCh_below QR5.out step)
    have B6 : Hid (Below w.heap.size w w6) := B5.out.trans (step.mono B5.out.size)
    clear T5 U5 P5 X5 Y5 Z5 Q5 XR5 YR5 ZR5 QR5 B5
    clear step hb6
    obtain ⟨-, ⟨X_0, X_1, X_2, X_3, X_4, X_5⟩, -, X_s⟩ := res6 X6.out (Below.refl _ _)
    obtain ⟨-, ⟨Q_0, Q_1, Q_2, Q_3, Q_4, Q_5⟩, -, Q_s⟩ := res6 Q6.out (Below.refl _ _)
    go_wp2_with fail
    refine (samePatch_yes ⟨0, 0, []⟩ 0 0 _ _ [] _ XR6.out QR6.out (by simp)).mono ?_
    rintro e w7 ⟨rfl, hb7⟩
    clear X_0 X_1 X_2 X_3 X_4 X_5 X_s Q_0 Q_1 Q_2 Q_3 Q_4 Q_5 Q_s
    have step := hb7
    have T7 := hid (ca_below T6.out step)
    have U7 := hid (ca_below U6.out step)
    have P7 := hid (ca_below P6.out step)
    have X7 := hid (ca_below X6.out step)
    have Y7 := hid (ca_below Y6.out step)
    have Z7 := hid (ca_below Z6.out step)
    have Q7 := hid (ca_below Q6.out step)
    have XR7 := hid (rdCh_below XR6.out step)
    have YR7 := hid (rdCh_below YR6.out step)
    have ZR7 := hid (rdCh_below ZR6.out step)
    have QR7 := hid (rdCh_below QR6.out step)
    have B7 : Hid (Below w.heap.size w w7) := B6.out.trans (step.mono B6.out.size)
    clear T6 U6 P6 X6 Y6 Z6 Q6 XR6 YR6 ZR6 QR6 B6
    clear step hb7
    obtain ⟨-, ⟨Y_0, Y_1, Y_2, Y_3⟩, -, Y_s⟩ := res4 Y7.out (Below.refl _ _)
    obtain ⟨-, ⟨Z_0, Z_1, Z_2, Z_3⟩, -, Z_s⟩ := res4 Z7.out (Below.refl _ _)
    go_wp2_with fail
    refine (tableIs_yes yf ⟨0, 0, []⟩ _ _ yl [] F _ YR7.out ZR7.out (by rw [(Yj.out nE1).2]; simp) (fun q => absurd q nE1) (fun q => Yj.out q)).mono ?_
    rintro e w8 ⟨rfl, hb8⟩
    clear Y_0 Y_1 Y_2 Y_3 Y_s Z_0 Z_1 Z_2 Z_3 Z_s
    have step := hb8
    have T8 := hid (ca_below T7.out step)
    have U8 := hid (ca_below U7.out step)
    have P8 := hid (ca_below P7.out step)
    have X8 := hid (ca_below X7.out step)
    have Y8 := hid (ca_below Y7.out step)
    have Z8 := hid (ca_below Z7.out step)
    have Q8 := hid (ca_below Q7.out step)
    have XR8 := hid (rdCh_below XR7.out step)
    have YR8 := hid (rdCh_below YR7.out step)
    have ZR8 := hid (rdCh_below ZR7.out step)
    have QR8 := hid (rdCh_below QR7.out step)
    have B8 : Hid (Below w.heap.size w w8) := B7.out.trans (step.mono B7.out.size)
    clear T7 U7 P7 X7 Y7 Z7 Q7 XR7 YR7 ZR7 QR7 B7
    clear step hb8
    go_wp2
    go_ret
    exact ⟨rfl, B8.out⟩
  subst nE1
  have hf1 : F = G := by rw [HF.out]; rfl
  have hd1 : D = E2 := by rw [HD.out]; rfl
  subst hf1 hd1
  have HAO2 := hid (HAO.out rfl)
  clear HAO
  by_cases nE2 : D = 0
  case neg =>
    have C0 := hid (HDF.out W0 B0.out)
    rw [← HW.out] at C0
    clear HDF HDO HLU HD HF
    go_enter Try.func7, Try.ntmps7
    go_wp2_with fail
    refine C0.out.mono ?_
    rintro e w1 ⟨⟨xf, xh, xt, xp⟩, xv, rfl, Xi, Xj, Xk, hb1⟩
    rw [HW.out] at hb1
    clear C0 HW hN
    dsimp only at Xk ⊢
    obtain ⟨rfl, rfl, rfl, rfl⟩ : xf = ⟨0, 0, []⟩ ∧ xh = 0 ∧ xt = 0 ∧ xp = [] := by have := Xj.out nE2; simpa [pt0] using this
    obtain ⟨xa, xc, rfl⟩ := owns_shape0 Xk.out
    have Xr := hid (ownCh_rd Xk.out)
    obtain ⟨xn, hxn⟩ : ∃ n, ([] : List Tb.Cg).length = n := ⟨_, rfl⟩
    rw [hxn] at Xr ⊢
    obtain ⟨V1, hV1⟩ : ∃ V, w1.alloc (.cells ([.int .i64 0, .int .i64 0, .string ⟨#[]⟩, .int .i64 0, .int .i64 0, .slice xa xn xc]).toArray 42) = V := ⟨_, rfl⟩
    obtain ⟨b1, hB1⟩ : ∃ b, w1.heap.size = b := ⟨_, rfl⟩
    have step : Below W0.heap.size W0 V1 := by rw [← hV1]; exact hb1.alloc hb1.size _
    have own1 : Below w1.heap.size w1 V1 := by rw [← hV1]; exact (Below.refl _ _).alloc (Nat.le_refl _) _
    have T1 := hid (ca_below T0.out step)
    have U1 := hid (ca_below U0.out step)
    have P1 := hid (ca_below P0.out step)
    have B1 : Hid (Below w.heap.size w V1) := B0.out.trans (step.mono B0.out.size)
    clear T0 U0 P0 B0
    have X1 : Hid (CellsAt V1 b1 ([.int .i64 0, .int .i64 0, .string ⟨#[]⟩, .int .i64 0, .int .i64 0, .slice xa xn xc])) := by rw [← hV1, ← hB1]; exact ca_new _ _ _
    clear step
    have XR1 := hid (rdCh_below Xr.out own1)
    clear Xr Xi Xj Xk hxn
    clear own1 hb1
    obtain ⟨-, ⟨T_0, T_1, T_2, T_3⟩, -, T_s⟩ := res4 T1.out (Below.refl _ _)
    obtain ⟨-, ⟨P_0, P_1, P_2, P_3, P_4, P_5⟩, -, P_s⟩ := res6 P1.out (Below.refl _ _)
    go_wp2_with fail
    refine (HAPP.out V1 B1.out).mono ?_
    rintro e w2 ⟨yf, yv, yl, rfl, Yi, Yj, Yk, hb2⟩
    clear T_0 T_1 T_2 T_3 T_s P_0 P_1 P_2 P_3 P_4 P_5 P_s
    obtain ⟨ya, yc, rfl⟩ := owns_shape0 Yk.out
    have Yr := hid (ownCh_rd Yk.out)
    obtain ⟨yn, hyn⟩ : ∃ n, yl.length = n := ⟨_, rfl⟩
    rw [hyn] at Yr ⊢
    obtain ⟨V2, hV2⟩ : ∃ V, w2.alloc (.cells (tbC yf (.slice ya yn yc)).toArray 26) = V := ⟨_, rfl⟩
    obtain ⟨b2, hB2⟩ : ∃ b, w2.heap.size = b := ⟨_, rfl⟩
    have step : Below V1.heap.size V1 V2 := by rw [← hV2]; exact hb2.alloc hb2.size _
    have own1 : Below w2.heap.size w2 V2 := by rw [← hV2]; exact (Below.refl _ _).alloc (Nat.le_refl _) _
    have T2 := hid (ca_below T1.out step)
    have U2 := hid (ca_below U1.out step)
    have P2 := hid (ca_below P1.out step)
    have X2 := hid (ca_below X1.out step)
    have XR2 := hid (rdCh_below XR1.out step)
    have B2 : Hid (Below w.heap.size w V2) := B1.out.trans (step.mono B1.out.size)
    clear T1 U1 P1 X1 XR1 B1
    have Y2 : Hid (CellsAt V2 b2 (tbC yf (.slice ya yn yc))) := by rw [← hV2, ← hB2]; exact ca_new _ _ _
    clear step
    have YR2 := hid (rdCh_below Yr.out own1)
    clear Yr Yk
    clear own1 hb2
    obtain ⟨-, ⟨T_0, T_1, T_2, T_3⟩, -, T_s⟩ := res4 T2.out (Below.refl _ _)
    go_wp2_with fail
    refine (HC1.out V2 B2.out).mono ?_
    rintro e w3 ⟨rfl, hb3⟩
    clear T_0 T_1 T_2 T_3 T_s
    have step := hb3
    have T3 := hid (ca_below T2.out step)
    have U3 := hid (ca_below U2.out step)
    have P3 := hid (ca_below P2.out step)
    have X3 := hid (ca_below X2.out step)
    have Y3 := hid (ca_below Y2.out step)
    have XR3 := hid (rdCh_below XR2.out step)
    have YR3 := hid (rdCh_below YR2.out step)
    have B3 : Hid (Below w.heap.size w w3) := B2.out.trans (step.mono B2.out.size)
    clear T2 U2 P2 X2 Y2 XR2 YR2 B2
    clear step hb3
    obtain ⟨U4', hU4⟩ : ∃ V, w3.alloc (.cells ([.int .i64 0, .int .i64 0, .string ⟨#[]⟩, .slice none 0 0]).toArray 26) = V := ⟨_, rfl⟩
    obtain ⟨b4, hB4⟩ : ∃ b, w3.heap.size = b := ⟨_, rfl⟩
    have pre : Below w3.heap.size w3 U4' := by rw [← hU4]; exact (Below.refl _ _).alloc (Nat.le_refl _) _
    have BP : Hid (Below w.heap.size w U4') := B3.out.trans (pre.mono B3.out.size)
    have zer : Hid (CellsAt U4' b4 (tbC ⟨0, 0, []⟩ (.slice none 0 0))) := by rw [← hU4, ← hB4]; exact ca_new _ _ _
    obtain ⟨-, ⟨T_0, T_1, T_2, T_3⟩, -, T_s⟩ := res4 T3.out pre
    obtain ⟨-, ⟨P_0, P_1, P_2, P_3, P_4, P_5⟩, -, P_s⟩ := res6 P3.out pre
    go_wp2_with fail
    refine (HAO2.out U4' BP.out).mono ?_
    rintro e w4 ⟨zf, zv, zl, rfl, Zi, Zk, hb4⟩
    clear T_0 T_1 T_2 T_3 T_s P_0 P_1 P_2 P_3 P_4 P_5 P_s
    obtain ⟨za, zc, rfl⟩ := owns_shape0 Zk.out
    have Zr := hid (ownCh_rd Zk.out)
    obtain ⟨zn, hzn⟩ : ∃ n, zl.length = n := ⟨_, rfl⟩
    rw [hzn] at Zr ⊢
    rw [hzn] at Zk
    clear Zr
    obtain ⟨zcell, ⟨zz_0, zz_1, zz_2, zz_3⟩, ⟨zz_f0, zz_f1, zz_f2, zz_f3⟩, zz_s⟩ := res4 zer.out hb4
    have FI := hid (apFin_old (g := zf) (L := zl) (Nat.le_refl _) (Nat.le_of_eq hB4) zcell (owns_base Zk.out zer.out.1) (pre.trans (hb4.mono pre.size)))
    obtain ⟨V4, hV4⟩ : ∃ V, (((w4.setCell ⟨b4, 0, none⟩ (.int .i64 zf.shift)).setCell ⟨b4, 1, none⟩ (.int .i64 zf.save)).setCell ⟨b4, 2, none⟩ (strV zf.name)).setCell ⟨b4, 3, none⟩ (.slice za zn zc) = V := ⟨_, rfl⟩
    rw [hV4] at FI
    have step := FI.out.bel
    have T4 := hid (ca_below T3.out step)
    have U4 := hid (ca_below U3.out step)
    have P4 := hid (ca_below P3.out step)
    have X4 := hid (ca_below X3.out step)
    have Y4 := hid (ca_below Y3.out step)
    have XR4 := hid (rdCh_below XR3.out step)
    have YR4 := hid (rdCh_below YR3.out step)
    have B4 : Hid (Below w.heap.size w V4) := B3.out.trans (step.mono B3.out.size)
    clear T3 U3 P3 X3 Y3 XR3 YR3 B3
    have Z4 : Hid (CellsAt V4 b4 (tbC zf (.slice za zn zc))) := FI.out.cells
    have ZR4 := hid (ownCh_rd FI.out.own)
    clear step FI zcell zer pre BP hb4 hU4 Zk
    obtain ⟨-, ⟨U_0, U_1, U_2, U_3⟩, -, U_s⟩ := res4 U4.out (Below.refl _ _)
    go_wp2_with fail
    refine (HC2.out V4 B4.out).mono ?_
    rintro e w5 ⟨rfl, hb5⟩
    clear zz_0 zz_1 zz_2 zz_3 zz_f0 zz_f1 zz_f2 zz_f3 zz_s U_0 U_1 U_2 U_3 U_s
    have step := hb5
    have T5 := hid (ca_below T4.out step)
    have U5 := hid (ca_below U4.out step)
    have P5 := hid (ca_below P4.out step)
    have X5 := hid (ca_below X4.out step)
    have Y5 := hid (ca_below Y4.out step)
    have Z5 := hid (ca_below Z4.out step)
    have XR5 := hid (rdCh_below XR4.out step)
    have YR5 := hid (rdCh_below YR4.out step)
    have ZR5 := hid (rdCh_below ZR4.out step)
    have B5 : Hid (Below w.heap.size w w5) := B4.out.trans (step.mono B4.out.size)
    clear T4 U4 P4 X4 Y4 Z4 XR4 YR4 ZR4 B4
    clear step hb5
    have h2e : (D == 0) = false := by simp [nE2]
    obtain ⟨V6, hV6⟩ : ∃ V, w5.alloc (.cells ([.int .i64 0, .int .i64 0, .string ⟨#[]⟩, .int .i64 0, .int .i64 0, .slice none 0 0]).toArray 42) = V := ⟨_, rfl⟩
    obtain ⟨b6, hB6⟩ : ∃ b, w5.heap.size = b := ⟨_, rfl⟩
    have step : Below w5.heap.size w5 V6 := by rw [← hV6]; exact (Below.refl _ _).alloc (Nat.le_refl _) _
    have T6 := hid (ca_below T5.out step)
    have U6 := hid (ca_below U5.out step)
    have P6 := hid (ca_below P5.out step)
    have X6 := hid (ca_below X5.out step)
    have Y6 := hid (ca_below Y5.out step)
    have Z6 := hid (ca_below Z5.out step)
    have XR6 := hid (rdCh_below XR5.out step)
    have YR6 := hid (rdCh_below YR5.out step)
    have ZR6 := hid (rdCh_below ZR5.out step)
    have B6 : Hid (Below w.heap.size w V6) := B5.out.trans (step.mono B5.out.size)
    clear T5 U5 P5 X5 Y5 Z5 XR5 YR5 ZR5 B5
    have Q6 : Hid (CellsAt V6 b6 (ptC ⟨0, 0, []⟩ 0 0 (.slice none 0 0))) := by rw [← hV6, ← hB6]; exact ca_new _ _ _
    clear step
    have QR6 : Hid (RdCh V6 (.slice none 0 0) []) := rd_nil
    go_wp2_with fail
    refine (deltaBegun_is _).mono ?_
    rintro e w7 ⟨rfl, hb7⟩
    have step := hb7
    have T7 := hid (ca_below T6.out step)
    have U7 := hid (ca_below U6.out step)
    have P7 := hid (ca_below P6.out step)
    have X7 := hid (ca_below X6.out step)
    have Y7 := hid (ca_below Y6.out step)
    have Z7 := hid (ca_below Z6.out step)
    have Q7 := hid (ca_below Q6.out step)
    have XR7 := hid (rdCh_below XR6.out step)
    have YR7 := hid (rdCh_below YR6.out step)
    have ZR7 := hid (rdCh_below ZR6.out step)
    have QR7 := hid (rdCh_below QR6.out step)
    have B7 : Hid (Below w.heap.size w w7) := B6.out.trans (step.mono B6.out.size)
    clear T6 U6 P6 X6 Y6 Z6 Q6 XR6 YR6 ZR6 QR6 B6
    clear step hb7
    obtain ⟨-, ⟨X_0, X_1, X_2, X_3, X_4, X_5⟩, -, X_s⟩ := res6 X7.out (Below.refl _ _)
    obtain ⟨-, ⟨Q_0, Q_1, Q_2, Q_3, Q_4, Q_5⟩, -, Q_s⟩ := res6 Q7.out (Below.refl _ _)
    go_wp2_with fail
    refine (samePatch_yes ⟨0, 0, []⟩ 0 0 _ _ [] _ XR7.out QR7.out (by simp)).mono ?_
    rintro e w8 ⟨rfl, hb8⟩
    clear X_0 X_1 X_2 X_3 X_4 X_5 X_s Q_0 Q_1 Q_2 Q_3 Q_4 Q_5 Q_s
    have step := hb8
    have T8 := hid (ca_below T7.out step)
    have U8 := hid (ca_below U7.out step)
    have P8 := hid (ca_below P7.out step)
    have X8 := hid (ca_below X7.out step)
    have Y8 := hid (ca_below Y7.out step)
    have Z8 := hid (ca_below Z7.out step)
    have Q8 := hid (ca_below Q7.out step)
    have XR8 := hid (rdCh_below XR7.out step)
    have YR8 := hid (rdCh_below YR7.out step)
    have ZR8 := hid (rdCh_below ZR7.out step)
    have QR8 := hid (rdCh_below QR7.out step)
    have B8 : Hid (Below w.heap.size w w8) := B7.out.trans (step.mono B7.out.size)
    clear T7 U7 P7 X7 Y7 Z7 Q7 XR7 YR7 ZR7 QR7 B7
    clear step hb8
    obtain ⟨-, ⟨Y_0, Y_1, Y_2, Y_3⟩, -, Y_s⟩ := res4 Y8.out (Below.refl _ _)
    obtain ⟨-, ⟨Z_0, Z_1, Z_2, Z_3⟩, -, Z_s⟩ := res4 Z8.out (Below.refl _ _)
    go_wp2_with fail
    refine (tableIs_yes yf zf _ _ yl zl F _ YR8.out ZR8.out (by by_cases q : F = 0; (rw [(Yi.out q).2]; exact HLA.out q); (rw [(Yj.out q).2]; simp)) (fun q => ⟨(Yi.out q).1.trans (Zi.out q).1.symm, (Yi.out q).2.trans (Zi.out q).2.symm⟩) (fun q => Yj.out q)).mono ?_
    rintro e w9 ⟨rfl, hb9⟩
    clear Y_0 Y_1 Y_2 Y_3 Y_s Z_0 Z_1 Z_2 Z_3 Z_s
    have step := hb9
    have T9 := hid (ca_below T8.out step)
    have U9 := hid (ca_below U8.out step)
    have P9 := hid (ca_below P8.out step)
    have X9 := hid (ca_below X8.out step)
    have Y9 := hid (ca_below Y8.out step)
    have Z9 := hid (ca_below Z8.out step)
    have Q9 := hid (ca_below Q8.out step)
    have XR9 := hid (rdCh_below XR8.out step)
    have YR9 := hid (rdCh_below YR8.out step)
    have ZR9 := hid (rdCh_below ZR8.out step)
    have QR9 := hid (rdCh_below QR8.out step)
    have B9 : Hid (Below w.heap.size w w9) := B8.out.trans (step.mono B8.out.size)
    clear T8 U8 P8 X8 Y8 Z8 Q8 XR8 YR8 ZR8 QR8 B8
    clear step hb9
    go_wp2
    go_ret
    exact ⟨rfl, B9.out⟩
  subst nE2
  have HDO2 := hid (HDO.out rfl rfl)
  have HLU2 := hid (HLU.out rfl)
  clear HDO HLU
  have C0 := hid (HDF.out W0 B0.out)
  rw [← HW.out] at C0
  clear HDF HD HF
  go_enter Try.func7, Try.ntmps7
  go_wp2_with fail
  refine C0.out.mono ?_
  rintro e w1 ⟨⟨xf, xh, xt, xp⟩, xv, rfl, Xi, Xj, Xk, hb1⟩
  rw [HW.out] at hb1
  clear C0 HW hN
  dsimp only at Xk ⊢
  have XD := hid (Xi.out (by first | rfl | trivial))
  obtain ⟨xa, xc, rfl⟩ := owns_shape0 Xk.out
  have Xr := hid (ownCh_rd Xk.out)
  obtain ⟨xn, hxn⟩ : ∃ n, xp.length = n := ⟨_, rfl⟩
  rw [hxn] at Xr ⊢
  obtain ⟨V1, hV1⟩ : ∃ V, w1.alloc (.cells (ptC xf xh xt (.slice xa xn xc)).toArray 42) = V := ⟨_, rfl⟩
  obtain ⟨b1, hB1⟩ : ∃ b, w1.heap.size = b := ⟨_, rfl⟩
  have step : Below W0.heap.size W0 V1 := by rw [← hV1]; exact hb1.alloc hb1.size _
  have own1 : Below w1.heap.size w1 V1 := by rw [← hV1]; exact (Below.refl _ _).alloc (Nat.le_refl _) _
  have T1 := hid (ca_below T0.out step)
  have U1 := hid (ca_below U0.out step)
  have P1 := hid (ca_below P0.out step)
  have B1 : Hid (Below w.heap.size w V1) := B0.out.trans (step.mono B0.out.size)
  clear T0 U0 P0 B0
  have X1 : Hid (CellsAt V1 b1 (ptC xf xh xt (.slice xa xn xc))) := by rw [← hV1, ← hB1]; exact ca_new _ _ _
  clear step
  have XR1 := hid (rdCh_below Xr.out own1)
  clear Xr Xi Xj Xk hxn
  clear own1 hb1
  obtain ⟨-, ⟨T_0, T_1, T_2, T_3⟩, -, T_s⟩ := res4 T1.out (Below.refl _ _)
  obtain ⟨-, ⟨P_0, P_1, P_2, P_3, P_4, P_5⟩, -, P_s⟩ := res6 P1.out (Below.refl _ _)
  go_wp2_with fail
  refine (HAPP.out V1 B1.out).mono ?_
  rintro e w2 ⟨yf, yv, yl, rfl, Yi, Yj, Yk, hb2⟩
  clear T_0 T_1 T_2 T_3 T_s P_0 P_1 P_2 P_3 P_4 P_5 P_s
  obtain ⟨ya, yc, rfl⟩ := owns_shape0 Yk.out
  have Yr := hid (ownCh_rd Yk.out)
  obtain ⟨yn, hyn⟩ : ∃ n, yl.length = n := ⟨_, rfl⟩
  rw [hyn] at Yr ⊢
  obtain ⟨V2, hV2⟩ : ∃ V, w2.alloc (.cells (tbC yf (.slice ya yn yc)).toArray 26) = V := ⟨_, rfl⟩
  obtain ⟨b2, hB2⟩ : ∃ b, w2.heap.size = b := ⟨_, rfl⟩
  have step : Below V1.heap.size V1 V2 := by rw [← hV2]; exact hb2.alloc hb2.size _
  have own1 : Below w2.heap.size w2 V2 := by rw [← hV2]; exact (Below.refl _ _).alloc (Nat.le_refl _) _
  have T2 := hid (ca_below T1.out step)
  have U2 := hid (ca_below U1.out step)
  have P2 := hid (ca_below P1.out step)
  have X2 := hid (ca_below X1.out step)
  have XR2 := hid (rdCh_below XR1.out step)
  have B2 : Hid (Below w.heap.size w V2) := B1.out.trans (step.mono B1.out.size)
  clear T1 U1 P1 X1 XR1 B1
  have Y2 : Hid (CellsAt V2 b2 (tbC yf (.slice ya yn yc))) := by rw [← hV2, ← hB2]; exact ca_new _ _ _
  clear step
  have YR2 := hid (rdCh_below Yr.out own1)
  clear Yr Yk
  clear own1 hb2
  obtain ⟨-, ⟨T_0, T_1, T_2, T_3⟩, -, T_s⟩ := res4 T2.out (Below.refl _ _)
  go_wp2_with fail
  refine (HC1.out V2 B2.out).mono ?_
  rintro e w3 ⟨rfl, hb3⟩
  clear T_0 T_1 T_2 T_3 T_s
  have step := hb3
  have T3 := hid (ca_below T2.out step)
  have U3 := hid (ca_below U2.out step)
  have P3 := hid (ca_below P2.out step)
  have X3 := hid (ca_below X2.out step)
  have Y3 := hid (ca_below Y2.out step)
  have XR3 := hid (rdCh_below XR2.out step)
  have YR3 := hid (rdCh_below YR2.out step)
  have B3 : Hid (Below w.heap.size w w3) := B2.out.trans (step.mono B2.out.size)
  clear T2 U2 P2 X2 Y2 XR2 YR2 B2
  clear step hb3
  obtain ⟨U4', hU4⟩ : ∃ V, w3.alloc (.cells ([.int .i64 0, .int .i64 0, .string ⟨#[]⟩, .slice none 0 0]).toArray 26) = V := ⟨_, rfl⟩
  obtain ⟨b4, hB4⟩ : ∃ b, w3.heap.size = b := ⟨_, rfl⟩
  have pre : Below w3.heap.size w3 U4' := by rw [← hU4]; exact (Below.refl _ _).alloc (Nat.le_refl _) _
  have BP : Hid (Below w.heap.size w U4') := B3.out.trans (pre.mono B3.out.size)
  have zer : Hid (CellsAt U4' b4 (tbC ⟨0, 0, []⟩ (.slice none 0 0))) := by rw [← hU4, ← hB4]; exact ca_new _ _ _
  obtain ⟨-, ⟨T_0, T_1, T_2, T_3⟩, -, T_s⟩ := res4 T3.out pre
  obtain ⟨-, ⟨P_0, P_1, P_2, P_3, P_4, P_5⟩, -, P_s⟩ := res6 P3.out pre
  go_wp2_with fail
  refine (HAO2.out U4' BP.out).mono ?_
  rintro e w4 ⟨zf, zv, zl, rfl, Zi, Zk, hb4⟩
  clear T_0 T_1 T_2 T_3 T_s P_0 P_1 P_2 P_3 P_4 P_5 P_s
  obtain ⟨za, zc, rfl⟩ := owns_shape0 Zk.out
  have Zr := hid (ownCh_rd Zk.out)
  obtain ⟨zn, hzn⟩ : ∃ n, zl.length = n := ⟨_, rfl⟩
  rw [hzn] at Zr ⊢
  rw [hzn] at Zk
  clear Zr
  obtain ⟨zcell, ⟨zz_0, zz_1, zz_2, zz_3⟩, ⟨zz_f0, zz_f1, zz_f2, zz_f3⟩, zz_s⟩ := res4 zer.out hb4
  have FI := hid (apFin_old (g := zf) (L := zl) (Nat.le_refl _) (Nat.le_of_eq hB4) zcell (owns_base Zk.out zer.out.1) (pre.trans (hb4.mono pre.size)))
  obtain ⟨V4, hV4⟩ : ∃ V, (((w4.setCell ⟨b4, 0, none⟩ (.int .i64 zf.shift)).setCell ⟨b4, 1, none⟩ (.int .i64 zf.save)).setCell ⟨b4, 2, none⟩ (strV zf.name)).setCell ⟨b4, 3, none⟩ (.slice za zn zc) = V := ⟨_, rfl⟩
  rw [hV4] at FI
  have step := FI.out.bel
  have T4 := hid (ca_below T3.out step)
  have U4 := hid (ca_below U3.out step)
  have P4 := hid (ca_below P3.out step)
  have X4 := hid (ca_below X3.out step)
  have Y4 := hid (ca_below Y3.out step)
  have XR4 := hid (rdCh_below XR3.out step)
  have YR4 := hid (rdCh_below YR3.out step)
  have B4 : Hid (Below w.heap.size w V4) := B3.out.trans (step.mono B3.out.size)
  clear T3 U3 P3 X3 Y3 XR3 YR3 B3
  have Z4 : Hid (CellsAt V4 b4 (tbC zf (.slice za zn zc))) := FI.out.cells
  have ZR4 := hid (ownCh_rd FI.out.own)
  clear step FI zcell zer pre BP hb4 hU4 Zk
  obtain ⟨-, ⟨U_0, U_1, U_2, U_3⟩, -, U_s⟩ := res4 U4.out (Below.refl _ _)
  go_wp2_with fail
  refine (HC2.out V4 B4.out).mono ?_
  rintro e w5 ⟨rfl, hb5⟩
  clear zz_0 zz_1 zz_2 zz_3 zz_f0 zz_f1 zz_f2 zz_f3 zz_s U_0 U_1 U_2 U_3 U_s
  have step := hb5
  have T5 := hid (ca_below T4.out step)
  have U5 := hid (ca_below U4.out step)
  have P5 := hid (ca_below P4.out step)
  have X5 := hid (ca_below X4.out step)
  have Y5 := hid (ca_below Y4.out step)
  have Z5 := hid (ca_below Z4.out step)
  have XR5 := hid (rdCh_below XR4.out step)
  have YR5 := hid (rdCh_below YR4.out step)
  have ZR5 := hid (rdCh_below ZR4.out step)
  have B5 : Hid (Below w.heap.size w w5) := B4.out.trans (step.mono B4.out.size)
  clear T4 U4 P4 X4 Y4 Z4 XR4 YR4 ZR4 B4
  clear step hb5
  obtain ⟨U6', hU6⟩ : ∃ V, w5.alloc (.cells ([.int .i64 0, .int .i64 0, .string ⟨#[]⟩, .int .i64 0, .int .i64 0, .slice none 0 0]).toArray 42) = V := ⟨_, rfl⟩
  obtain ⟨b6, hB6⟩ : ∃ b, w5.heap.size = b := ⟨_, rfl⟩
  have pre : Below w5.heap.size w5 U6' := by rw [← hU6]; exact (Below.refl _ _).alloc (Nat.le_refl _) _
  have BP : Hid (Below w.heap.size w U6') := B5.out.trans (pre.mono B5.out.size)
  have zer : Hid (CellsAt U6' b6 (ptC ⟨0, 0, []⟩ 0 0 (.slice none 0 0))) := by rw [← hU6, ← hB6]; exact ca_new _ _ _
  obtain ⟨-, ⟨T_0, T_1, T_2, T_3⟩, -, T_s⟩ := res4 T5.out pre
  obtain ⟨-, ⟨U_0, U_1, U_2, U_3⟩, -, U_s⟩ := res4 U5.out pre
  go_wp2_with fail
  refine (HDO2.out U6' BP.out).mono ?_
  rintro e w6 ⟨⟨qf, qh, qt, qp⟩, qv, rfl, QD, Qk, hb6⟩
  clear T_0 T_1 T_2 T_3 T_s U_0 U_1 U_2 U_3 U_s
  obtain ⟨rfl, rfl, rfl, rfl⟩ : xf = qf ∧ xh = qh ∧ xt = qt ∧ xp = qp := by have := Tb.diff_unique XD.out QD.out; simpa using this
  dsimp only at Qk ⊢
  obtain ⟨qa, qc, rfl⟩ := owns_shape0 Qk.out
  have Qr := hid (ownCh_rd Qk.out)
  obtain ⟨qn, hqn⟩ : ∃ n, xp.length = n := ⟨_, rfl⟩
  rw [hqn] at Qr ⊢
  rw [hqn] at Qk
  clear Qr
  obtain ⟨zcell, ⟨zz_0, zz_1, zz_2, zz_3, zz_4, zz_5⟩, ⟨zz_f0, zz_f1, zz_f2, zz_f3, zz_f4, zz_f5⟩, zz_s⟩ := res6 zer.out hb6
  have FI := hid (ptFin_old (q := ⟨xf, xh, xt, xp⟩) (Nat.le_of_eq hB6) zcell (owns_base Qk.out zer.out.1) (pre.trans (hb6.mono pre.size)))
  obtain ⟨V6, hV6⟩ : ∃ V, (((((w6.setCell ⟨b6, 0, none⟩ (.int .i64 xf.shift)).setCell ⟨b6, 1, none⟩ (.int .i64 xf.save)).setCell ⟨b6, 2, none⟩ (strV xf.name)).setCell ⟨b6, 3, none⟩ (.int .i64 xh)).setCell ⟨b6, 4, none⟩ (.int .i64 xt)).setCell ⟨b6, 5, none⟩ (.slice qa qn qc) = V := ⟨_, rfl⟩
  rw [hV6] at FI
  have step := FI.out.bel
  have T6 := hid (ca_below T5.out step)
  have U6 := hid (ca_below U5.out step)
  have P6 := hid (ca_below P5.out step)
  have X6 := hid (ca_below X5.out step)
  have Y6 := hid (ca_below Y5.out step)
  have Z6 := hid (ca_below Z5.out step)
  have XR6 := hid (rdCh_below XR5.out step)
  have YR6 := hid (rdCh_below YR5.out step)
  have ZR6 := hid (rdCh_below ZR5.out step)
  have B6 : Hid (Below w.heap.size w V6) := B5.out.trans (step.mono B5.out.size)
  clear T5 U5 P5 X5 Y5 Z5 XR5 YR5 ZR5 B5
  have Q6 : Hid (CellsAt V6 b6 (ptC xf xh xt (.slice qa qn qc))) := FI.out.cells
  have QR6 := hid (ownCh_rd FI.out.own)
  clear step FI zcell zer pre BP hb6 hU6 Qk
  go_wp2_with fail
  clear zz_0 zz_1 zz_2 zz_3 zz_4 zz_5 zz_f0 zz_f1 zz_f2 zz_f3 zz_f4 zz_f5 zz_s
  refine (deltaBegun_is _).mono ?_
  rintro e w7 ⟨rfl, hb7⟩
  have step := hb7
  have T7 := hid (ca_below T6.out step)
  have U7 := hid (ca_below U6.out step)
  have P7 := hid (ca_below P6.out step)
  have X7 := hid (ca_below X6.out step)
  have Y7 := hid (ca_below Y6.out step)
  have Z7 := hid (ca_below Z6.out step)
  have Q7 := hid (ca_below Q6.out step)
  have XR7 := hid (rdCh_below XR6.out step)
  have YR7 := hid (rdCh_below YR6.out step)
  have ZR7 := hid (rdCh_below ZR6.out step)
  have QR7 := hid (rdCh_below QR6.out step)
  have B7 : Hid (Below w.heap.size w w7) := B6.out.trans (step.mono B6.out.size)
  clear T6 U6 P6 X6 Y6 Z6 Q6 XR6 YR6 ZR6 QR6 B6
  clear step hb7
  obtain ⟨-, ⟨X_0, X_1, X_2, X_3, X_4, X_5⟩, -, X_s⟩ := res6 X7.out (Below.refl _ _)
  obtain ⟨-, ⟨Q_0, Q_1, Q_2, Q_3, Q_4, Q_5⟩, -, Q_s⟩ := res6 Q7.out (Below.refl _ _)
  go_wp2_with fail
  refine (samePatch_yes xf xh xt _ _ xp _ XR7.out QR7.out (by have h5 : xp.length ≤ u.ch.length := (Tb.diff_fits XD.out).2.2.2.2.1; have := HLU2.out; omega)).mono ?_
  rintro e w8 ⟨rfl, hb8⟩
  clear X_0 X_1 X_2 X_3 X_4 X_5 X_s Q_0 Q_1 Q_2 Q_3 Q_4 Q_5 Q_s
  have step := hb8
  have T8 := hid (ca_below T7.out step)
  have U8 := hid (ca_below U7.out step)
  have P8 := hid (ca_below P7.out step)
  have X8 := hid (ca_below X7.out step)
  have Y8 := hid (ca_below Y7.out step)
  have Z8 := hid (ca_below Z7.out step)
  have Q8 := hid (ca_below Q7.out step)
  have XR8 := hid (rdCh_below XR7.out step)
  have YR8 := hid (rdCh_below YR7.out step)
  have ZR8 := hid (rdCh_below ZR7.out step)
  have QR8 := hid (rdCh_below QR7.out step)
  have B8 : Hid (Below w.heap.size w w8) := B7.out.trans (step.mono B7.out.size)
  clear T7 U7 P7 X7 Y7 Z7 Q7 XR7 YR7 ZR7 QR7 B7
  clear step hb8
  obtain ⟨-, ⟨Y_0, Y_1, Y_2, Y_3⟩, -, Y_s⟩ := res4 Y8.out (Below.refl _ _)
  obtain ⟨-, ⟨Z_0, Z_1, Z_2, Z_3⟩, -, Z_s⟩ := res4 Z8.out (Below.refl _ _)
  go_wp2_with fail
  refine (tableIs_yes yf zf _ _ yl zl F _ YR8.out ZR8.out (by by_cases q : F = 0; (rw [(Yi.out q).2]; exact HLA.out q); (rw [(Yj.out q).2]; simp)) (fun q => ⟨(Yi.out q).1.trans (Zi.out q).1.symm, (Yi.out q).2.trans (Zi.out q).2.symm⟩) (fun q => Yj.out q)).mono ?_
  rintro e w9 ⟨rfl, hb9⟩
  clear Y_0 Y_1 Y_2 Y_3 Y_s Z_0 Z_1 Z_2 Z_3 Z_s
  have step := hb9
  have T9 := hid (ca_below T8.out step)
  have U9 := hid (ca_below U8.out step)
  have P9 := hid (ca_below P8.out step)
  have X9 := hid (ca_below X8.out step)
  have Y9 := hid (ca_below Y8.out step)
  have Z9 := hid (ca_below Z8.out step)
  have Q9 := hid (ca_below Q8.out step)
  have XR9 := hid (rdCh_below XR8.out step)
  have YR9 := hid (rdCh_below YR8.out step)
  have ZR9 := hid (rdCh_below ZR8.out step)
  have QR9 := hid (rdCh_below QR8.out step)
  have B9 : Hid (Below w.heap.size w w9) := B8.out.trans (step.mono B8.out.size)
  clear T8 U8 P8 X8 Y8 Z8 Q8 XR8 YR8 ZR8 QR8 B8
  clear step hb9
  go_wp2
  go_ret
  exact ⟨rfl, B9.out⟩
end Go.Proofs.Ytombhnjmelidcaa
