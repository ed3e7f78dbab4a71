/- The contract of the document's ApplyOf. -/
import Derived.Test.YtombhnjmelidcaaTbG
namespace Go.Proofs.Ytombhnjmelidcaa
open Go.RowKit
set_option linter.unusedVariables false
set_option linter.unusedSimpArgs false

/- how it ends -/
def ApplyEnd (t : Tb.Tbl) (p : Tb.Pt) (w : World) (e : Ending) (w' : World) : Prop :=
  ∃ f ov l, e = .returned (.tuple #[tbV f ov, .int .i64 (Tb.applyE t p)]) ∧ (Tb.applyE t p = 0 → f = p.first ∧ l = (Tb.applied t p).ch) ∧ (¬ Tb.applyE t p = 0 → f = ⟨0, 0, []⟩ ∧ l = []) ∧ OwnCh w' w.heap.size ov l ∧ Below w.heap.size w w'
theorem applyEnd_no {t : Tb.Tbl} {p : Tb.Pt} {w w' : World} {E : Int} (h : Tb.applyE t p = E) (h0 : E ≠ 0) (hb : Below w.heap.size w w') : ApplyEnd t p w (.returned (.tuple #[.agg #[.int .i64 0, .int .i64 0, .string ⟨#[]⟩, .slice none 0 0], .int .i64 E])) w' :=
  ⟨⟨0, 0, []⟩, .slice none 0 0, [], by rw [h], fun q => absurd (h ▸ q) h0, fun _ => ⟨rfl, rfl⟩, ownCh_nil _ _, hb⟩
theorem applyEnd_yes {t : Tb.Tbl} {p : Tb.Pt} {w w' : World} {ov : Value} (h : Tb.applyE t p = 0) (ho : OwnCh w' w.heap.size ov (Tb.applied t p).ch) (hb : Below w.heap.size w w') : ApplyEnd t p w (.returned (.tuple #[tbV p.first ov, .int .i64 0])) w' :=
  ⟨p.first, ov, _, by rw [h], fun _ => ⟨rfl, rfl⟩, fun q => absurd h q, ho, hb⟩

set_option maxRecDepth 100000 in
set_option maxHeartbeats 8000000 in
theorem applyOf_any (t : Tb.Tbl) (p : Tb.Pt) (v pv : Value) (w : World) (h : RdCh w v t.ch) (h' : RdCh w pv p.put) (hcap : ∀ a n c, v = .slice a n c → n ≤ c ∧ c ≤ maxLen) (hl : t.ch.length ≤ 1000) (hl' : p.put.length ≤ maxLen)
    (n1 : p.first.name.length ≤ maxLen) (n2 : ∀ c ∈ t.ch, c.lc.name.length ≤ maxLen) (n3 : ∀ c ∈ p.put, c.lc.name.length ≤ maxLen) :
    Calls Try.prog 20 #[tbV t.first v, ptV p.first p.head p.tail pv] w (ApplyEnd t p w) := by
  obtain ⟨f, a⟩ := t
  obtain ⟨g, H, T, b⟩ := p
  simp only at h h' hl hl' n1 n2 n3 ⊢
  have HA0 := hid h
  have HB0 := hid h'
  obtain ⟨aa, acap, rfl, _⟩ := h
  obtain ⟨ba, bcap, rfl, _⟩ := h'
  obtain ⟨hc1, hc2⟩ := hcap _ _ _ rfl
  unfold maxLen at hl' hc2
  clear hcap
  have N1 := hid n1
  have N2 := hid n2
  have N3 := hid n3
  clear n1 n2 n3
  have B0 : Hid (Below w.heap.size w (((w.alloc (.cells (tbC f (.slice aa a.length acap)).toArray 26)).alloc (.cells (ptC g H T (.slice ba b.length bcap)).toArray 42)).alloc (.cells (tbC ⟨0, 0, []⟩ (.slice none 0 0)).toArray 26))) :=
    (((Below.refl _ _).alloc (Nat.le_refl _) _).alloc (by simp) _).alloc (by simp; omega) _
  by_cases q1 : 0 ≤ H
  case neg =>
    have HE : Hid (Tb.applyE ⟨f, a⟩ ⟨g, H, T, b⟩ = 3) := applyE_fit (fun q => q1 q.1)
    go_enter Try.func20, Try.ntmps20
    go_wp2
    refine bodyPost_ret (v := .tuple #[.agg #[.int .i64 0, .int .i64 0, .string ⟨#[]⟩, .slice none 0 0], .int .i64 3]) (by simp [results, Try.results20, go_sem, *]) rfl (applyEnd_no HE.out (by decide) ?_)
    repeat (refine below_set ?_ (by omega) _)
    exact B0.out
  by_cases q2 : 0 ≤ T
  case neg =>
    have HE : Hid (Tb.applyE ⟨f, a⟩ ⟨g, H, T, b⟩ = 3) := applyE_fit (fun q => q2 q.2.1)
    go_enter Try.func20, Try.ntmps20
    go_wp2
    refine bodyPost_ret (v := .tuple #[.agg #[.int .i64 0, .int .i64 0, .string ⟨#[]⟩, .slice none 0 0], .int .i64 3]) (by simp [results, Try.results20, go_sem, *]) rfl (applyEnd_no HE.out (by decide) ?_)
    repeat (refine below_set ?_ (by omega) _)
    exact B0.out
  by_cases q3 : H ≤ a.length
  case neg =>
    have HE : Hid (Tb.applyE ⟨f, a⟩ ⟨g, H, T, b⟩ = 3) := applyE_fit (fun q => q3 q.2.2.1)
    go_enter Try.func20, Try.ntmps20
    go_wp2
    refine bodyPost_ret (v := .tuple #[.agg #[.int .i64 0, .int .i64 0, .string ⟨#[]⟩, .slice none 0 0], .int .i64 3]) (by simp [results, Try.results20, go_sem, *]) rfl (applyEnd_no HE.out (by decide) ?_)
    repeat (refine below_set ?_ (by omega) _)
    exact B0.out
  by_cases q4 : T ≤ a.length - H
  case neg =>
    have HE : Hid (Tb.applyE ⟨f, a⟩ ⟨g, H, T, b⟩ = 3) := applyE_fit (fun q => q4 q.2.2.2)
    go_enter Try.func20, Try.ntmps20
    go_wp2
    refine bodyPost_ret (v := .tuple #[.agg #[.int .i64 0, .int .i64 0, .string ⟨#[]⟩, .slice none 0 0], .int .i64 3]) (by simp [results, Try.results20, go_sem, *]) rfl (applyEnd_no HE.out (by decide) ?_)
    repeat (refine below_set ?_ (by omega) _)
    exact B0.out
  by_cases q5 : 1000 < b.length
  case pos =>
    have HE : Hid (Tb.applyE ⟨f, a⟩ ⟨g, H, T, b⟩ = 2) := applyE_many ⟨q1, q2, q3, q4⟩ q5
    go_enter Try.func20, Try.ntmps20
    go_wp2
    refine bodyPost_ret (v := .tuple #[.agg #[.int .i64 0, .int .i64 0, .string ⟨#[]⟩, .slice none 0 0], .int .i64 2]) (by simp [results, Try.results20, go_sem, *]) rfl (applyEnd_no HE.out (by decide) ?_)
    repeat (refine below_set ?_ (by omega) _)
    exact B0.out
  have HE := hid (applyE_ok (t := ⟨f, a⟩) (p := ⟨g, H, T, b⟩) ⟨q1, q2, q3, q4⟩ q5)
  obtain ⟨h, rfl⟩ := Int.eq_ofNat_of_zero_le q1
  obtain ⟨s, rfl⟩ := Int.eq_ofNat_of_zero_le q2
  obtain ⟨i0, hi, hz0, hz1, hz2⟩ := info_parts Try.infoCg
  have hh : h ≤ a.length := by omega
  have hs : s ≤ a.length - h := by omega
  have hs' : h + s ≤ a.length := by omega
  clear B0
  obtain ⟨N, hN⟩ : ∃ N, w.heap.size = N := ⟨_, rfl⟩
  have HNN := hid hN
  obtain ⟨W, hW⟩ : ∃ W, ((((w.alloc (.cells (tbC f (.slice aa a.length acap)).toArray 26)).alloc (.cells (ptC g h s (.slice ba b.length bcap)).toArray 42)).alloc (.cells (tbC ⟨0, 0, []⟩ (.slice none 0 0)).toArray 26)).alloc (.cells (tbC g (.slice none 0 0)).toArray 26)) = W := ⟨_, rfl⟩
  have B0 : Hid (Below N w W) := by
    rw [← hW, ← hN]; show Below _ _ _
    exact ((((Below.refl _ _).alloc (Nat.le_refl _) _).alloc (by simp) _).alloc (by simp; omega) _).alloc (by simp; omega) _
  have T0 : Hid (CellsAt W N (tbC f (.slice aa a.length acap))) := by
    rw [← hW, ← hN]; exact ca_alloc (ca_alloc (ca_alloc (ca_new _ _ _) _) _) _
  have P0 : Hid (CellsAt W (N + 1) (ptC g h s (.slice ba b.length bcap))) := by
    rw [← hW, ← hN]; show CellsAt _ _ _
    have := ca_alloc (ca_alloc (ca_new (w.alloc (.cells (tbC f (.slice aa a.length acap)).toArray 26)) (ptC g h s (.slice ba b.length bcap)) 42) (.cells (tbC ⟨0, 0, []⟩ (.slice none 0 0)).toArray 26)) (.cells (tbC g (.slice none 0 0)).toArray 26)
    simpa using this
  have R0 : Hid (CellsAt W (N + 1 + 1) (tbC ⟨0, 0, []⟩ (.slice none 0 0))) := by
    rw [← hW, ← hN]; show CellsAt _ _ _
    have := ca_alloc (ca_new ((w.alloc (.cells (tbC f (.slice aa a.length acap)).toArray 26)).alloc (.cells (ptC g h s (.slice ba b.length bcap)).toArray 42)) (tbC ⟨0, 0, []⟩ (.slice none 0 0)) 26) (.cells (tbC g (.slice none 0 0)).toArray 26)
    simpa using this
  have U0 : Hid (CellsAt W (N + 1 + 1 + 1) (tbC g (.slice none 0 0))) := by
    rw [← hW, ← hN]; show CellsAt _ _ _
    have := ca_new (((w.alloc (.cells (tbC f (.slice aa a.length acap)).toArray 26)).alloc (.cells (ptC g h s (.slice ba b.length bcap)).toArray 42)).alloc (.cells (tbC ⟨0, 0, []⟩ (.slice none 0 0)).toArray 26)) (tbC g (.slice none 0 0)) 26
    simpa using this
  have HA : Hid (∀ wx, Below N w wx → RdCh wx (.slice aa a.length acap) a) := fun wx hb => rdCh_below HA0.out (by rw [hN]; exact hb)
  have HB : Hid (∀ wx, Below N w wx → RdCh wx (.slice ba b.length bcap) b) := fun wx hb => rdCh_below HB0.out (by rw [hN]; exact hb)
  have sW : N + 1 + 1 + 1 + 1 ≤ W.heap.size := U0.out.1
  have S0 : Hid (ApSt w N f g (.slice aa a.length acap) (.slice ba b.length bcap) h s W (.slice none 0 0) []) := ⟨ownCh_nil _ _, B0.out, T0.out, P0.out, R0.out, U0.out⟩
  clear HA0 HB0 B0 T0 P0 R0 U0
  have k1 : ¬ (h : Int) < 0 := by omega
  have k2 : ¬ (s : Int) < 0 := by omega
  have k3 : ¬ a.length < h := by omega
  have k4 : ¬ (a.length : Int) - h < s := by omega
  have k5 : ¬ (1000 : Int) < b.length := by omega
  have HW := hid hW
  clear hW
  go_enter Try.func20, Try.ntmps20
  go_wp2_with fail
  rw [show (((w.alloc (.cells #[.int .i64 f.shift, .int .i64 f.save, strV f.name, .slice aa a.length acap] 26)).alloc (.cells #[.int .i64 g.shift, .int .i64 g.save, strV g.name, .int .i64 h, .int .i64 s, .slice ba b.length bcap] 42)).alloc (.cells #[.int .i64 0, .int .i64 0, .string ⟨#[]⟩, .slice none 0 0] 26)).alloc (.cells #[.int .i64 g.shift, .int .i64 g.save, .string ⟨g.name.toArray⟩, .slice none 0 0] 26) = W from HW.out]
  clear HW hN
  go_cut [] from 44 to 52 (fun wc => ∃ v, Hid (ApSt w N f g (.slice aa a.length acap) (.slice ba b.length bcap) h s wc v (a.take h)))
  case first =>
    obtain ⟨t3, k3⟩ := ca_at S0.out.t 3 rfl
    obtain ⟨p3, m3⟩ := ca_at S0.out.p 3 rfl
    obtain ⟨u3, l3⟩ := ca_at S0.out.u 3 rfl
    have st := S0.out.t.1
    have sp := S0.out.p.1
    have su := S0.out.u.1
    obtain ⟨L1, hL1⟩ : ∃ L1, a.take h = L1 := ⟨_, rfl⟩
    have HL1 := hid hL1
    have r1 := rdCh_take (c' := acap) (HA.out W S0.out.bel) h hh
    rw [hL1] at r1
    have e1 : Hid (h = L1.length) := rdCh_len r1
    have c1 := rdCh_cells r1
    have z1 := rdCh_nil r1
    have f1 : (L1.flatMap cgCells).length = h * 4 := by rw [flat_len, ← e1.out]
    have o1 := flat_one L1
    have S0' := S0.out
    have hc1' : h ≤ acap := by omega
    clear r1 hL1
    go_region_law (refine step_append_any rfl (.tmp 45) (.tmp 50) 24 rfl (N + 1 + 1 + 1 + 1) 32 i0 (.agg #[.int .i64 0, .int .i64 0, .int .i64 0, .string ⟨#[]⟩]) 4 40 Try.underlying24 hi hz0 hz1 hz2 rfl (by decide) (.slice none 0 0) 0 [] (by simp [Act.eval, Act.put]) (ownCh_nil _ _) aa h acap (L1.flatMap cgCells) (by simp [Act.eval, Act.put]) f1 c1 z1 o1 (by unfold maxLen; omega) (by omega) sW ?_; intro v' w3 hown' hgrow; have hg2 : World.grownBy W w3 (Value.ownBlock (.slice none 0 0)) := ⟨hgrow.os, hgrow.tape, hgrow.output, hgrow.size, hgrow.block⟩; obtain ⟨va', vcap', rfl, p5', m5', sp3⟩ := apSt_arm S0' hown' hg2)
    all_goals
      go_wp2_with fail
      go_meet
      exact ⟨_, by rw [HL1.out]; have := apSt_app (L1 := L1) S0' hown' (by simp [← e1.out]) hg2; exact hid (by simpa using this)⟩
  case rest =>
  clear S0 sW
  obtain ⟨v1, S1⟩ := hcut
  obtain ⟨va1, vcap1, rfl⟩ := owns_shape0 S1.out.own
  obtain ⟨L1, hL1⟩ : ∃ L1, a.take h = L1 := ⟨_, rfl⟩
  rw [hL1] at S1
  have HL1 := hid hL1
  have l1 : L1.length ≤ 1000 := by rw [← hL1]; simp; omega
  clear hL1
  obtain ⟨p5, m5⟩ := ca_at S1.out.p 5 rfl
  obtain ⟨u3, l3⟩ := ca_at S1.out.u 3 rfl
  have sp := S1.out.p.1
  have su := S1.out.u.1
  have r2 := HB.out _ S1.out.bel
  have c2 := rdCh_cells r2
  have z2 := rdCh_nil r2
  have f2 := flat_len b
  have o2 := flat_one b
  have S1' := S1.out
  have w2 : OwnCh wc (N + 1 + 1 + 1 + 1) (.slice va1 L1.length vcap1) L1 := S1.out.own
  clear r2
  go_wp2_with (at_builtin; refine wpList_append_any rfl (.tmp 54) (.tmp 56) 24 rfl (N + 1 + 1 + 1 + 1) 32 i0 (.agg #[.int .i64 0, .int .i64 0, .int .i64 0, .string ⟨#[]⟩]) 4 40 Try.underlying24 hi hz0 hz1 hz2 rfl (by decide) (.slice va1 L1.length vcap1) L1.length (L1.flatMap cgCells) rfl w2 ba b.length bcap (b.flatMap cgCells) rfl f2 c2 z2 o2 (by unfold maxLen; omega) (by omega) (by omega) ?_)
  intro v2 w3 hown' hgrow
  obtain ⟨va2, vcap2, rfl, p5', m5', sp3⟩ := apSt_arm S1' hown' hgrow
  have S2 := hid (apSt_app (L1 := b) S1' hown' rfl hgrow)
  clear S1 S1' hown' hgrow p5 m5 u3 l3 sp su c2 z2 f2 o2 w2
  obtain ⟨W2, hW2⟩ : ∃ W2, w3.setCell ⟨N + 1 + 1 + 1, 3, none⟩ (.slice va2 (L1.length + b.length) vcap2) = W2 := ⟨_, rfl⟩
  rw [hW2] at S2
  obtain ⟨L2, hL2⟩ : ∃ L2, L1 ++ b = L2 := ⟨_, rfl⟩
  rw [hL2] at S2
  have e2 : L1.length + b.length = L2.length := by rw [← hL2]; simp
  have l2 : L2.length ≤ 2000 := by omega
  rw [e2] at S2 hW2
  have HL2 := hid hL2
  go_wp2_with fail
  try rw [e2]
  try rw [hW2]
  clear hL2 hW2 p5' m5' sp3
  clear e2
  go_cut [] from 59 to 69 (fun wc => ∃ v, Hid (ApSt w N f g (.slice aa a.length acap) (.slice ba b.length bcap) h s wc v (L2 ++ a.drop (a.length - s))))
  case first =>
    obtain ⟨t3, k3'⟩ := ca_at S2.out.t 3 rfl
    obtain ⟨p4, m4⟩ := ca_at S2.out.p 4 rfl
    obtain ⟨u3, l3⟩ := ca_at S2.out.u 3 rfl
    have st := S2.out.t.1
    have sp := S2.out.p.1
    have su := S2.out.u.1
    have sz2 : N + 1 + 1 + 1 + 1 ≤ W2.heap.size := su
    have S2' := S2.out
    have w2 : OwnCh W2 (N + 1 + 1 + 1 + 1) (.slice va2 L2.length vcap2) L2 := S2.out.own
    obtain ⟨k, hk⟩ : ∃ k : Nat, a.length - s = k := ⟨_, rfl⟩
    have ek : (a.length : Int) - s = k := by omega
    have hks : k + s = a.length := by omega
    have HKK := hid hk
    clear hk
    have ra := HA.out _ S2.out.bel
    by_cases s0 : s = 0
    · have hka : k ≤ acap := by omega
      have hwk : IntKind.i64.wrap (k : Int) = k := by rw [IntKind.wrap_i64]; omega
      have hkl : (k : Int) ≤ a.length := by omega
      have hsub : a.length - k = s := by omega
      have n0 : Hid (([] : List Value).length = s * 4) := by show _ = _; rw [s0]; rfl
      have n1 : ∀ (xa : Option Addr) (ad : Addr), xa = some ad → ∀ (j : Nat) (u : Value), ([] : List Value)[j]? = some u → W2.cell? (ad.add j) = some u := by intro _ _ _ j u hu; simp at hu
      have n2 : Hid (∀ xa : Option Addr, xa = none → s = 0) := fun _ _ => s0
      have n3 : ∀ u ∈ ([] : List Value), u.oneCell' = true := by intro u hu; simp at hu
      have HD0 : Hid (a.drop k = []) := by show _ = _; rw [show k = a.length by omega]; simp
      have S00 := hid s0
      clear s0 ra
      by_cases hq : k = acap
      case' pos => subst hq
      case' neg => have hq' : ¬ acap = k := fun q => hq q.symm
      all_goals
        go_region_law (refine step_append_any rfl (.tmp 60) (.tmp 67) 24 rfl (N + 1 + 1 + 1 + 1) 32 i0 (.agg #[.int .i64 0, .int .i64 0, .int .i64 0, .string ⟨#[]⟩]) 4 40 Try.underlying24 hi hz0 hz1 hz2 rfl (by decide) (.slice va2 L2.length vcap2) L2.length (L2.flatMap cgCells) (by simp [Act.eval, Act.put]) w2 _ s _ [] (by simp [Act.eval, Act.put]; first | exact ⟨rfl, rfl⟩ | rfl) n0.out (n1 _) (n2.out _) n3 (by unfold maxLen; omega) (by omega) sz2 ?_; intro v' w4 hown' hgrow; have hg2 : World.grownBy W2 w4 (Value.ownBlock (.slice va2 L2.length vcap2)) := ⟨hgrow.os, hgrow.tape, hgrow.output, hgrow.size, hgrow.block⟩; obtain ⟨va', vcap', rfl, p5', m5', sp3⟩ := apSt_arm S2' hown' hg2)
        all_goals
          go_wp2_with fail
          go_meet
          exact ⟨_, by rw [HKK.out, HD0.out]; exact hid (apSt_app (L1 := []) S2' (by simpa using hown') (by rw [S00.out]; rfl) hg2)⟩
    · have hne : a ≠ [] := by intro q; rw [q] at hks; simp at hks; omega
      obtain ⟨_, _, e1, ra2⟩ := id ra
      obtain ⟨bb, bo, e3, hbb, _⟩ := ra2 hne
      simp only [Value.slice.injEq] at e1
      obtain ⟨rfl, _, rfl⟩ := e1
      subst e3
      obtain ⟨L3, hL3⟩ : ∃ L3, a.drop k = L3 := ⟨_, rfl⟩
      have r3 := rdCh_drop (c' := acap - k) ra k s hks
      rw [hL3] at r3
      have e3 : Hid (s = L3.length) := rdCh_len r3
      have c3 := rdCh_cells r3
      have z3 := rdCh_nil r3
      have f3 : (L3.flatMap cgCells).length = s * 4 := by rw [flat_len, ← e3.out]
      have o3 := flat_one L3
      have hka : k ≤ acap := by omega
      have hwk : IntKind.i64.wrap (k : Int) = k := by rw [IntKind.wrap_i64]; omega
      have hkl : (k : Int) ≤ a.length := by omega
      have hkn : ¬ acap = k := by omega
      have hsub : a.length - k = s := by omega
      have hka2 : k < acap := by omega
      have HL3 := hid hL3
      clear ra ra2 r3 hL3
      go_region_law (refine step_append_any rfl (.tmp 60) (.tmp 67) 24 rfl (N + 1 + 1 + 1 + 1) 32 i0 (.agg #[.int .i64 0, .int .i64 0, .int .i64 0, .string ⟨#[]⟩]) 4 40 Try.underlying24 hi hz0 hz1 hz2 rfl (by decide) (.slice va2 L2.length vcap2) L2.length (L2.flatMap cgCells) (by simp [Act.eval, Act.put]) w2 (some ⟨bb, bo + k * 4, none⟩) s (acap - k) (L3.flatMap cgCells) (by simp [Act.eval, Act.put]) f3 c3 z3 o3 (by unfold maxLen; omega) (by omega) sz2 ?_; intro v' w4 hown' hgrow; have hg2 : World.grownBy W2 w4 (Value.ownBlock (.slice va2 L2.length vcap2)) := ⟨hgrow.os, hgrow.tape, hgrow.output, hgrow.size, hgrow.block⟩; obtain ⟨va', vcap', rfl, p5', m5', sp3⟩ := apSt_arm S2' hown' hg2)
      all_goals
        go_wp2_with fail
        go_meet
        exact ⟨_, by rw [HKK.out, HL3.out]; exact hid (apSt_app (L1 := L3) S2' hown' (by rw [← e3.out]) hg2)⟩
  case rest =>
  clear S2
  obtain ⟨v3, S3⟩ := hcut
  obtain ⟨va3, vcap3, rfl⟩ := owns_shape0 S3.out.own
  obtain ⟨L, hL⟩ : ∃ L, L2 ++ a.drop (a.length - s) = L := ⟨_, rfl⟩
  rw [hL] at S3
  have HL : Hid ((Tb.applied ⟨f, a⟩ ⟨g, h, s, b⟩).ch = L) := by
    show _ = _
    rw [← hL, ← HL2.out, ← HL1.out]
    simp [Tb.applied]
  have ll : L.length ≤ 3000 := by rw [← hL]; simp; omega
  have NL : Hid (∀ c ∈ L, c.lc.name.length ≤ maxLen) := by
    intro c hc
    rw [← hL, ← HL2.out, ← HL1.out] at hc
    simp only [List.mem_append] at hc
    rcases hc with (hc | hc) | hc
    · exact N2.out c (List.mem_of_mem_take hc)
    · exact N3.out c hc
    · exact N2.out c (List.mem_of_mem_drop hc)
  clear hL
  obtain ⟨u0, l0⟩ := ca_at S3.out.u 0 rfl
  obtain ⟨u1, l1'⟩ := ca_at S3.out.u 1 rfl
  obtain ⟨u2, l2'⟩ := ca_at S3.out.u 2 rfl
  obtain ⟨u3, l3⟩ := ca_at S3.out.u 3 rfl
  have su := S3.out.u.1
  go_wp2_with fail
  refine (checkTable_any ⟨g, L⟩ _ _ (ownCh_rd S3.out.own) (by unfold maxLen; simp only; omega) N1.out NL.out).mono ?_
  rintro e w5 ⟨rfl, hb5⟩
  have HE2 : Hid (Tb.applyE ⟨f, a⟩ ⟨g, h, s, b⟩ = Tb.tableE ⟨g, L⟩) := by
    show _ = _
    rw [HE.out, ← HL.out]
    rfl
  obtain ⟨E, hE⟩ : ∃ E, Tb.tableE ⟨g, L⟩ = E := ⟨_, rfl⟩
  rw [hE] at HE2
  rw [hE]
  clear hE HE
  have B5 : Hid (Below N w w5) := S3.out.bel.trans (hb5.mono (by have := S3.out.u.1; omega))
  have U5 := hid (ca_below S3.out.u hb5)
  have R5 := hid (ca_below S3.out.r hb5)
  have O5 : Hid (OwnCh w5 (N + 1 + 1 + 1 + 1) (.slice va3 L.length vcap3) L) := owns_below S3.out.own hb5
  clear S3 hb5 u0 l0 u1 l1' u2 l2' u3 l3 su
  obtain ⟨u0, l0⟩ := ca_at U5.out 0 rfl
  obtain ⟨u1, l1'⟩ := ca_at U5.out 1 rfl
  obtain ⟨u2, l2'⟩ := ca_at U5.out 2 rfl
  obtain ⟨u3, l3⟩ := ca_at U5.out 3 rfl
  obtain ⟨r0, j0⟩ := ca_at R5.out 0 rfl
  obtain ⟨r1, j1⟩ := ca_at R5.out 1 rfl
  obtain ⟨r2, j2⟩ := ca_at R5.out 2 rfl
  obtain ⟨r3, j3⟩ := ca_at R5.out 3 rfl
  have su := U5.out.1
  have sr := R5.out.1
  by_cases h0 : E = 0
  · subst h0
    go_wp2
    refine bodyPost_ret (v := .tuple #[tbV g (.slice va3 L.length vcap3), .int .i64 0]) (by simp [results, Try.results20, go_sem, *]) rfl (applyEnd_yes (p := ⟨g, h, s, b⟩) HE2.out ?_ ?_)
    · rw [HL.out, HNN.out]
      have ne : ∀ o, Value.ownBlock (.slice va3 L.length vcap3) ≠ some (⟨N + 1 + 1, o, none⟩ : Addr).block := by
        intro o q
        have := (O5.out.lt _ q).1
        simp at this
        omega
      repeat (refine ownsRow_setCell_other ?_ (ne _) _)
      exact owns_base O5.out (by omega)
    · rw [HNN.out]
      repeat (refine below_set ?_ (by omega) _)
      exact B5.out
  · have h0' : (E != 0) = true := by simp [h0]
    have h00 := hid h0
    clear h0
    go_wp2
    refine bodyPost_ret (v := .tuple #[.agg #[.int .i64 0, .int .i64 0, .string ⟨#[]⟩, .slice none 0 0], .int .i64 E]) (by simp [results, Try.results20, go_sem, *]) rfl (applyEnd_no HE2.out h00.out ?_)
    rw [HNN.out]
    repeat (refine below_set ?_ (by omega) _)
    exact B5.out
end Go.Proofs.Ytombhnjmelidcaa
