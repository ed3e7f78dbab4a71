/- The contract of the reader's table. -/
import Derived.Test.YtombhnjmelidcaaWdF
namespace Go.Proofs.Ytombhnjmelidcaa
open Go.RowKit Go.Shelf
set_option linter.unusedVariables false
set_option linter.unusedSimpArgs false

theorem moreEnters : ∀ args w, (callFunc 46 args).run Try.prog w = .ok (.enter 46 args) w := enters_of Try.func46 (by kernel_rfl) rfl
theorem changeEnters : ∀ args w, (callFunc 51 args).run Try.prog w = .ok (.enter 51 args) w := enters_of Try.func51 (by kernel_rfl) rfl
/- kinds, read one by one -/
structure KI (w0 : World) (r N n : Nat) (s1 : Tx.Bs) (i : Nat) (W : World) : Prop where
  ex : ∃ ks s' kv, ks.length = i ∧ Wr.locsFrom n s1 ks i s' ∧ TS W r N s' ks kv ∧ s'.length ≤ maxLen ∧ ∀ l ∈ ks, l.name.length ≤ 255
  bel : Below r w0 W
theorem kinds_read (r N : Nat) (s s1 : Tx.Bs) (n : Nat) (w0 w : World) (h : TS w r N s [] (.slice none 0 0)) (hb : Below r w0 w) (hs : s.length ≤ maxLen) (hp : Wr.pNum 2 s = some (n, s1)) :
    Calls Try.prog 45 #[.pointer (some ⟨r, 0, none⟩), .func (.func 46) #[] #[.pointer (some ⟨N + 1 + 1, 0, none⟩), .pointer (some ⟨N, 0, none⟩)]] w fun e w' => (e = .returned (.tuple #[]) ∧ KI w0 r N n s1 n w') ∨ (e = gaveUp ∧ Below r w0 w' ∧ Wr.pLocs n s1 = none) := by
  have hl := Wr.pNum_len hp
  have hn : n < 65536 := hl.2
  refine repeat_of r _ _ s s1 n w h.rd hs hp moreEnters (KI w0 r N n s1) (fun W => Below r w0 W ∧ Wr.pLocs n s1 = none) ?_ ?_
  · intro W hg hr
    exact ⟨⟨[], s1, .slice none 0 0, rfl, Wr.locs_start n s1, ts_grown h hg hr, Nat.le_trans hl.1 hs, by simp⟩, hb.trans (below_grownR hg h.rd.1)⟩
  · rintro i hi W ⟨⟨ks, s', kv, h1, h2, h3, h4, h5⟩, hB⟩
    cases hq : Wr.pLoc s' with
    | none =>
      refine (more_no r N s' ks kv W h3 h4 hq).mono ?_
      rintro e w' ⟨he, hb'⟩
      exact .inr ⟨he, hB.trans hb', Wr.locs_bad h2 hi hq⟩
    | some p =>
      obtain ⟨l, s2⟩ := p
      have hll := Wr.pLoc_len hq
      refine (more_yes r N s' s2 l ks kv W h3 h4 hq (by omega)).mono ?_
      rintro e w' ⟨kv', he, hT, hb'⟩
      refine .inl ⟨he, ⟨ks ++ [l], s2, kv', by simp [h1], Wr.locs_next h2 hi hq, hT, Nat.le_trans hll.1 h4, fun x hx => ?_⟩, hB.trans hb'⟩
      simp at hx
      rcases hx with hx | rfl
      · exact h5 x hx
      · exact hll.2
/- changes, read one by one -/
structure CI (w0 : World) (r N F V : Nat) (ks : List Tb.Lc) (kv : Value) (f : Tb.Lc) (n : Nat) (s1 : Tx.Bs) (i : Nat) (W : World) : Prop where
  ex : ∃ chs s' cv, chs.length = i ∧ Wr.chsFrom ks n s1 chs i s' ∧ TS2 W r N F V s' ks kv f cv chs ∧ s'.length ≤ maxLen ∧ ∀ c ∈ chs, c.lc ∈ ks
  bel : Below r w0 W
theorem changes_read (r N F V : Nat) (ks : List Tb.Lc) (kv : Value) (f : Tb.Lc) (s s1 : Tx.Bs) (n : Nat) (w0 w : World) (h : TS2 w r N F V s ks kv f (.slice none 0 0) []) (hb : Below r w0 w) (hs : s.length ≤ maxLen) (hk : ks.length ≤ 100000) (hp : Wr.pNum 2 s = some (n, s1)) :
    Calls Try.prog 45 #[.pointer (some ⟨r, 0, none⟩), .func (.func 51) #[] #[.pointer (some ⟨N, 0, none⟩), .pointer (some ⟨V, 0, none⟩), .pointer (some ⟨F, 0, none⟩)]] w fun e w' => (e = .returned (.tuple #[]) ∧ CI w0 r N F V ks kv f n s1 n w') ∨ (e = gaveUp ∧ Below r w0 w' ∧ Wr.pChs ks n s1 = none) := by
  have hl := Wr.pNum_len hp
  have hn : n < 65536 := hl.2
  refine repeat_of r _ _ s s1 n w h.ts.rd hs hp changeEnters (CI w0 r N F V ks kv f n s1) (fun W => Below r w0 W ∧ Wr.pChs ks n s1 = none) ?_ ?_
  · intro W hg hr
    exact ⟨⟨[], s1, .slice none 0 0, rfl, Wr.chs_start ks n s1, ts2_grown h hg hr, Nat.le_trans hl.1 hs, by simp⟩, hb.trans (below_grownR hg h.ts.rd.1)⟩
  · rintro i hi W ⟨⟨chs, s', cv, h1, h2, h3, h4, h5⟩, hB⟩
    refine (change_any r N F V s' ks kv f cv chs W h3 h4 hk (by omega)).mono ?_
    rintro e w' ⟨hb', ⟨c, s2, cv', hq, he, hT⟩ | ⟨hq, he⟩⟩
    · have hll := Wr.pCh_len hq
      refine .inl ⟨he, ⟨chs ++ [c], s2, cv', by simp [h1], Wr.chs_next h2 hi hq, hT, Nat.le_trans hll.1 h4, fun x hx => ?_⟩, hB.trans hb'⟩
      simp at hx
      rcases hx with hx | rfl
      · exact h5 x hx
      · exact hll.2
    · exact .inr ⟨he, hB.trans hb', Wr.chs_bad h2 hi hq⟩
/- what is read is not too long -/
structure Short (t : Tb.Tbl) : Prop where
  ch : t.ch.length ≤ 65535
  first : t.first.name.length ≤ 255
  names : ∀ c ∈ t.ch, c.lc.name.length ≤ 255
theorem ts_alloc {w : World} {r N : Nat} {s : Tx.Bs} {ks : List Tb.Lc} {kv : Value} (h : TS w r N s ks kv) (o : Obj) : TS (w.alloc o) r N s ks kv := ⟨ca_alloc h.rd o, ca_alloc h.pb o, ca_alloc h.res o, ca_alloc h.k o, World.ownsRow.alloc h.own o, h.lt⟩
theorem res4' {w5 : World} {R : Nat} {c0 c1 c2 c3 : Value} (h5 : CellsAt w5 R [c0, c1, c2, c3]) : True ∧ (w5.cell? ⟨R, 0, none⟩ = some c0 ∧ w5.cell? ⟨R, 1, none⟩ = some c1 ∧ w5.cell? ⟨R, 2, none⟩ = some c2 ∧ w5.cell? ⟨R, 3, none⟩ = some c3) ∧
    (w5.frozen? ⟨R, 0, none⟩ = false ∧ w5.frozen? ⟨R, 1, none⟩ = false ∧ w5.frozen? ⟨R, 2, none⟩ = false ∧ w5.frozen? ⟨R, 3, none⟩ = false) ∧ R < w5.heap.size :=
  ⟨trivial, ⟨(ca_at h5 0 rfl).1, (ca_at h5 1 rfl).1, (ca_at h5 2 rfl).1, (ca_at h5 3 rfl).1⟩, ⟨(ca_at h5 0 rfl).2, (ca_at h5 1 rfl).2, (ca_at h5 2 rfl).2, (ca_at h5 3 rfl).2⟩, h5.1⟩
def TableEnd (r : Nat) (s : Tx.Bs) (w : World) (e : Ending) (w' : World) : Prop :=
  Below r w w' ∧ ((∃ t cv, Wr.parse s = some t ∧ e = .returned (tbV t.first cv) ∧ OwnCh w' r cv t.ch ∧ Short t) ∨ (Wr.parse s = none ∧ e = gaveUp))
set_option maxRecDepth 100000 in
set_option maxHeartbeats 8000000 in
theorem rtable_any (r : Nat) (s : Tx.Bs) (w : World) (h : Rr w r s) (hs : s.length ≤ maxLen) :
    Calls Try.prog 29 #[.pointer (some ⟨r, 0, none⟩)] w (TableEnd r s w) := by
  obtain ⟨P, hP⟩ : ∃ P, Wr.parse s = P := ⟨_, rfl⟩
  have HP := hid hP
  have HS := hid hs
  obtain ⟨N, hN⟩ : ∃ N, w.heap.size = N := ⟨_, rfl⟩
  obtain ⟨W0, hW⟩ : ∃ W, ((w.alloc (.cells #[.pointer (some ⟨r, 0, none⟩)] 62)).alloc (.cells #[.int .i64 0, .int .i64 0, .string ⟨#[]⟩, .slice none 0 0] 26)).alloc (.cells #[.slice none 0 0] 68) = W := ⟨_, rfl⟩
  have lt : r < N := by rw [← hN]; exact h.1
  have B0 : Hid (Below r w W0) := by
    rw [← hW]; show Below _ _ _
    exact (((Below.refl _ _).alloc (by omega) _).alloc (by simp; omega) _).alloc (by simp; omega) _
  have T0 : Hid (TS W0 r N s [] (.slice none 0 0)) := by
    refine ⟨by rw [← hW]; exact ca_alloc (ca_alloc (ca_alloc h _) _) _, ?_, ?_, ?_, World.ownsRow_nil _ _ _ _, lt⟩
    · rw [← hW, ← hN]; exact ca_alloc (ca_alloc (ca_new w [.pointer (some ⟨r, 0, none⟩)] 62) _) _
    · rw [← hW, ← hN]
      have := ca_alloc (ca_new (w.alloc (.cells #[.pointer (some ⟨r, 0, none⟩)] 62)) (tbC ⟨0, 0, []⟩ (.slice none 0 0)) 26) (.cells #[.slice none 0 0] 68)
      rw [World.size_alloc] at this
      exact this
    · rw [← hW, ← hN]
      have := ca_new ((w.alloc (.cells #[.pointer (some ⟨r, 0, none⟩)] 62)).alloc (.cells #[.int .i64 0, .int .i64 0, .string ⟨#[]⟩, .slice none 0 0] 26)) [.slice none 0 0] 68
      rw [World.size_alloc, World.size_alloc] at this
      exact this
  clear h hs hP
  obtain ⟨p0, _⟩ := ca_at T0.out.pb 0 rfl
  have sp := T0.out.pb.1
  cases h1 : Wr.pNum 2 s with
  | none =>
    have q : ¬ 2 ≤ s.length := fun q => by rw [Wr.pNum_some q] at h1; cases h1
    have HE : Hid (Wr.parse s = none) := by show _ = _; unfold Wr.parse; rw [h1]
    have C0 := hid (repeat_short r (.func (.func 46) #[] #[.pointer (some ⟨N + 1 + 1, 0, none⟩), .pointer (some ⟨N, 0, none⟩)]) s W0 T0.out.rd q)
    clear q h1
    go_enter Try.func29, Try.ntmps29
    go_wp2_with fail
    refine C0.out.mono ?_
    rintro e w1 ⟨rfl, rfl⟩
    exact ⟨rfl, B0.out, .inr ⟨HE.out, rfl⟩⟩
  | some p =>
  obtain ⟨n, s1⟩ := p
  have C0 := hid (kinds_read r N s s1 n w W0 T0.out B0.out HS.out h1)
  have H1 := hid h1
  have hn : n < 65536 := (Wr.pNum_len h1).2
  clear h1
  go_enter Try.func29, Try.ntmps29
  go_wp2_with fail
  refine C0.out.mono ?_
  rintro e w1 (⟨rfl, ⟨⟨ks, s2, kv, hk1, hk2, hT, hk4, hk5⟩, hB⟩⟩ | ⟨rfl, hB, hbad⟩)
  case inr =>
    exact ⟨rfl, hB, .inr ⟨by unfold Wr.parse; rw [H1.out]; simp only; rw [hbad], rfl⟩⟩
  have H2 := hid (Wr.locs_end hk2)
  obtain ⟨ka, kcap, rfl⟩ := lc_shape hT.own
  have T1 := hid hT
  have B1 := hid hB
  have HS2 := hid hk4
  have HN5 := hid hk5
  have lks : ks.length ≤ 65535 := by omega
  clear hk1 hk2 hT hk4 hk5 hB C0 T0 B0 p0 sp hW hN
  obtain ⟨F, hF⟩ : ∃ F, w1.heap.size = F := ⟨_, rfl⟩
  obtain ⟨V1, hV1⟩ : ∃ V, w1.alloc (.cells #[kindF N] 87) = V := ⟨_, rfl⟩
  have T2 := hid (ts_alloc T1.out (.cells #[kindF N] 87))
  rw [hV1] at T2
  have FN2 : Hid (CellsAt V1 F [kindF N]) := by rw [← hV1, ← hF]; exact ca_new _ _ _
  have B2 : Hid (Below r w V1) := by rw [← hV1]; exact B1.out.alloc (Nat.le_of_lt T1.out.rd.1) _
  have NF : N + 1 + 1 < F := by rw [← hF]; exact T1.out.k.1
  have KF : Hid (∀ b, Value.ownBlock (.slice ka ks.length kcap) = some b → b < F) := fun b hb => by rw [← hF]; exact (T1.out.own.lt b hb).2
  have C2 := hid (kind_any r N s2 ks _ V1 T2.out HS2.out (by omega))
  have eg := kindEnters
  obtain ⟨f0, _⟩ := ca_at FN2.out 0 rfl
  have sf := FN2.out.1
  clear T1 B1
  have hst : ∀ W : World, (store ⟨F, 0, none⟩ (kindF N)).run Try.prog W = stored Try.prog W ⟨F, 0, none⟩ (kindF N) .plain := fun W => run_store Try.prog W _ _ _ rfl
  go_wp2_with fail
  refine C2.out.mono ?_
  rintro e w2 ⟨hg, ⟨f, s3, hq, rfl, hr⟩ | ⟨hq, rfl⟩⟩
  case inr =>
    exact ⟨rfl, B2.out.trans (below_grownR hg T2.out.rd.1), .inr ⟨by unfold Wr.parse; rw [H1.out]; simp only; rw [H2.out]; simp only; rw [hq], rfl⟩⟩
  have H3 := hid hq
  have HL3 := hid (Wr.pKind_len hq)
  have T3 := hid (ts_grown T2.out hg hr)
  have FN3 := hid (ca_grown FN2.out hg (by have := T2.out.lt; omega))
  have B3 : Hid (Below r w w2) := B2.out.trans (below_grownR hg T2.out.rd.1)
  have HS3 : Hid (s3.length ≤ maxLen) := Nat.le_trans HL3.out.1 HS2.out
  clear hq hr hg C2 T2 FN2 B2 f0 sf hV1 hF
  obtain ⟨V, hV⟩ : ∃ V, w2.heap.size = V := ⟨_, rfl⟩
  obtain ⟨V2, hV2⟩ : ∃ W, w2.alloc (.cells (tbC f (.slice none 0 0)).toArray 26) = W := ⟨_, rfl⟩
  have T4 : Hid (TS2 V2 r N F V s3 ks (.slice ka ks.length kcap) f (.slice none 0 0) []) := by
    rw [← hV2, ← hV]
    exact ⟨ts_alloc T3.out _, ca_alloc FN3.out _, ca_new _ _ _, World.ownsRow_nil _ _ _ _, NF, FN3.out.1, KF.out⟩
  have B4 : Hid (Below r w V2) := by rw [← hV2]; exact B3.out.alloc (Nat.le_of_lt T3.out.rd.1) _
  obtain ⟨p0, _⟩ := ca_at T3.out.pb 0 rfl
  have sp := T3.out.pb.1
  have HV2 : Hid (w2.alloc (.cells #[.int .i64 f.shift, .int .i64 f.save, strV f.name, .slice none 0 0] 26) = V2) := hV2
  have nv1 : N < V := by omega
  have nv2 : ¬ N = V := by omega
  have nv3 : ¬ V = N := by omega
  clear T3 FN3 B3 hV2
  cases h4 : Wr.pNum 2 s3 with
  | none =>
    have q : ¬ 2 ≤ s3.length := fun q => by rw [Wr.pNum_some q] at h4; cases h4
    have HE : Hid (Wr.parse s = none) := by show _ = _; unfold Wr.parse; rw [H1.out]; simp only; rw [H2.out]; simp only; rw [H3.out]; simp only; rw [h4]
    have C4 := hid (repeat_short r (.func (.func 51) #[] #[.pointer (some ⟨N, 0, none⟩), .pointer (some ⟨V, 0, none⟩), .pointer (some ⟨F, 0, none⟩)]) s3 V2 T4.out.ts.rd q)
    clear q h4
    go_wp2_with fail
    rw [HV2.out]
    refine C4.out.mono ?_
    rintro e w3 ⟨rfl, rfl⟩
    exact ⟨rfl, B4.out, .inr ⟨HE.out, rfl⟩⟩
  | some p =>
  obtain ⟨m, s4⟩ := p
  have C4 := hid (changes_read r N F V ks _ f s3 s4 m w V2 T4.out B4.out HS3.out (by omega) h4)
  have H4 := hid h4
  have hm : m < 65536 := (Wr.pNum_len h4).2
  clear h4
  go_wp2_with fail
  rw [HV2.out]
  refine C4.out.mono ?_
  rintro e w3 (⟨rfl, ⟨⟨chs, s5, cv, hc1, hc2, hT, hc4, hc5⟩, hB⟩⟩ | ⟨rfl, hB, hbad⟩)
  case inr =>
    exact ⟨rfl, hB, .inr ⟨by unfold Wr.parse; rw [H1.out]; simp only; rw [H2.out]; simp only; rw [H3.out]; simp only; rw [H4.out]; simp only; rw [hbad], rfl⟩⟩
  have H5 := hid (Wr.chs_end hc2)
  have HE : Hid (Wr.parse s = some ⟨f, chs⟩) := by show _ = _; unfold Wr.parse; rw [H1.out]; simp only; rw [H2.out]; simp only; rw [H3.out]; simp only; rw [H4.out]; simp only; rw [H5.out]
  have HSH : Hid (Short ⟨f, chs⟩) := ⟨by simp only; omega, HN5.out f HL3.out.2, fun c hc => HN5.out c.lc (hc5 c hc)⟩
  obtain ⟨ca, ccap, rfl⟩ := owns_shape0 hT.own
  have T5 := hid hT
  have B5 := hid hB
  clear hc1 hc2 hT hc4 hc5 hB C4 T4 B4 p0 sp HV2 hV
  obtain ⟨-, ⟨t0, t1, t2, t3⟩, -, st⟩ := res4' T5.out.t
  obtain ⟨-, ⟨r0, r1, r2, r3⟩, ⟨e0, e1, e2, e3⟩, sr⟩ := res4' T5.out.ts.res
  have NV : N + 1 < V := by have := T5.out.h2; omega
  have LT := hid lt
  go_wp2
  refine bodyPost_ret (v := tbV f (.slice ca chs.length ccap)) (by simp [results, Try.results29, go_sem, *]) rfl ⟨?_, .inl ⟨_, _, HE.out, rfl, ?_, HSH.out⟩⟩
  · repeat (refine below_set ?_ (by have := LT.out; omega) _)
    exact B5.out
  · have ne : ∀ o, Value.ownBlock (.slice ca chs.length ccap) ≠ some (⟨N + 1, o, none⟩ : Addr).block := by
      intro o q
      have := (T5.out.own.lt _ q).1
      simp only at this
      omega
    repeat (refine ownsRow_setCell_other ?_ (ne _) _)
    exact owns_base T5.out.own (by have := LT.out; omega)
end Go.Proofs.Ytombhnjmelidcaa
