/- The contract of kindsOf's add. -/
import Derived.Test.YtombhnjmelidcaaWeC
import Derived.Test.YtombhnjmelidcaaWrC
import Derived.Test.YtombhnjmelidcaaBaA
namespace Go.Proofs.Ytombhnjmelidcaa
open Go.RowKit Go.Maps
set_option linter.unusedVariables false
set_option linter.unusedSimpArgs false

theorem zeroW (w : World) : (zeroValue 3).run Try.prog w = .ok (.int .i64 0) w := by kernel_rfl
structure KMap (w : World) (m : Nat) (ks : List Tb.Lc) : Prop where
  ex : ∃ D : DataW Unit, w.ownsMap Try.prog 23 (plainElem Try.prog 3) m ks.length D ∧ IsMap D ∧
    ∀ l, Tb.localE l = 0 → Maps.has D (klit l) = decide (Wr.place l ks < ks.length) ∧ (Wr.place l ks < ks.length → D.atKey (klit l) (.lit (.int .i64 0)) = .lit (.int .i64 (Wr.place l ks)))
theorem kmap_new (w : World) : KMap (w.alloc (.map #[] 0)) w.heap.size [] :=
  ⟨⟨.map [], World.ownsMap_made w Try.prog 23 _, isMap_empty, fun l _ => ⟨by simp [has_eq, Wr.place], fun h => by simp at h⟩⟩⟩
theorem kmap_kept {w w' : World} {m : Nat} {ks : List Tb.Lc} {row : Option Nat} (h : KMap w m ks) (hg : w.grownBy w' row) (hn : some m ≠ row) : KMap w' m ks := by
  obtain ⟨D, h1, h2⟩ := h.ex
  exact ⟨⟨D, h1.kept hg hn, h2⟩⟩
theorem kmap_lt {w : World} {m : Nat} {ks : List Tb.Lc} (h : KMap w m ks) : m < w.heap.size := by
  obtain ⟨D, h1, h2⟩ := h.ex
  exact h1.lt
theorem kmap_set {w : World} {m q o : Nat} {ks : List Tb.Lc} {u : Value} (h : KMap w m ks) (hn : m ≠ q) : KMap (w.setCell ⟨q, o, none⟩ u) m ks := by
  obtain ⟨D, h1, h2⟩ := h.ex
  exact ⟨⟨D, h1.setCell hn u, h2⟩⟩
theorem kmap_bt {w w' : World} {b m : Nat} {ks : List Tb.Lc} (h : KMap w m ks) (hb : BT b w w') (hn : m ≠ b) : KMap w' m ks := by
  obtain ⟨D, ⟨es, clock, h1, h3⟩, h2⟩ := h.ex
  exact ⟨⟨D, ⟨es, clock, hb.block m _ hn h1 (by intro cs fr q; cases q), h3⟩, h2⟩⟩
/- asked whether, and which -/
theorem kmap_ok {w : World} {m : Nat} {ks : List Tb.Lc} {l : Tb.Lc} (h : KMap w m ks) (hl : Tb.localE l = 0) : ∃ c : Int, (Instr.lookup 77 (.map (some m)) (lcV l) true).run Try.prog w = .ok (.tuple #[.int .i64 c, .bool (decide (Wr.place l ks < ks.length))]) w := by
  obtain ⟨D, h1, _, h3⟩ := h.ex
  obtain ⟨v, ps, hrun, hv⟩ := h1.look_ok lawLc Try.underlying77 (zeroW w) (plainElem_int Try.underlying3 (by decide)) (keyOf_lc hl)
  obtain ⟨c, rfl, _⟩ := plainElem_int_inv Try.underlying3 hv
  rw [(h3 l hl).1] at hrun
  exact ⟨c, hrun⟩
theorem kmap_at {w : World} {m : Nat} {ks : List Tb.Lc} {l : Tb.Lc} (h : KMap w m ks) (hl : Tb.localE l = 0) (hp : Wr.place l ks < ks.length) : (Instr.lookup 77 (.map (some m)) (lcV l) false).run Try.prog w = .ok (.int .i64 (Wr.place l ks)) w := by
  obtain ⟨D, h1, _, h3⟩ := h.ex
  obtain ⟨c, hrun, hat, _⟩ := h1.lookup_int lawLc Try.underlying77 Try.underlying3 (zeroW w) (keyOf_lc hl)
  rw [(h3 l hl).2 hp] at hat
  simp at hat
  rw [hrun, hat]
/- a new one -/
theorem kmap_add {w : World} {m : Nat} {ks : List Tb.Lc} {l : Tb.Lc} (h : KMap w m ks) (hl : Tb.localE l = 0) (hp : Wr.place l ks = ks.length) (hn : ks.length ≤ 1000000) : ∃ w', (Instr.mapUpdate 77 (.map (some m)) (lcV l) (.int .i64 ks.length)).run Try.prog w = .ok () w' ∧ KMap w' m (ks ++ [l]) ∧ w.grownBy w' (some m) := by
  obtain ⟨D, h1, h2, h3⟩ := h.ex
  obtain ⟨w', hrun, ho, hg⟩ := h1.update lawLc Try.underlying77 (by unfold maxLen; omega) (keyOf_lc hl) (plainElem_int (a := (ks.length : Int)) Try.underlying3 (WalkArith.wf_i64 (by omega)))
  refine ⟨w', hrun, ⟨⟨_, by simpa using ho, h2.put _ _, fun x hx => ?_⟩⟩, hg⟩
  by_cases e : x = l
  · subst e
    rw [has_put_same h2 (klit_key _), atKey_put_same h2 (klit_key _), Wr.place_new x ks hp]
    exact ⟨by simp, fun _ => rfl⟩
  · have ne : klit x ≠ klit l := fun q => e (klit_inj hx hl q)
    rw [has_put_other ne, atKey_put_other ne]
    obtain ⟨a1, a2⟩ := h3 x hx
    by_cases q : Wr.place x ks < ks.length
    · rw [Wr.place_app x ks [l] q, a1]
      exact ⟨by simp [q]; omega, fun _ => a2 q⟩
    · have q' : Wr.place x ks = ks.length := by have := Wr.place_le x ks; omega
      rw [Wr.place_other e ks q', a1]
      exact ⟨by simp [q'], fun z => by omega⟩

structure KSt (w : World) (K : Nat) (ks : List Tb.Lc) (v : Value) : Prop where
  own : OwnLc w (K + 1 + 1 + 1) v ks
  k : CellsAt w K [v]
  m : CellsAt w (K + 1) [.map (some (K + 1 + 1))]
  map : KMap w (K + 1 + 1) ks
theorem kst_alloc {w : World} {K : Nat} {ks : List Tb.Lc} {v : Value} (h : KSt w K ks v) (o : Obj) : KSt (w.alloc o) K ks v :=
  ⟨World.ownsRow.alloc h.own o, ca_alloc h.k o, ca_alloc h.m o, kmap_kept h.map (World.grownBy_alloc w o none) (by simp)⟩
theorem lc_shape {w : World} {B : Nat} {v : Value} {l : List Tb.Lc} (h : OwnLc w B v l) : ∃ a cap, v = .slice a l.length cap := owns_shape0 h
set_option maxRecDepth 100000 in
set_option maxHeartbeats 4000000 in
theorem add_any (K : Nat) (l : Tb.Lc) (ks : List Tb.Lc) (v : Value) (w : World) (h : KSt w K ks v) (hl : Tb.localE l = 0) (hn : ks.length ≤ 100000) :
    Calls Try.prog 61 (#[lcV l] ++ #[.pointer (some ⟨K + 1, 0, none⟩), .pointer (some ⟨K, 0, none⟩)]) w fun e w' => ∃ v', e = .returned (.tuple #[]) ∧ KSt w' K (Wr.addK ks l) v' ∧ Below K w w' := by
  have H0 := hid h
  obtain ⟨i0, hi, hz0, hz1, hz2⟩ := info_parts Try.infoLc
  obtain ⟨va, vcap, rfl⟩ := lc_shape h.own
  obtain ⟨X, hX⟩ : ∃ X, w.heap.size = X := ⟨_, rfl⟩
  obtain ⟨W0, hW⟩ : ∃ W, w.alloc (.cells (lcL l).toArray 23) = W := ⟨_, rfl⟩
  have b0 : Below w.heap.size w W0 := by rw [← hW]; exact (Below.refl _ _).alloc (Nat.le_refl _) _
  have sK : K < w.heap.size := h.k.1
  have H1 : Hid (KSt W0 K ks (.slice va ks.length vcap)) := by rw [← hW]; exact kst_alloc h _
  have X1 : Hid (CellsAt W0 X (lcL l)) := by rw [← hW, ← hX]; exact ca_new _ _ _
  have B1 : Hid (Below K w W0) := b0.mono (Nat.le_of_lt sK)
  have KX : K + 1 + 1 < X := by rw [← hX]; exact kmap_lt h.map
  clear h b0 H0 sK
  obtain ⟨c, hok⟩ := kmap_ok H1.out.map hl
  obtain ⟨x0, g0⟩ := ca_at X1.out 0 rfl
  obtain ⟨x1, g1⟩ := ca_at X1.out 1 rfl
  obtain ⟨x2, g2⟩ := ca_at X1.out 2 rfl
  obtain ⟨k0, kf0⟩ := ca_at H1.out.k 0 rfl
  obtain ⟨m0, _⟩ := ca_at H1.out.m 0 rfl
  have sx := X1.out.1
  have sk := H1.out.k.1
  have sm := H1.out.m.1
  by_cases q : Wr.place l ks < ks.length
  · have HA : Hid (Wr.addK ks l = ks) := by show _ = _; unfold Wr.addK; rw [if_neg (by omega)]
    rw [show decide (Wr.place l ks < ks.length) = true by simp [q]] at hok
    have HQ := hid q
    clear q
    go_enter Try.func61, Try.ntmps61
    go_wp2
    go_end0
    exact ⟨_, rfl, by rw [HA.out]; exact H1.out, B1.out⟩
  · have qe : Wr.place l ks = ks.length := by have := Wr.place_le l ks; omega
    have HA : Hid (Wr.addK ks l = ks ++ [l]) := by show _ = _; unfold Wr.addK; rw [if_pos qe]
    rw [show decide (Wr.place l ks < ks.length) = false by simp [q]] at hok
    obtain ⟨w1, hup, hk1, hg1⟩ := kmap_add H1.out.map hl qe (by omega)
    have HQ := hid q
    have O1 : Hid (OwnLc w1 (K + 1 + 1 + 1) (.slice va ks.length vcap) ks) := H1.out.own.kept hg1 (by
      right; intro q
      have := (H1.out.own.lt _ q).1
      omega)
    have K1 := hid (ca_grown H1.out.k hg1 (by omega))
    have M1 := hid (ca_grown H1.out.m hg1 (by omega))
    have XX1 := hid (ca_grown X1.out hg1 (by omega))
    have BB1 : Hid (Below K w w1) := B1.out.grown hg1 (by omega) (fun k hk => by cases hk; omega)
    have KM1 := hid hk1
    have s1 : W0.heap.size ≤ w1.heap.size := hg1.size
    clear q qe hk1 hg1
    obtain ⟨xc0, _⟩ := ca_at XX1.out 0 rfl
    obtain ⟨xc1, _⟩ := ca_at XX1.out 1 rfl
    obtain ⟨xc2, _⟩ := ca_at XX1.out 2 rfl
    obtain ⟨kc0, kcf⟩ := ca_at K1.out 0 rfl
    have sx1 := XX1.out.1
    have sk1 := K1.out.1
    go_enter Try.func61, Try.ntmps61
    go_wp2_with (at_builtin; refine wpList_append_own _ rfl _ _ 68 rfl (K + 1 + 1 + 1) 23 i0 (.agg #[.int .i64 0, .int .i64 0, .string ⟨#[]⟩]) 3 32 Try.underlying68 hi hz0 hz1 hz2 rfl (by decide) _ _ _ rfl (World.ownsRow.alloc O1.out _) _ 1 1 (lcCells l) rfl rfl (three_cells' _ _ _ _) (lc_one l) (by unfold maxLen; omega) (by omega) (by simp; omega) ?_)
    intro v' w2 hown' hgrow _
    have ne : ∀ Y, Y < K + 1 + 1 + 1 → ∀ k, Value.ownBlock (.slice va ks.length vcap) = some k → k ≠ Y := fun Y hY k hk => by have := (O1.out.lt k hk).1; omega
    have K2 := ca_grownO (ca_alloc K1.out (.cells #[.int .i64 l.shift, .int .i64 l.save, .string ⟨l.name.toArray⟩] 23)) hgrow (ne K (by omega))
    have M2 := hid (ca_grownO (ca_alloc M1.out (.cells #[.int .i64 l.shift, .int .i64 l.save, .string ⟨l.name.toArray⟩] 23)) hgrow (ne (K + 1) (by omega)))
    have KM2 := hid (kmap_kept (kmap_kept KM1.out (World.grownBy_alloc w1 (.cells #[.int .i64 l.shift, .int .i64 l.save, .string ⟨l.name.toArray⟩] 23) none) (by simp)) hgrow (fun q => ne (K + 1 + 1) (by omega) _ q.symm rfl))
    have B2 : Hid (Below K w w2) := Below.grown (BB1.out.alloc (by omega) _) hgrow (by simp; omega) (fun k hk => by have := (O1.out.lt k hk).1; omega)
    obtain ⟨va', vcap', rfl⟩ := owns_shape0 hown'
    obtain ⟨kd0, kdf⟩ := ca_at K2 0 rfl
    have sk2 := K2.1
    have HK2 := hid K2
    have O2 : Hid (OwnLc w2 (K + 1 + 1 + 1) (.slice va' (ks.length + 1) vcap') (ks ++ [l])) := by
      show World.ownsRow _ _ _ _ _ _ _
      simpa using hown'
    clear hgrow hown' K2 ne
    go_wp2
    go_end0
    refine ⟨.slice va' (ks.length + 1) vcap', rfl, ?_, below_set B2.out (Nat.le_refl _) _⟩
    rw [HA.out]
    refine ⟨ownsRow_setCell_other O2.out ?_ _, ca_put HK2.out 0 _ (by simp), ca_far M2.out (by omega), kmap_set KM2.out (by omega)⟩
    intro q
    have := (O2.out.lt _ q).1
    simp only at this
    omega
end Go.Proofs.Ytombhnjmelidcaa
