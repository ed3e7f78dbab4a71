/- The contract of kindsOf. -/
import Derived.Test.YtombhnjmelidcaaWeD
import Derived.Shelf.Abstract
namespace Go.Proofs.Ytombhnjmelidcaa
open Go.RowKit Go.Maps Go.Shelf
set_option linter.unusedVariables false
set_option linter.unusedSimpArgs false

theorem kmap_drew {w : World} {m : Nat} {ks : List Tb.Lc} (h : KMap w m ks) : KMap w.drew m ks := ⟨h.ex⟩
theorem below_drew' {B : Nat} {w w' : World} (h : Below B w w') : Below B w w'.drew := ⟨h.os, h.tape, h.output, h.size, h.block⟩
set_option maxRecDepth 100000 in
set_option maxHeartbeats 4000000 in
theorem kindsOf_any (t : Tb.Tbl) (v : Value) (w : World) (h : RdCh w v t.ch) (hg : Tb.tableE t = 0) :
    Calls Try.prog 41 #[tbV t.first v] w fun e w' => ∃ kv m, e = .returned (.tuple #[kv, .map (some m)]) ∧ OwnLc w' w.heap.size kv (Wr.kinds [t.first] t.ch) ∧ KMap w' m (Wr.kinds [t.first] t.ch) ∧ w.heap.size ≤ m ∧ Below w.heap.size w w' := by
  obtain ⟨f, ch⟩ := t
  obtain ⟨g1, g2, g3⟩ := Tb.good_parts hg
  simp only at h g1 g2 g3 ⊢
  have cb : Hid (∀ c ∈ ch, Tb.localE c.lc = 0) := fun c hc => ((Tb.goE_rise ch f none g3).2.1 c hc).2.2
  have G2 := hid g2
  clear g2 g3 hg
  have HA := hid h
  obtain ⟨aa, acap, rfl, _⟩ := h
  have hmm := @run_makeMap Try.prog
  obtain ⟨KS, hKS⟩ : ∃ KS, Wr.kinds [f] ch = KS := ⟨_, rfl⟩
  have HK : Hid (KS = Wr.kinds (Wr.addK [] f) (ch.drop 0)) := by show _ = _; rw [← hKS, Wr.addK_nil]; rfl
  rw [hKS]
  clear hKS
  obtain ⟨N, hN⟩ : ∃ N, w.heap.size = N := ⟨_, rfl⟩
  have HNN := hid hN
  obtain ⟨W0, hW⟩ : ∃ W0, (((w.alloc (.cells (tbL f (.slice aa ch.length acap)).toArray 26)).alloc (.cells #[.slice none 0 0] 68)).alloc (.cells #[.map (some (N + 1 + 1 + 1))] 77)).alloc (.map #[] 0) = W0 := ⟨_, rfl⟩
  have eg : ∀ args w, (callFunc 61 args).run Try.prog w = .ok (.enter 61 args) w := enters_of Try.func61 (by kernel_rfl) rfl
  have T0 : Hid (CellsAt W0 N (tbL f (.slice aa ch.length acap))) := by rw [← hW, ← hN]; exact ca_alloc (ca_alloc (ca_alloc (ca_new _ _ _) _) _) _
  have B0 : Hid (Below w.heap.size w W0) := by
    rw [← hW]; show Below _ _ _
    exact ((((Below.refl _ _).alloc (Nat.le_refl _) _).alloc (by simp) _).alloc (by simp; omega) _).alloc (by simp; omega) _
  have S0 : Hid (KSt W0 (N + 1) [] (.slice none 0 0)) := by
    refine ⟨World.ownsRow_nil _ _ _ _, ?_, ?_, ?_⟩
    · rw [← hW, ← hN]
      have := ca_alloc (ca_alloc (ca_new (w.alloc (.cells (tbL f (.slice aa ch.length acap)).toArray 26)) [.slice none 0 0] 68) (.cells #[.map (some (w.heap.size + 1 + 1 + 1))] 77)) (.map #[] 0)
      rw [World.size_alloc] at this
      exact this
    · rw [← hW, ← hN]
      have := ca_alloc (ca_new ((w.alloc (.cells (tbL f (.slice aa ch.length acap)).toArray 26)).alloc (.cells #[.slice none 0 0] 68)) [.map (some (w.heap.size + 1 + 1 + 1))] 77) (.map #[] 0)
      rw [World.size_alloc, World.size_alloc] at this
      exact this
    · rw [← hW, ← hN]
      have := kmap_new (((w.alloc (.cells (tbL f (.slice aa ch.length acap)).toArray 26)).alloc (.cells #[.slice none 0 0] 68)).alloc (.cells #[.map (some (w.heap.size + 1 + 1 + 1))] 77))
      rw [World.size_alloc, World.size_alloc, World.size_alloc] at this
      exact this
  have HW := hid hW
  clear hW
  have C0 := hid (add_any (N + 1) f [] _ W0 S0.out G2.out (by simp))
  go_enter Try.func41, Try.ntmps41
  go_wp2_with fail
  rw [show (((w.alloc (.cells #[.int .i64 f.shift, .int .i64 f.save, strV f.name, .slice aa ch.length acap] 26)).alloc (.cells #[.slice none 0 0] 68)).alloc (.cells #[.map (some (N + 1 + 1 + 1))] 77)).alloc (.map #[] 0) = W0 from HW.out]
  refine C0.out.mono ?_
  rintro e w1 ⟨kv, rfl, hS, hb1⟩
  clear HW hN C0 hmm
  have T1 : Hid (CellsAt w1 N (tbL f (.slice aa ch.length acap))) := ca_block T0.out (by have := hb1.size; have := T0.out.1; omega) (hb1.block N (by omega))
  have S1 := hid hS
  have B1 : Hid (Below w.heap.size w w1) := B0.out.trans (hb1.mono (by rw [HNN.out]; omega))
  clear hS hb1 T0 B0 S0
  obtain ⟨t3, _⟩ := ca_at T1.out 3 rfl
  have st := T1.out.1
  go_wp2_with fail
  clear t3 st
  go_loopw [16] (fun b wr => ∃ (i : Nat) (ks : List Tb.Lc) (kv : Value), i ≤ ch.length ∧ b = .int .i64 i ∧ ks.length ≤ 1 + i ∧ Hid (KS = Wr.kinds ks (ch.drop i)) ∧ Hid (KSt wr (N + 1) ks kv) ∧ Hid (CellsAt wr N (tbL f (.slice aa ch.length acap))) ∧ Hid (Below w.heap.size w wr)) (fun b _ => ch.length - (intOf b).toNat)
  case atStart => exact ⟨0, _, kv, by omega, rfl, by rw [Wr.addK_nil]; simp, HK, S1, T1, B1⟩
  case round =>
    clear S1 T1 B1 HK
    obtain ⟨i, ks, kv, hi, rfl, hk, HK, S0, T0, B0⟩ := hrel
    by_cases hlt : i < ch.length
    case neg =>
      have HK2 : Hid (ks = KS) := by show _ = _; rw [HK.out, List.drop_eq_nil_of_le (by omega)]; rfl
      obtain ⟨k0, kf0⟩ := ca_at S0.out.k 0 rfl
      obtain ⟨m0, mf0⟩ := ca_at S0.out.m 0 rfl
      obtain ⟨ka, kcap, rfl⟩ := lc_shape S0.out.own
      have sk := S0.out.k.1
      have sm := S0.out.m.1
      go_wp2_with fail
      go_region
      all_goals go_wp2
      all_goals
        refine bodyPost_ret (v := .tuple #[.slice ka ks.length kcap, .map (some (N + 1 + 1 + 1))]) (by simp [results, Try.results41, go_sem, *]) rfl ?_
        refine ⟨.slice ka ks.length kcap, N + 1 + 1 + 1, rfl, ?_, ?_, by rw [HNN.out]; omega, ?_⟩
        · rw [← HK2.out]
          have ne : ∀ Y, Y < N + 1 + 1 + 1 + 1 → ∀ o, Value.ownBlock (.slice ka ks.length kcap) ≠ some (⟨Y, o, none⟩ : Addr).block := fun Y hY o q => by have := (S0.out.own.lt _ q).1; simp only at this; omega
          exact ownsRow_setCell_other (ownsRow_setCell_other (owns_base S0.out.own (by rw [HNN.out]; omega)) (ne _ (by omega) _) _) (ne _ (by omega) _) _
        · rw [← HK2.out]
          exact kmap_drew (kmap_set (q := N + 1 + 1) (kmap_set (q := N + 1) S0.out.map (by omega)) (by omega))
        · exact below_drew' (below_set (below_set B0.out (by rw [HNN.out]; omega) _) (by rw [HNN.out]; omega) _)
    obtain ⟨c, hcc⟩ : ∃ c, ch[i]? = some c := ⟨_, List.getElem?_eq_getElem hlt⟩
    obtain ⟨bb, bo, bcap, e, hbb, c0, c1, c2, c3⟩ := rdCh_at (rdCh_below HA.out B0.out) hcc
    simp only [Value.slice.injEq] at e
    obtain ⟨rfl, _, rfl⟩ := e
    have HC := hid (cb.out c (List.mem_of_getElem? hcc))
    have HK2 := hid (Wr.kinds_next hcc HK.out)
    obtain ⟨W1, hW1⟩ : ∃ W, wr.alloc (.cells (cgCells c).toArray 32) = W := ⟨_, rfl⟩
    have S1 : Hid (KSt W1 (N + 1) ks kv) := by rw [← hW1]; exact kst_alloc S0.out _
    have T1 := hid (ca_alloc T0.out (.cells (cgCells c).toArray 32))
    rw [hW1] at T1
    have B1 : Hid (Below w.heap.size w W1) := by rw [← hW1]; exact B0.out.alloc B0.out.size _
    have C1 := hid (add_any (N + 1) c.lc ks kv W1 S1.out HC.out (by omega))
    have HW1 : Hid (wr.alloc (.cells #[.int .i64 c.at_, .int .i64 c.lc.shift, .int .i64 c.lc.save, strV c.lc.name] 32) = W1) := hW1
    clear hcc hW1 HK S0 T0 B0 S1
    go_wp2_with fail
    rw [HW1.out]
    refine C1.out.mono ?_
    rintro e w2 ⟨kv2, rfl, hS, hb2⟩
    have T2 := hid <| ca_block (w1 := w2) T1.out (by have := hb2.size; have := T1.out.1; omega) (hb2.block N (by omega))
    have S2 := hid hS
    have B2 : Hid (Below w.heap.size w w2) := B1.out.trans (hb2.mono (by rw [HNN.out]; omega))
    clear hS hb2 T1 B1 C1 HW1 c0 c1 c2 c3 hbb
    go_wp2
    go_roundw
    case rel => exact ⟨i + 1, Wr.addK ks c.lc, kv2, by omega, by go_num, by have := Wr.addK_len ks c.lc; omega, HK2, S2, T2, B2⟩
    case measure => simp [intOf]; omega
end Go.Proofs.Ytombhnjmelidcaa
