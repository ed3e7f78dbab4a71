/- The contract of the writer's table. -/
import Derived.Test.YtombhnjmelidcaaWeE
import Derived.Test.YtombhnjmelidcaaWeB
namespace Go.Proofs.Ytombhnjmelidcaa
open Go.RowKit Go.Maps
set_option linter.unusedVariables false
set_option linter.unusedSimpArgs false

structure WSt (w0 : World) (b T0 m : Nat) (f : Tb.Lc) (tv kv : Value) (KS : List Tb.Lc) (acc : Tx.Bs) (wr : World) : Prop where
  isb : IsB w0.heap.size b (Lib.byteCells acc) wr
  bel : Below w0.heap.size w0 wr
  box : BoxAt wr T0 26 (tbL f tv)
  own : OwnLc wr (T0 + 1) kv KS
  map : KMap wr m KS
theorem wst_step {w0 : World} {b T0 m : Nat} {f : Tb.Lc} {tv kv : Value} {KS : List Tb.Lc} {acc acc' : Tx.Bs} {wr w' : World} (h : WSt w0 b T0 m f tv kv KS acc wr) (hb : b < T0) (hm : T0 < m) (h1 : IsB w0.heap.size b (Lib.byteCells acc') w') (h2 : Below w0.heap.size wr w') (h3 : BT b wr w') : WSt w0 b T0 m f tv kv KS acc' w' :=
  ⟨h1, h.bel.trans h2, box_bt h.box h3 (by omega) (by decide), own_bt h.own h3 (fun q => by have := (h.own.lt _ q).1; omega) (by decide), kmap_bt h.map h3 (by omega)⟩
theorem wst_alloc {w0 : World} {b T0 m : Nat} {f : Tb.Lc} {tv kv : Value} {KS : List Tb.Lc} {acc : Tx.Bs} {wr : World} (h : WSt w0 b T0 m f tv kv KS acc wr) (o : Obj) : WSt w0 b T0 m f tv kv KS acc (wr.alloc o) :=
  have hb : Below wr.heap.size wr (wr.alloc o) := (Below.refl _ _).alloc (Nat.le_refl _) _
  ⟨isB_below h.isb hb, h.bel.alloc h.bel.size _, box_below h.box hb, World.ownsRow.alloc h.own o, kmap_kept h.map (World.grownBy_alloc wr o none) (by simp)⟩
theorem bc_app (a b : Tx.Bs) : Lib.byteCells a ++ Lib.byteCells b = Lib.byteCells (a ++ b) := by simp [Lib.byteCells]
/- a number behind what is written -/
theorem wst_num {w0 : World} {b T0 m : Nat} {f : Tb.Lc} {tv kv : Value} {KS : List Tb.Lc} {acc : Tx.Bs} {wr : World} (h : WSt w0 b T0 m f tv kv KS acc wr) (hb : b < T0) (hm : T0 < m) (k : Nat) (n : Int) (h1 : 0 ≤ n) (h2 : n ≤ 1000000000000) (hk : k ≤ 8) (hl : acc.length ≤ 400000000) :
    Calls Try.prog 42 #[.pointer (some ⟨b, 0, none⟩), .int .i64 n, .int .i64 k] wr fun e w' => e = .returned (.tuple #[]) ∧ Hid (WSt w0 b T0 m f tv kv KS (acc ++ Wr.num k n) w') := by
  refine (number_any _ b k n _ wr h.isb h1 h2 hk (by rw [Lib.byteCells_length]; omega) h.bel.size).mono ?_
  rintro e w' ⟨he, q1, q2, q3⟩
  rw [bc_app] at q1
  exact ⟨he, wst_step h hb hm q1 q2 q3⟩
theorem wst_loc {w0 : World} {b T0 m : Nat} {f : Tb.Lc} {tv kv : Value} {KS : List Tb.Lc} {acc : Tx.Bs} {wr : World} (h : WSt w0 b T0 m f tv kv KS acc wr) (hb : b < T0) (hm : T0 < m) (l : Tb.Lc) (hg : Tb.localE l = 0) (hl : acc.length ≤ 400000000) :
    Calls Try.prog 43 #[.pointer (some ⟨b, 0, none⟩), lcV l] wr fun e w' => e = .returned (.tuple #[]) ∧ Hid (WSt w0 b T0 m f tv kv KS (acc ++ Wr.kindB l) w') := by
  refine (local_any _ b l _ wr h.isb hg (by rw [Lib.byteCells_length]; omega) h.bel.size).mono ?_
  rintro e w' ⟨he, q1, q2, q3⟩
  rw [bc_app] at q1
  exact ⟨he, wst_step h hb hm q1 q2 q3⟩
theorem wst_first {w0 : World} {b T0 m : Nat} {f : Tb.Lc} {tv kv : Value} {KS : List Tb.Lc} {acc : Tx.Bs} {wr : World} (h : WSt w0 b T0 m f tv kv KS acc wr) : wr.cell? ⟨T0, 0, none⟩ = some (.int .i64 f.shift) ∧ wr.cell? ⟨T0, 1, none⟩ = some (.int .i64 f.save) ∧ wr.cell? ⟨T0, 2, none⟩ = some (strV f.name) ∧ wr.cell? ⟨T0, 3, none⟩ = some tv ∧ T0 < wr.heap.size :=
  have c := box_cells h.box
  ⟨(ca_at c 0 rfl).1, (ca_at c 1 rfl).1, (ca_at c 2 rfl).1, (ca_at c 3 rfl).1, c.1⟩

set_option maxRecDepth 100000 in
set_option maxHeartbeats 8000000 in
theorem wtable_any (t : Tb.Tbl) (v : Value) (b : Nat) (w0 w : World) (h : RdCh w0 v t.ch) (hg : Tb.tableE t = 0) (hB : IsB w0.heap.size b [] w) (hb : Below w0.heap.size w0 w) :
    Calls Try.prog 25 #[.pointer (some ⟨b, 0, none⟩), tbV t.first v] w fun e w' => e = .returned (.tuple #[]) ∧ IsB w0.heap.size b (Lib.byteCells (Wr.encode t)) w' ∧ Below w0.heap.size w0 w' := by
  have CK : Hid (∀ W, Below w0.heap.size w0 W → Calls Try.prog 41 #[tbV t.first v] W fun e w' => ∃ kv m, e = .returned (.tuple #[kv, .map (some m)]) ∧ OwnLc w' W.heap.size kv (Wr.kinds [t.first] t.ch) ∧ KMap w' m (Wr.kinds [t.first] t.ch) ∧ W.heap.size ≤ m ∧ Below W.heap.size W w') := fun W hW => kindsOf_any t v W (rdCh_below h hW) hg
  obtain ⟨f, ch⟩ := t
  obtain ⟨g1, g2, g3⟩ := Tb.good_parts hg
  simp only at h g1 g2 g3 CK ⊢
  have cb : Hid (∀ c ∈ ch, Tb.least ≤ c.at_ ∧ c.at_ ≤ Tb.most ∧ Tb.localE c.lc = 0) := (Tb.goE_rise ch f none g3).2.1
  have G2 := hid g2
  obtain ⟨KS, hKS⟩ : ∃ KS, Wr.kinds [f] ch = KS := ⟨_, rfl⟩
  have kb : Hid (∀ l ∈ KS, Tb.localE l = 0) := by
    intro l hl
    rw [← hKS] at hl
    rcases Wr.kinds_mem ch [f] l hl with q | ⟨c, hc, rfl⟩
    · simp at q; subst q; exact G2.out
    · exact (cb.out c hc).2.2
  have lK : KS.length ≤ 1001 := by rw [← hKS]; have := Wr.kinds_len ch [f]; simp at this; omega
  have PF : Hid (Wr.place f KS = 0 ∧ 0 < KS.length) := by rw [← hKS]; exact Wr.place_first f ch
  have PI : Hid (∀ c ∈ ch, Wr.place c.lc KS < KS.length) := by rw [← hKS]; exact Wr.place_in ch [f]
  have HE : Hid (Wr.encode ⟨f, ch⟩ = Wr.num 2 (KS.length : Int) ++ Wr.kindsB KS ++ Wr.num 2 0 ++ Wr.num 2 (ch.length : Int) ++ Wr.bodyK KS ch) := by
    show _ = _
    rw [← hKS, ← Wr.body_K ch [f]]; rfl
  rw [hKS] at CK
  clear hKS g2 g3 hg
  obtain ⟨EN, hEN⟩ : ∃ EN, Wr.encode ⟨f, ch⟩ = EN := ⟨_, rfl⟩
  rw [hEN] at HE ⊢
  clear hEN
  have HA := hid h
  obtain ⟨aa, acap, rfl, _⟩ := h
  obtain ⟨T0, hT0⟩ : ∃ X, w.heap.size = X := ⟨_, rfl⟩
  obtain ⟨W0, hW⟩ : ∃ W, w.alloc (.cells (tbL f (.slice aa ch.length acap)).toArray 26) = W := ⟨_, rfl⟩
  have bT : b < T0 := by
    rw [← hT0]
    rcases hB with q | q
    · exact q.lt
    · exact q.lt
  have b0 : Below w.heap.size w W0 := by rw [← hW]; exact (Below.refl _ _).alloc (Nat.le_refl _) _
  have B0 : Hid (Below w0.heap.size w0 W0) := hb.trans (b0.mono hb.size)
  have IB0 := hid (isB_below hB b0)
  have X0 : Hid (BoxAt W0 T0 26 (tbL f (.slice aa ch.length acap))) := by rw [← hW, ← hT0]; exact box_new _ _ _
  have sW0 : W0.heap.size = T0 + 1 := by rw [← hW, ← hT0]; simp
  have C0 := hid (CK.out W0 B0.out)
  clear hB hb b0 CK
  obtain ⟨x0, _⟩ := ca_at (box_cells X0.out) 0 rfl
  obtain ⟨x1, _⟩ := ca_at (box_cells X0.out) 1 rfl
  obtain ⟨x2, _⟩ := ca_at (box_cells X0.out) 2 rfl
  obtain ⟨x3, _⟩ := ca_at (box_cells X0.out) 3 rfl
  have sx := (box_cells X0.out).1
  have HSZ := hid sW0
  clear sW0
  go_enter Try.func25, Try.ntmps25
  go_wp2_with fail
  refine C0.out.mono ?_
  rintro e w1 ⟨kv, m, rfl, O1, KM1, hm, hb1⟩
  rw [HSZ.out] at O1 hm
  obtain ⟨ka, kcap, rfl⟩ := lc_shape O1
  have hTm : T0 < m := by omega
  have S1 : Hid (WSt w0 b T0 m f (.slice aa ch.length acap) (.slice ka KS.length kcap) KS [] w1) := ⟨isB_below IB0.out hb1, B0.out.trans (hb1.mono B0.out.size), box_below X0.out hb1, O1, KM1⟩
  clear O1 KM1 hm hb1 IB0 X0 B0 x0 x1 x2 x3 sx C0 hW hT0 HSZ
  have C1 := hid (wst_num S1.out bT hTm 2 (KS.length : Int) (by omega) (by omega) (by omega) (by simp))
  go_wp2_with fail
  refine C1.out.mono ?_
  rintro e w2 ⟨rfl, S2⟩
  clear S1 C1
  have HE1 : Hid (EN = (([] ++ Wr.num 2 (KS.length : Int)) ++ Wr.kindsB (KS.drop 0)) ++ (Wr.num 2 0 ++ Wr.num 2 (ch.length : Int) ++ Wr.bodyK KS ch)) := by show _ = _; rw [HE.out]; simp
  have L1 : ([] ++ Wr.num 2 (KS.length : Int)).length ≤ 2 := by simp [Wr.num_len]
  go_wp2_with fail
  clear HE
  go_loopw [21] (fun b' wr => ∃ (i : Nat) (acc : Tx.Bs), i ≤ KS.length ∧ b' = .int .i64 i ∧ acc.length ≤ 2 + 30 * i ∧ Hid (EN = (acc ++ Wr.kindsB (KS.drop i)) ++ (Wr.num 2 0 ++ Wr.num 2 (ch.length : Int) ++ Wr.bodyK KS ch)) ∧ Hid (WSt w0 b T0 m f (.slice aa ch.length acap) (.slice ka KS.length kcap) KS acc wr)) (fun b' _ => KS.length - (intOf b').toNat)
  case atStart => exact ⟨0, _, by omega, rfl, by omega, HE1, S2⟩
  case round =>
    clear HE1 L1 S2
    obtain ⟨i, acc, hi, rfl, ha, HE, S0⟩ := hrel
    by_cases hlt : i < KS.length
    · obtain ⟨l, hl⟩ : ∃ l, KS[i]? = some l := ⟨_, List.getElem?_eq_getElem hlt⟩
      have HG := hid (kb.out l (List.mem_of_getElem? hl))
      obtain ⟨lb, lo, lcap, e, hlb, l0, l1, l2⟩ := rdLc_at (ownLc_rd S0.out.own) hl
      simp only [Value.slice.injEq] at e
      obtain ⟨rfl, _, rfl⟩ := e
      have HE2 : Hid (EN = ((acc ++ Wr.kindB l) ++ Wr.kindsB (KS.drop (i + 1))) ++ (Wr.num 2 0 ++ Wr.num 2 (ch.length : Int) ++ Wr.bodyK KS ch)) := by
        show _ = _
        rw [HE.out, Tb.drop_get hl]; simp [Wr.kindsB]
      have la : (acc ++ Wr.kindB l).length ≤ 2 + 30 * (i + 1) := by
        rw [List.length_append, Wr.kindB_len]
        have := (Tb.goodL_bd HG.out).2.2.2.2.2.1
        omega
      have HLA := hid la
      obtain ⟨W1, hW1⟩ : ∃ W, wr.alloc (.cells (lcL l).toArray 23) = W := ⟨_, rfl⟩
      have S1 := hid (wst_alloc S0.out (.cells (lcL l).toArray 23))
      rw [hW1] at S1
      have Y1 := ca_new wr (lcL l) 23
      rw [hW1] at Y1
      obtain ⟨y0, _⟩ := ca_at Y1 0 rfl
      obtain ⟨y1, _⟩ := ca_at Y1 1 rfl
      obtain ⟨y2, _⟩ := ca_at Y1 2 rfl
      have sy := Y1.1
      clear Y1
      have C1 := hid (wst_loc S1.out bT hTm l HG.out (by omega))
      clear hl HE la
      go_wp2_with fail
      refine C1.out.mono ?_
      rintro e w3 ⟨rfl, S3⟩
      clear S0 S1 C1 hW1 l0 l1 l2 hlb y0 y1 y2 sy
      go_wp2
      go_roundw
      case rel => exact ⟨i + 1, _, by omega, by go_num, HLA.out, HE2, S3⟩
      case measure => simp [intOf]; omega
    · have HE2 : Hid (EN = acc ++ (Wr.num 2 0 ++ Wr.num 2 (ch.length : Int) ++ Wr.bodyK KS ch)) := by
        show _ = _
        rw [HE.out, List.drop_eq_nil_of_le (by omega)]; simp [Wr.kindsB]
      have hlk := kmap_at S0.out.map G2.out (by rw [PF.out.1]; exact PF.out.2)
      rw [PF.out.1] at hlk
      obtain ⟨x0, x1, x2, x3, sx⟩ := wst_first S0.out
      have C1 := hid (wst_num S0.out bT hTm 2 0 (by omega) (by omega) (by omega) (by omega))
      clear HE
      go_wp2_with fail
      refine C1.out.mono ?_
      rintro e w3 ⟨rfl, S3⟩
      clear S0 C1 hlk x0 x1 x2 x3 sx
      obtain ⟨x0, x1, x2, x3, sx⟩ := wst_first S3.out
      have C3 := hid (wst_num S3.out bT hTm 2 (ch.length : Int) (by omega) (by omega) (by omega) (by rw [List.length_append, Wr.num_len]; omega))
      go_wp2_with fail
      refine C3.out.mono ?_
      rintro e w4 ⟨rfl, S4⟩
      clear S3 C3 x0 x1 x2 x3 sx
      obtain ⟨x0, x1, x2, x3, sx⟩ := wst_first S4.out
      have HE3 : Hid (EN = ((acc ++ Wr.num 2 0) ++ Wr.num 2 (ch.length : Int)) ++ Wr.bodyK KS (ch.drop 0)) := by show _ = _; rw [HE2.out]; simp
      have L4 : ((acc ++ Wr.num 2 0) ++ Wr.num 2 (ch.length : Int)).length ≤ 40000 := by rw [List.length_append, List.length_append, Wr.num_len, Wr.num_len]; omega
      have HL4 := hid L4
      clear L4
      go_wp2_with fail
      clear HE2 x0 x1 x2 x3 sx ha
      go_loopw [43] (fun b' wr => ∃ (i : Nat) (acc : Tx.Bs), i ≤ ch.length ∧ b' = .int .i64 i ∧ acc.length ≤ 40000 + 7 * i ∧ Hid (EN = acc ++ Wr.bodyK KS (ch.drop i)) ∧ Hid (WSt w0 b T0 m f (.slice aa ch.length acap) (.slice ka KS.length kcap) KS acc wr)) (fun b' _ => ch.length - (intOf b').toNat)
      case atStart => exact ⟨0, _, by omega, rfl, by have := HL4.out; omega, HE3, S4⟩
      case round =>
        clear HE3 HL4 S4
        obtain ⟨j, acc, hj, rfl, ha, HE, S0⟩ := hrel
        by_cases hlt : j < ch.length
        · obtain ⟨c, hc⟩ : ∃ c, ch[j]? = some c := ⟨_, List.getElem?_eq_getElem hlt⟩
          have hmem := List.mem_of_getElem? hc
          obtain ⟨q1', q2', q3⟩ := cb.out c hmem
          have q1 : (-62135596800 : Int) ≤ c.at_ := q1'
          have q2 : c.at_ ≤ (253402300799 : Int) := q2'
          clear q1' q2'
          have HG := hid q3
          have HPI := hid (PI.out c hmem)
          obtain ⟨cb', co, ccap, e, hcb, c0, c1, c2, c3⟩ := rdCh_at (rdCh_below HA.out S0.out.bel) hc
          simp only [Value.slice.injEq] at e
          obtain ⟨rfl, _, rfl⟩ := e
          have HE2 := hid (Wr.bodyK_next hc HE.out)
          obtain ⟨W1, hW1⟩ : ∃ W, wr.alloc (.cells (cgCells c).toArray 32) = W := ⟨_, rfl⟩
          obtain ⟨Y, hY⟩ : ∃ Y, wr.heap.size = Y := ⟨_, rfl⟩
          have S1 := hid (wst_alloc S0.out (.cells (cgCells c).toArray 32))
          rw [hW1] at S1
          have Y1 : Hid (BoxAt W1 Y 32 (cgCells c)) := by rw [← hW1, ← hY]; exact box_new _ _ _
          have bY : ¬ Y = b := by rw [← hY]; have := (wst_first S0.out).2.2.2.2; omega
          have HW1 : wr.alloc (.cells #[.int .i64 c.at_, .int .i64 c.lc.shift, .int .i64 c.lc.save, strV c.lc.name] 32) = W1 := hW1
          obtain ⟨y0, _⟩ := ca_at (box_cells Y1.out) 0 rfl
          have sy := (box_cells Y1.out).1
          have C1 := hid (number_any w0.heap.size b 5 (c.at_ + 274877906944) _ W1 S1.out.isb (by omega) (by omega) (by omega) (by rw [Lib.byteCells_length]; omega) S1.out.bel.size)
          clear hc HE q3 hmem hW1
          go_wp2_with fail
          refine C1.out.mono ?_
          rintro e w5 ⟨rfl, z1, z2, z3⟩
          rw [bc_app] at z1
          have S5 := hid (wst_step S1.out bT hTm z1 z2 z3)
          have Y5 := hid (box_bt Y1.out z3 bY (by decide))
          clear z1 z2 z3 S0 S1 C1 HW1 hY c0 c1 c2 c3 hcb Y1 y0 sy
          have hlk := kmap_at S5.out.map HG.out HPI.out
          obtain ⟨y1, _⟩ := ca_at (box_cells Y5.out) 1 rfl
          obtain ⟨y2, _⟩ := ca_at (box_cells Y5.out) 2 rfl
          obtain ⟨y3, _⟩ := ca_at (box_cells Y5.out) 3 rfl
          have sy := (box_cells Y5.out).1
          obtain ⟨pl, hpl⟩ : ∃ pl, Wr.place c.lc KS = pl := ⟨_, rfl⟩
          rw [hpl] at hlk
          have hpb : pl < KS.length := by rw [← hpl]; exact HPI.out
          have C5 := hid (wst_num S5.out bT hTm 2 (pl : Int) (by omega) (by omega) (by omega) (by rw [List.length_append, Wr.num_len]; omega))
          have HP := hid hpl
          clear hpl
          go_wp2_with fail
          refine C5.out.mono ?_
          rintro e w6 ⟨rfl, S6⟩
          clear S5 C5 hlk y1 y2 y3 sy Y5
          have e6 : (acc ++ Wr.num 5 (c.at_ + 274877906944)) ++ Wr.num 2 (pl : Int) = acc ++ Wr.change KS c := by rw [← HP.out, Wr.change, List.append_assoc]
          rw [e6] at S6
          have la : (acc ++ Wr.change KS c).length ≤ 40000 + 7 * (j + 1) := by rw [← e6, List.length_append, List.length_append, Wr.num_len, Wr.num_len]; omega
          have HLA := hid la
          clear e6 la
          go_wp2
          go_roundw
          case rel => exact ⟨j + 1, _, by omega, by go_num, HLA.out, HE2, S6⟩
          case measure => simp [intOf]; omega
        · have HE2 : Hid (EN = acc) := by show _ = _; rw [HE.out, List.drop_eq_nil_of_le (by omega)]; simp [Wr.bodyK]
          go_wp2
          go_end0
          exact ⟨rfl, by rw [HE2.out]; exact S0.out.isb, S0.out.bel⟩
end Go.Proofs.Ytombhnjmelidcaa
