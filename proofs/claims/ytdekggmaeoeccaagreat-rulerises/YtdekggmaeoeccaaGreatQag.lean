/- The contract of rule.Times: the times of turns that are right; and the whole. · What lines leave, in plain terms: how many things, how long their texts. · The contract of the document's FieldsOf. -/
import Derived.Test.YtdekggmaeoeccaaGreatQaf
import Derived.Maps.AppendAt
import Derived.Test.YtdekggmaeoeccaaGreatQae
import Derived.Test.YtdekggmaeoeccaaGreatQad
namespace Go.Proofs.YtdekggmaeoeccaaGreat
open Go.RowKit Go.Shelf
set_option linter.unusedVariables false
set_option linter.unusedSimpArgs false
attribute [local go_sem] Oper.semAt_some

theorem ownC_row {β : Type} {B n0 Bs g L size : Nat} {t e : TypeId} (k : β → Nat) (xs : β → List Value) (hBs : Bs < B) (hg : g < B) :
    OwnC B (fun (s : β) W => Boxed W Bs t (.slice (some ⟨g, 0, none⟩) (k s) L) ∧ W.ownsRow n0 e size (.slice (some ⟨g, 0, none⟩) (k s) L) (k s) (xs s)) :=
  fun s W W' row hs hgr hr => ⟨hs.1.kept hgr (fun q => by have := (hr Bs q.symm).1; omega), hs.2.kept hgr (.inr fun q => by have := (hr g q.symm).1; omega)⟩
def HeldB (N Bx : Nat) (shift : Int) (p t : Sx.Tn) (w : World) : Prop := w.cell? ⟨N, 0, none⟩ = some (.int .i64 shift) ∧ w.cell? ⟨Bx, 0, none⟩ = some (.int .i64 p.stands) ∧ w.cell? ⟨Bx, 1, none⟩ = some (.int .i64 p.clock) ∧ w.cell? ⟨Bx, 2, none⟩ = some (.int .i64 p.save) ∧ w.cell? ⟨Bx, 3, none⟩ = some (strV p.letter) ∧ w.cell? ⟨Bx, 4, none⟩ = some (.int .i64 t.stands) ∧ w.cell? ⟨Bx, 5, none⟩ = some (.int .i64 t.clock) ∧ w.cell? ⟨Bx, 6, none⟩ = some (.int .i64 t.save) ∧ w.cell? ⟨Bx, 7, none⟩ = some (strV t.letter)
theorem held_below {N Bx : Nat} {shift : Int} {p t : Sx.Tn} {A B : World} (h : HeldB N Bx shift p t A) (hb : Below A.heap.size A B) (hN : N < A.heap.size) (hx : Bx < A.heap.size) : HeldB N Bx shift p t B := by
  obtain ⟨a, b0, b1, b2, b3, b4, b5, b6, b7⟩ := h
  have e := fun k => hb.cell (p := ⟨Bx, k, none⟩) hx
  exact ⟨(hb.cell (p := ⟨N, 0, none⟩) hN).trans a, (e 0).trans b0, (e 1).trans b1, (e 2).trans b2, (e 3).trans b3, (e 4).trans b4, (e 5).trans b5, (e 6).trans b6, (e 7).trans b7⟩
theorem held_grown {N Bx g : Nat} {shift : Int} {p t : Sx.Tn} {A B : World} (h : HeldB N Bx shift p t A) (hb : A.grownBy B (some g)) (hN : N < A.heap.size) (hx : Bx < A.heap.size) (n1 : N ≠ g) (n2 : Bx ≠ g) : HeldB N Bx shift p t B := by
  obtain ⟨a, b0, b1, b2, b3, b4, b5, b6, b7⟩ := h
  have e : ∀ k, B.cell? ⟨Bx, k, none⟩ = A.cell? ⟨Bx, k, none⟩ := fun k => World.cell?_of_block (w := A) (hb.block _ hx (by intro q; exact n2 (by injection q)))
  have e' : B.cell? ⟨N, 0, none⟩ = A.cell? ⟨N, 0, none⟩ := World.cell?_of_block (w := A) (hb.block _ hN (by intro q; exact n1 (by injection q)))
  exact ⟨e'.trans a, (e 0).trans b0, (e 1).trans b1, (e 2).trans b2, (e 3).trans b3, (e 4).trans b4, (e 5).trans b5, (e 6).trans b6, (e 7).trans b7⟩
theorem held_set {N Bx g : Nat} {shift : Int} {p t : Sx.Tn} {A : World} {v : Value} (h : HeldB N Bx shift p t A) (n1 : N ≠ g) (n2 : Bx ≠ g) : HeldB N Bx shift p t (A.setCell ⟨g, 0, none⟩ v) := by
  obtain ⟨a, b0, b1, b2, b3, b4, b5, b6, b7⟩ := h
  have e : ∀ k, (A.setCell ⟨g, 0, none⟩ v).cell? ⟨Bx, k, none⟩ = A.cell? ⟨Bx, k, none⟩ := fun k => World.cell?_of_block (w := A) (Below.heap_setCell _ _ _ _ n2)
  have e' : (A.setCell ⟨g, 0, none⟩ v).cell? ⟨N, 0, none⟩ = A.cell? ⟨N, 0, none⟩ := World.cell?_of_block (w := A) (Below.heap_setCell _ _ _ _ n1)
  exact ⟨e'.trans a, (e 0).trans b0, (e 1).trans b1, (e 2).trans b2, (e 3).trans b3, (e 4).trans b4, (e 5).trans b5, (e 6).trans b6, (e 7).trans b7⟩
theorem app_end {G Bs N L k : Nat} {tT T : TypeId} {w4 W w7 w9 : World} {tmp o : Obj} {xs news : List Value} (ib : Boxed W Bs tT (.slice (some ⟨G, 0, none⟩) k L)) (ir : W.ownsRow G T 3 (.slice (some ⟨G, 0, none⟩) k L) k xs)
    (iN : W.heap[N]? = some o) (iB : Below G w4 W) (BB : Below W.heap.size W w7) (hGB : G < Bs) (hNG : N < G) (hte : tT ≠ T)
    (hown9 : w9.ownsRow G T 3 (.slice (some ⟨G, 0, none⟩) (k + 1) L) (k + 1) (xs ++ news)) (hgrow9 : (w7.alloc tmp).grownBy w9 (some G)) :
    Boxed w9 Bs tT (.slice (some ⟨G, 0, none⟩) k L) ∧ KeepsOthers W (w9.setCell ⟨Bs, 0, none⟩ (.slice (some ⟨G, 0, none⟩) (k + 1) L)) ∧ Kp G T Bs W (w9.setCell ⟨Bs, 0, none⟩ (.slice (some ⟨G, 0, none⟩) (k + 1) L)) ∧
    Boxed (w9.setCell ⟨Bs, 0, none⟩ (.slice (some ⟨G, 0, none⟩) (k + 1) L)) Bs tT (.slice (some ⟨G, 0, none⟩) (k + 1) L) ∧ (w9.setCell ⟨Bs, 0, none⟩ (.slice (some ⟨G, 0, none⟩) (k + 1) L)).ownsRow G T 3 (.slice (some ⟨G, 0, none⟩) (k + 1) L) (k + 1) (xs ++ news) ∧
    (w9.setCell ⟨Bs, 0, none⟩ (.slice (some ⟨G, 0, none⟩) (k + 1) L)).heap[N]? = some o ∧ Below G w4 (w9.setCell ⟨Bs, 0, none⟩ (.slice (some ⟨G, 0, none⟩) (k + 1) L)) := by
  have lb := ib.lt
  have ib7 : Boxed w7 Bs tT (.slice (some ⟨G, 0, none⟩) k L) := (BB.block _ lb).trans ib
  have r7 := owns_below ir BB
  obtain ⟨q1, q2, q3, q4, q5⟩ := ib7.appended hte r7 (by have := BB.size; omega) (Nat.le_of_lt hGB) hown9 hgrow9
  have lN := (Array.getElem?_eq_some_iff.1 iN).1
  have n7 := (BB.block _ lN).trans iN
  have bw : Below G W (w9.setCell ⟨Bs, 0, none⟩ (.slice (some ⟨G, 0, none⟩) (k + 1) L)) := (BB.mono (by omega)).trans q5
  exact ⟨q1, (keeps_below BB).trans q4, ⟨bw, keepT_t (kp_grow BB (Nat.le_refl _)).2 (keepT_app r7 hgrow9)⟩, q2, q3, (q5.block _ hNG).trans n7, iB.trans bw⟩
set_option maxRecDepth 100000 in
set_option maxHeartbeats 4000000 in
theorem times_good (rs : List Sx.Rl) (rv : Value) (name : Tx.Bs) (shift : Int) (w : World) (h : RdRules w rv rs) (hs : ∀ r ∈ rs, r.name.length ≤ maxLen ∧ r.letter.length ≤ maxLen) (hT : Sx.timesE rs name shift = 0) :
    Calls Tryz.prog 5 #[rv, strV name, .int .i64 shift] w (TimesEnd rs name shift w) := by
  obtain ⟨ra, rcap, rfl⟩ := rd_shape h
  have HO := hid (Sx.times_ok hT)
  have BV := hid ((Below.refl w.heap.size w).alloc (Nat.le_refl _) (.cells #[.int .i64 shift] 3))
  have SV := hid (World.alloc_heap_new w (.cells #[.int .i64 shift] 3))
  have C := hid (sCheckRules_any rs _ _ (rd_below h BV.out) hs)
  have HOK := hid (Sx.src_ok HO.out.src)
  have HE := hid HO.out.src
  rw [HE.out] at C
  have H := hid h
  have n1 : ¬ shift < -64800 := by have := HO.out.s1; omega
  have n2 : ¬ 64800 < shift := by have := HO.out.s2; omega
  have HT := hid hT
  clear h hs hT
  refine (callsIn_wide (n := 4)).1 ?_
  refine callsIn_of_wp_marks Tryz.func5 rfl trivial ?_ rfl
  simp only [Tryz.ntmps5, List.size_toArray, List.length_cons, List.length_nil, Nat.reduceAdd, Nat.reduceSub, Array.replicate_succ, Array.replicate_zero, List.push_toArray, List.append_toArray, List.nil_append, List.cons_append]
  gi_wp2_with fail
  refine ⟨trivial, (callsIn_wide.2 C.out).mono ?_⟩
  rintro e w1 ⟨rfl, hb⟩
  have S1 := (hb.block _ (Array.getElem?_eq_some_iff.1 SV.out).1).trans SV.out
  obtain ⟨t0, t1⟩ := ca_at (ca_heap2 (vs := [.int .i64 shift]) S1) 0 rfl
  have B1 : Hid (Below w.heap.size w w1) := BV.out.trans (hb.mono BV.out.size)
  have ss := (Array.getElem?_eq_some_iff.1 S1).1
  have HS1 := hid S1
  have L1 : Hid (w.heap.size < w1.heap.size) := ss
  clear hb S1 C SV BV
  gi_wp2_with fail
  refine ⟨trivial, (callsIn_wide.2 (turns_any _ _ _ ra rs.length rcap rfl)).mono ?_⟩
  rintro e w2 ⟨rfl, hw2⟩
  have q1 : w2.cell? ⟨w1.heap.size, 0, none⟩ = some (.slice ra rs.length rcap) := by
    have := ca_at (ca_alloc (ca_new w1 [.slice ra rs.length rcap] 22) (.cells #[strV name] 9)) 0 rfl
    rw [hw2]; exact this.1
  have q2 : w2.cell? ⟨w1.heap.size + 1, 0, none⟩ = some (strV name) := by
    have := ca_at (ca_new (w1.alloc (.cells #[.slice ra rs.length rcap] 22)) [strV name] 9) 0 rfl
    rw [World.size_alloc] at this
    rw [hw2]; exact this.1
  have z2 : w2.heap.size = w1.heap.size + 2 := by rw [hw2]; simp
  have B12 : Below w1.heap.size w1 w2 := by
    rw [hw2]; exact ((Below.refl _ w1).alloc (Nat.le_refl _) _).alloc (by simp) _
  have B2 : Hid (Below w.heap.size w w2) := B1.out.trans (B12.mono B1.out.size)
  have S2 := hid ((B12.block _ L1.out).trans HS1.out)
  have L2 : Hid (w.heap.size < w2.heap.size) := Nat.lt_of_lt_of_le L1.out B12.size
  have C2 := hid (pInOrder_any w1.heap.size (w1.heap.size + 1) rs name ra rcap w2 (rd_below H.out B2.out) HOK.out.2 HOK.out.1 q1 q2 (by omega) (by omega))
  clear hw2 q1 q2 z2 t0 t1 ss HS1 B12 B1 L1
  gi_wp2_with fail
  refine ⟨trivial, (callsIn_wide.2 C2.out).mono ?_⟩
  rintro e w3 ⟨v, o, rfl, hord, hrd, hb⟩
  have B3 : Hid (Below w.heap.size w w3) := B2.out.trans (hb.mono B2.out.size)
  have S3 := hid ((hb.block _ L2.out).trans S2.out)
  have L3 : Hid (w.heap.size < w3.heap.size) := Nat.lt_of_lt_of_le L2.out hb.size
  have KT := hid (turnsE_is HE.out HO.out.s1 HO.out.s2 hord)
  have HB := hid (fun t ht => Sx.turns_bd HOK.out.2 t (hord.1.mem_iff.1 ht))
  have HL : Hid (o.length ≤ 10000) := by show _ ≤ _; have := hord.1.length_eq; have := turns_few (name := name) HOK.out.2 HOK.out.1; omega
  have HSV : Hid (∀ t ∈ o, 0 ≤ t.save ∧ t.save ≤ 10800) := fun t ht => Sx.turns_save (fun r hr => (HOK.out.2 r hr).save) t (hord.1.mem_iff.1 ht)
  have C3 := hid (checkTurns_any o v w3 hrd HL.out HB.out)
  have hE0 : turnsE o = 0 := KT.out.1.trans HT.out
  have KX : Hid (Sx.times rs name shift = (Sx.stepsOf o).map (Sx.timeS shift)) := KT.out.2 hE0
  rw [hE0] at C3
  obtain ⟨oa, oc, rfl⟩ := rd_shape hrd
  have RD3 := hid hrd
  clear hE0 KT hord hrd hb C2 S2 L2 B2
  gi_wp2_with fail
  refine ⟨trivial, (callsIn_wide.2 C3.out).mono ?_⟩
  rintro e w4 ⟨rfl, hb⟩
  have B4 : Hid (Below w.heap.size w w4) := B3.out.trans (hb.mono B3.out.size)
  have S4 := hid ((hb.block _ L3.out).trans S3.out)
  have L4 : Hid (w.heap.size < w4.heap.size) := Nat.lt_of_lt_of_le L3.out hb.size
  have RD4 := hid (rd_below RD3.out hb)
  clear hb C3 RD3 S3 L3 B3
  obtain ⟨i0, hi, hz0, hz1, hz2⟩ := info_parts Tryz.infoTime
  have hl := HL.out
  gi_wp2_with (gi_at_make; refine wpListIn_make_own _ rfl _ _ 24 rfl w4.heap.size 33 i0 (.agg #[.int .i64 0, .int .i64 0, .string ⟨#[]⟩]) 3 Tryz.underlying24 hi hz0 hz1 _ _ _ o.length rfl rfl rfl (by rw [hz2]; omega) (by unfold maxLen; omega) (Nat.le_refl _) ?_; intro w5 hown5 hgrow5)
  refine ⟨trivial, (callsIn_wide.2 (steps_any oa o.length oc _)).mono ?_⟩
  rintro e w6 ⟨rfl, rfl⟩
  obtain ⟨G, hG⟩ : ∃ G, w4.heap.size = G := ⟨_, rfl⟩
  obtain ⟨Bs, hBs⟩ : ∃ Bs, w5.heap.size = Bs := ⟨_, rfl⟩
  obtain ⟨N, hN⟩ : ∃ N, w.heap.size = N := ⟨_, rfl⟩
  obtain ⟨Nt, hNt⟩ : ∃ Nt, w1.heap.size = Nt := ⟨_, rfl⟩
  have hGB : G < Bs := by
    rcases hown5.2 with ⟨h0, _⟩ | ⟨g, cap, cur, h0, _, hg, _⟩
    · cases h0
    · simp only [Value.slice.injEq, Option.some.injEq, Addr.mk.injEq] at h0
      rw [← h0.1.1] at hg
      have := (Array.getElem?_eq_some_iff.1 hg).1
      omega
  have hNG : N < G := by rw [← hN, ← hG]; exact L4.out
  have B5 : Below G w4 w5 := (Below.refl G w4).grown hgrow5 (by omega) (fun k e => by cases e)
  have S5 := (B5.block N hNG).trans (hN ▸ S4.out)
  rw [hG, hBs, hN, hNt]
  rw [show (w5.alloc (.cells #[.slice (some ⟨G, 0, none⟩) 0 o.length] 24)).heap.size = Bs + 1 by simp [hBs]]
  rw [hG] at hown5
  obtain ⟨V, hV⟩ : ∃ V, ((w5.alloc (.cells #[.slice (some ⟨G, 0, none⟩) 0 o.length] 24)).alloc (.cells #[.slice oa o.length oc] 41)) = V := ⟨_, rfl⟩
  rw [hV]
  have vS : V.heap.size = Bs + 2 := by rw [← hV]; simp [hBs]
  have vN : V.heap[N]? = some (.cells #[.int .i64 shift] 3) := by rw [← hV, Below.heap_alloc _ _ _ (by simp; omega), Below.heap_alloc _ _ _ (by omega)]; exact S5
  have vb : Boxed V Bs 24 (.slice (some ⟨G, 0, none⟩) 0 o.length) := by rw [← hV, ← hBs]; exact (Boxed.new w5 _ _).alloc _
  have vr : V.ownsRow G 33 3 (.slice (some ⟨G, 0, none⟩) 0 o.length) 0 [] := by rw [← hV]; exact (hown5.alloc _).alloc _
  have vo : V.cell? ⟨Bs + 1, 0, none⟩ = some (.slice oa o.length oc) := by
    have := ca_at (ca_new (w5.alloc (.cells #[.slice (some ⟨G, 0, none⟩) 0 o.length] 24)) [.slice oa o.length oc] 41) 0 rfl
    rw [World.size_alloc, hBs] at this
    rw [← hV]; exact this.1
  have vB : Below G w4 V := by rw [← hV]; exact (B5.alloc (by omega) _).alloc (by simp; omega) _
  have HGG := hid hG
  have HNN := hid hN
  clear hV hown5 hgrow5 S5 B5 hNt hBs S4 L4
  gi_wp2
  refine wpIn_range_c rfl (by omega) (gf := 29) (lb := #[.pointer (some ⟨Bs + 1, 0, none⟩)]) rfl trivial (enters_of Tryz.func29 (by kernel_rfl) rfl)
    (steps_stops 3 (Bs + 1) Bs (by omega) o oa oc w4 V RD4.out HL.out vo (by omega) (by omega) (hG ▸ vB)) kpC_t (kpC_b (by omega)) (Below.refl _ _) (fun _ => rfl)
    (fun (pre : List (Sx.Tn × Sx.Tn)) W => (Boxed W Bs 24 (.slice (some ⟨G, 0, none⟩) pre.length o.length) ∧ W.ownsRow G 33 3 (.slice (some ⟨G, 0, none⟩) pre.length o.length) pre.length ((pre.map (Sx.timeS shift)).flatMap timeC)) ∧ W.heap[N]? = some (.cells #[.int .i64 shift] 3) ∧ Below G w4 W)
    (fun _ _ _ => False)
    (OwnC.and (ownC_row (fun (pre : List (Sx.Tn × Sx.Tn)) => pre.length) (fun (pre : List (Sx.Tn × Sx.Tn)) => (pre.map (Sx.timeS shift)).flatMap timeC) (by omega) (by omega)) (OwnC.and (ownC_heap (by omega)) (ownC_below (by omega) (by omega))))
    (fun _ _ _ _ _ hs _ _ => hs)
    ⟨⟨vb, vr⟩, vN, vB⟩
    (fun x a' W => ∃ Bx, Bs + 1 < Bx ∧ W.heap[Bx]? = some (.cells (stepC x).toArray 53 (0, 0)) ∧ a' = { tmps := #[.slice ra rs.length rcap, strV name, .int .i64 shift, undef, undef, .pointer (some ⟨N, 0, none⟩), .slice none 0 0, .int .i64 0, .int .i64 0, .slice oa o.length oc, .int .i64 0, .pointer (some ⟨Bs, 0, none⟩), .pointer (some ⟨Bx, 0, none⟩), .slice ra rs.length rcap, .agg #[.slice ra rs.length rcap, .slice none 0 0, .slice none 0 0], .int .i64 0, .int .i64 0, .bool false, undef, .int .i64 shift, .bool (decide (shift < -64800)), .bool (decide (shift < -64800)), .int .i64 shift, .bool (decide (64800 < shift)), .bool (decide (shift < -64800) || decide (64800 < shift)), .slice ra rs.length rcap, strV name, .func (.func 25) #[] #[.pointer (some ⟨Nt, 0, none⟩), .pointer (some ⟨Nt + 1, 0, none⟩)], .slice oa o.length oc, .slice oa o.length oc, .int .i64 0, .int .i64 0, .bool false, undef, .slice oa o.length oc, .int .i64 ↑o.length, .slice (some ⟨G, 0, none⟩) 0 o.length, .slice oa o.length oc, .func (.func 29) #[] #[.pointer (some ⟨Bs + 1, 0, none⟩)], stepV x.1 x.2, undef, undef, undef, undef, undef, undef, undef], defers := [] })
    ?hAx ?assign ?body ?done ?stop
  case hAx =>
    rintro x a' _ X Y row ⟨Bx, q1, q2, q3⟩ hg hr
    refine ⟨Bx, q1, ?_, q3⟩
    rw [hg.block Bx (Array.getElem?_eq_some_iff.1 q2).1 (fun e => by obtain ⟨_, o, ho, hc⟩ := hr Bx e.symm; rw [q2] at ho; cases ho; simp [Obj.isCells] at hc)]
    exact q2
  case assign =>
    rintro l pre ⟨p, t⟩ W K ⟨⟨i0', i1⟩, iN, iB⟩ sz hK
    rw [vS] at sz
    have KB := hid ((Below.refl W.heap.size W).alloc (Nat.le_refl _) (.cells (stepC (p, t)).toArray 53))
    have R := hid (hK { tmps := #[.slice ra rs.length rcap, strV name, .int .i64 shift, undef, undef, .pointer (some ⟨N, 0, none⟩), .slice none 0 0, .int .i64 0, .int .i64 0, .slice oa o.length oc, .int .i64 0, .pointer (some ⟨Bs, 0, none⟩), .pointer (some ⟨W.heap.size, 0, none⟩), .slice ra rs.length rcap, .agg #[.slice ra rs.length rcap, .slice none 0 0, .slice none 0 0], .int .i64 0, .int .i64 0, .bool false, undef, .int .i64 shift, .bool (decide (shift < -64800)), .bool (decide (shift < -64800)), .int .i64 shift, .bool (decide (64800 < shift)), .bool (decide (shift < -64800) || decide (64800 < shift)), .slice ra rs.length rcap, strV name, .func (.func 25) #[] #[.pointer (some ⟨Nt, 0, none⟩), .pointer (some ⟨Nt + 1, 0, none⟩)], .slice oa o.length oc, .slice oa o.length oc, .int .i64 0, .int .i64 0, .bool false, undef, .slice oa o.length oc, .int .i64 ↑o.length, .slice (some ⟨G, 0, none⟩) 0 o.length, .slice oa o.length oc, .func (.func 29) #[] #[.pointer (some ⟨Bs + 1, 0, none⟩)], stepV p t, undef, undef, undef, undef, undef, undef, undef], defers := [] } (W.alloc (.cells (stepC (p, t)).toArray 53)) ((KeepsOthers.alloc _ _).from _) (kp_grow KB.out (by omega))
      ⟨⟨i0'.alloc _, i1.alloc _⟩, (KB.out.block _ (Array.getElem?_eq_some_iff.1 iN).1).trans iN, iB.alloc (by omega) _⟩ ⟨W.heap.size, by omega, World.alloc_heap_new W _, rfl⟩)
    clear hK i0' i1 iN iB
    gi_wp2
    exact R.out
  case body =>
    rintro l pre ⟨p, t⟩ a' W hl ⟨r, hr⟩ ⟨⟨ib, ir⟩, iN, iB⟩ ⟨Bx, hBx, hX, rfl⟩ hpx sz
    have hm := steps_mem o Sx.ago (p, t) (prefix_mem hpx)
    dsimp only at hm
    have hpl : pre.length + 1 ≤ o.length := by have := hpx.length_le; rw [List.length_append, Sx.stepsOf, Sx.stepsFrom_len] at this; simpa using this
    have hs1 : 0 ≤ p.save ∧ p.save ≤ 10800 := by
      rcases hm.1 with rfl | e
      · simp [Sx.ago]
      · exact HSV.out _ e
    have hb2 := HB.out _ hm.2
    have HC := hid (time_any p t shift W n1 n2 hs1.1 hs1.2 hb2.1 hb2.2)
    have HC2 := hid (time_any p t shift W.drew n1 n2 hs1.1 hs1.2 hb2.1 hb2.2)
    obtain ⟨x0, _⟩ := ca_at (ca_heap2 hX) 0 rfl
    obtain ⟨x1, _⟩ := ca_at (ca_heap2 hX) 1 rfl
    obtain ⟨x2, _⟩ := ca_at (ca_heap2 hX) 2 rfl
    obtain ⟨x3, _⟩ := ca_at (ca_heap2 hX) 3 rfl
    obtain ⟨x4, _⟩ := ca_at (ca_heap2 hX) 4 rfl
    obtain ⟨x5, _⟩ := ca_at (ca_heap2 hX) 5 rfl
    obtain ⟨x6, _⟩ := ca_at (ca_heap2 hX) 6 rfl
    obtain ⟨x7, _⟩ := ca_at (ca_heap2 hX) 7 rfl
    have sx := (Array.getElem?_eq_some_iff.1 hX).1
    have cN := (ca_at (ca_heap2 (vs := [.int .i64 shift]) iN) 0 rfl).1
    have cb := ib.cell
    have lb := ib.lt
    have lN := (Array.getElem?_eq_some_iff.1 iN).1
    have IB := hid iB
    have IR := hid ir
    have IN := hid iN
    have IBX := hid ib
    clear hm hX iN ib ir iB hr
    dsimp only at x0 x1 x2 x3 x4 x5 x6 x7
    gi_wp2_with fail
    obtain ⟨T, hT⟩ : ∃ T, Sx.timeOf shift p.save t = T := ⟨_, rfl⟩
    rw [hT] at HC2
    have HTT : Hid (Sx.timeS shift (p, t) = T) := hT
    clear hT HC
    have SS : Hid (HeldB N Bx shift p t W.drew) := ⟨cN, x0, x1, x2, x3, x4, x5, x6, x7⟩
    refine regionIn_held (S := fun w' => HeldB N Bx shift p t w') (by kernel_rfl) (by kernel_rfl) (fun ⟨_, _, q⟩ => q) SS.out (fun hHeld => ?_)
    refine wpAnyH_take (i := 1) (v := ?v1) rfl (by kernel_rfl) (by kernel_rfl) (by kernel_rfl) (fun _ _ _ h => h) (Or.inl ⟨by rfl, ?hy1⟩) (by assumption) ?_
    case hy1 => (intro w hSw; obtain ⟨sN, s0, s1, s2, s3, s4, s5, s6, s7⟩ := hSw; go_simp; try with_reducible rfl)
    try simp only [Act.put, List.setIfInBounds_toArray, List.set_cons_zero, List.set_cons_succ]
    refine wpAnyH_take (i := 2) (v := ?v2) rfl (by kernel_rfl) (by kernel_rfl) (by kernel_rfl) (fun _ _ _ h => h) (Or.inl ⟨by rfl, ?hy2⟩) (by assumption) ?_
    case hy2 => (intro w hSw; obtain ⟨sN, s0, s1, s2, s3, s4, s5, s6, s7⟩ := hSw; go_simp; try with_reducible rfl)
    try simp only [Act.put, List.setIfInBounds_toArray, List.set_cons_zero, List.set_cons_succ]
    refine wpAnyH_ready (rs := [0,3]) (by kernel_rfl) (by simp) ?_
    refine AllReadyH.cons rfl (fun K hK => ?_) ?_
    · have cbd : W.drew.cell? ⟨Bs, 0, none⟩ = some (.slice (some ⟨G, 0, none⟩) pre.length o.length) := cb
      go_simp
      refine hK.out _ _ (by assumption) (fun hHeldB => ?_)
      clear hK K
      try simp only [Act.put, List.setIfInBounds_toArray, List.set_cons_zero, List.set_cons_succ]
      refine wpAnyH_ready (rs := [3]) (by kernel_rfl) (by simp) ?_
      refine AllReadyH.cons rfl (fun K hK => ?_) AllReadyH.nil
      go_simp
      refine HC2.out.mono ?_
      rintro e w7 ⟨rfl, hb7⟩
      have BB : Hid (Below W.heap.size W w7) := (show Below W.heap.size W W.drew from ⟨rfl, rfl, rfl, Nat.le_refl _, fun _ _ => rfl⟩).trans hb7
      have ib7 : Boxed w7 Bs 24 (.slice (some ⟨G, 0, none⟩) pre.length o.length) := (BB.out.block _ lb).trans IBX.out
      have cb7 := ib7.cell
      have lb7 := ib7.lt
      have row7 := owns_below IR.out BB.out
      have S7 := held_below SS.out hb7 lN sx
      have L7 : N < w7.heap.size ∧ Bx < w7.heap.size := ⟨Nat.lt_of_lt_of_le lN BB.out.size, Nat.lt_of_lt_of_le sx BB.out.size⟩
      refine hK.out _ _ S7 (fun hHeld2 => ?_)
      clear hK K
      try simp only [Act.put, List.setIfInBounds_toArray, List.set_cons_zero, List.set_cons_succ]
      refine wpAnyH_ready (rs := [4]) (by kernel_rfl) (by simp) ?_
      refine AllReadyH.cons rfl (fun K hK => ?_) AllReadyH.nil
      go_simp
      have S8 := held_below S7 ((Below.refl w7.heap.size w7).alloc (Nat.le_refl _) (.cells #[.int .i64 T.at_, .int .i64 T.save, strV T.letter] 33)) L7.1 L7.2
      have cb8 := (ib7.alloc (.cells #[.int .i64 T.at_, .int .i64 T.save, strV T.letter] 33)).cell
      refine hK.out _ _ S8 (fun hHeld3 => ?_)
      clear hK K
      try simp only [Act.put, List.setIfInBounds_toArray, List.set_cons_zero, List.set_cons_succ]
      refine wpAnyH_ready (rs := [5]) (by kernel_rfl) (by simp) ?_
      refine AllReadyH.cons rfl (fun K hK => ?_) AllReadyH.nil
      refine step_append_fits rfl _ _ 24 rfl G 33 i0 3 Tryz.underlying24 hi hz1 G pre.length o.length _ rfl (row7.alloc _) ⟨w7.heap.size, 0, none⟩ 1 1 (timeC T) rfl rfl (time_cells _ _) (time_one _) hpl ?_
      intro w9 hown9 hgrow9
      obtain ⟨hv9, k9, kp9, b9, r9, n9, bl9⟩ := app_end IBX.out IR.out IN.out IB.out BB.out hGB hNG (by decide) hown9 hgrow9
      have c9 := hv9.cell
      have f9 := hv9.frozen
      have l9 := hv9.lt
      have S9 := held_grown S8 hgrow9 (by simp; omega) (by simp; omega) (by omega) (by omega)
      refine hK.out _ _ S9 (fun hHeld4 => ?_)
      clear hK K
      try simp only [Act.put, List.setIfInBounds_toArray, List.set_cons_zero, List.set_cons_succ]
      refine wpAnyH_ready (rs := [6]) (by kernel_rfl) (by simp) ?_
      refine AllReadyH.cons rfl (fun K hK => ?_) AllReadyH.nil
      go_simp
      refine hK.out _ _ (held_set S9 (by omega) (by omega)) (fun hHeld5 => ?_)
      clear hK K
      try simp only [Act.put, List.setIfInBounds_toArray, List.set_cons_zero, List.set_cons_succ]
      refine wpAnyH_done (by kernel_rfl) ?_ _
      exact ⟨k9.from _, HGG.out.symm ▸ kp9, ⟨by simpa using b9, by simpa [HTT.out] using r9⟩, n9, bl9⟩
    refine AllReadyH.cons rfl (fun K hK => ?_) AllReadyH.nil
    go_simp
    refine HC2.out.mono ?_
    rintro e w7 ⟨rfl, hb7⟩
    have BB : Hid (Below W.heap.size W w7) := (show Below W.heap.size W W.drew from ⟨rfl, rfl, rfl, Nat.le_refl _, fun _ _ => rfl⟩).trans hb7
    have ib7 : Boxed w7 Bs 24 (.slice (some ⟨G, 0, none⟩) pre.length o.length) := (BB.out.block _ lb).trans IBX.out
    have cb7 := ib7.cell
    have lb7 := ib7.lt
    have row7 := owns_below IR.out BB.out
    have S7 := held_below SS.out hb7 lN sx
    have L7 : N < w7.heap.size ∧ Bx < w7.heap.size := ⟨Nat.lt_of_lt_of_le lN BB.out.size, Nat.lt_of_lt_of_le sx BB.out.size⟩
    refine hK.out _ _ S7 (fun hHeld2 => ?_)
    clear hK K
    try simp only [Act.put, List.setIfInBounds_toArray, List.set_cons_zero, List.set_cons_succ]
    refine wpAnyH_ready (rs := [0,4]) (by kernel_rfl) (by simp) ?_
    refine AllReadyH.cons rfl (fun K hK => ?_) ?_
    · go_simp
      refine hK.out _ _ (by assumption) (fun hHeldB => ?_)
      clear hK K
      try simp only [Act.put, List.setIfInBounds_toArray, List.set_cons_zero, List.set_cons_succ]
      refine wpAnyH_ready (rs := [4]) (by kernel_rfl) (by simp) ?_
      refine AllReadyH.cons rfl (fun K hK => ?_) AllReadyH.nil
      go_simp
      have S8 := held_below S7 ((Below.refl w7.heap.size w7).alloc (Nat.le_refl _) (.cells #[.int .i64 T.at_, .int .i64 T.save, strV T.letter] 33)) L7.1 L7.2
      have cb8 := (ib7.alloc (.cells #[.int .i64 T.at_, .int .i64 T.save, strV T.letter] 33)).cell
      refine hK.out _ _ S8 (fun hHeld3 => ?_)
      clear hK K
      try simp only [Act.put, List.setIfInBounds_toArray, List.set_cons_zero, List.set_cons_succ]
      refine wpAnyH_ready (rs := [5]) (by kernel_rfl) (by simp) ?_
      refine AllReadyH.cons rfl (fun K hK => ?_) AllReadyH.nil
      refine step_append_fits rfl _ _ 24 rfl G 33 i0 3 Tryz.underlying24 hi hz1 G pre.length o.length _ rfl (row7.alloc _) ⟨w7.heap.size, 0, none⟩ 1 1 (timeC T) rfl rfl (time_cells _ _) (time_one _) hpl ?_
      intro w9 hown9 hgrow9
      obtain ⟨hv9, k9, kp9, b9, r9, n9, bl9⟩ := app_end IBX.out IR.out IN.out IB.out BB.out hGB hNG (by decide) hown9 hgrow9
      have c9 := hv9.cell
      have f9 := hv9.frozen
      have l9 := hv9.lt
      have S9 := held_grown S8 hgrow9 (by simp; omega) (by simp; omega) (by omega) (by omega)
      refine hK.out _ _ S9 (fun hHeld4 => ?_)
      clear hK K
      try simp only [Act.put, List.setIfInBounds_toArray, List.set_cons_zero, List.set_cons_succ]
      refine wpAnyH_ready (rs := [6]) (by kernel_rfl) (by simp) ?_
      refine AllReadyH.cons rfl (fun K hK => ?_) AllReadyH.nil
      go_simp
      refine hK.out _ _ (held_set S9 (by omega) (by omega)) (fun hHeld5 => ?_)
      clear hK K
      try simp only [Act.put, List.setIfInBounds_toArray, List.set_cons_zero, List.set_cons_succ]
      refine wpAnyH_done (by kernel_rfl) ?_ _
      exact ⟨k9.from _, HGG.out.symm ▸ kp9, ⟨by simpa using b9, by simpa [HTT.out] using r9⟩, n9, bl9⟩
    refine AllReadyH.cons rfl (fun K hK => ?_) AllReadyH.nil
    go_simp
    have S8 := held_below S7 ((Below.refl w7.heap.size w7).alloc (Nat.le_refl _) (.cells #[.int .i64 T.at_, .int .i64 T.save, strV T.letter] 33)) L7.1 L7.2
    have cb8 := (ib7.alloc (.cells #[.int .i64 T.at_, .int .i64 T.save, strV T.letter] 33)).cell
    refine hK.out _ _ S8 (fun hHeld3 => ?_)
    clear hK K
    try simp only [Act.put, List.setIfInBounds_toArray, List.set_cons_zero, List.set_cons_succ]
    refine wpAnyH_ready (rs := [0]) (by kernel_rfl) (by simp) ?_
    refine AllReadyH.cons rfl (fun K hK => ?_) AllReadyH.nil
    go_simp
    refine hK.out _ _ (by assumption) (fun hHeldB => ?_)
    clear hK K
    try simp only [Act.put, List.setIfInBounds_toArray, List.set_cons_zero, List.set_cons_succ]
    refine wpAnyH_ready (rs := [5]) (by kernel_rfl) (by simp) ?_
    refine AllReadyH.cons rfl (fun K hK => ?_) AllReadyH.nil
    refine step_append_fits rfl _ _ 24 rfl G 33 i0 3 Tryz.underlying24 hi hz1 G pre.length o.length _ rfl (row7.alloc _) ⟨w7.heap.size, 0, none⟩ 1 1 (timeC T) rfl rfl (time_cells _ _) (time_one _) hpl ?_
    intro w9 hown9 hgrow9
    obtain ⟨hv9, k9, kp9, b9, r9, n9, bl9⟩ := app_end IBX.out IR.out IN.out IB.out BB.out hGB hNG (by decide) hown9 hgrow9
    have c9 := hv9.cell
    have f9 := hv9.frozen
    have l9 := hv9.lt
    have S9 := held_grown S8 hgrow9 (by simp; omega) (by simp; omega) (by omega) (by omega)
    refine hK.out _ _ S9 (fun hHeld4 => ?_)
    clear hK K
    try simp only [Act.put, List.setIfInBounds_toArray, List.set_cons_zero, List.set_cons_succ]
    refine wpAnyH_ready (rs := [6]) (by kernel_rfl) (by simp) ?_
    refine AllReadyH.cons rfl (fun K hK => ?_) AllReadyH.nil
    go_simp
    refine hK.out _ _ (held_set S9 (by omega) (by omega)) (fun hHeld5 => ?_)
    clear hK K
    try simp only [Act.put, List.setIfInBounds_toArray, List.set_cons_zero, List.set_cons_succ]
    refine wpAnyH_done (by kernel_rfl) ?_ _
    exact ⟨k9.from _, HGG.out.symm ▸ kp9, ⟨by simpa using b9, by simpa [HTT.out] using r9⟩, n9, bl9⟩
  case done =>
    rintro D ys W hD rfl ⟨⟨ib, ir⟩, iN, iB⟩ hK
    have cb := ib.cell
    have IB := hid iB
    have IR := hid ir
    have HK := hid hK
    have hlen : (Sx.stepsOf o).length = o.length := by rw [Sx.stepsOf, Sx.stepsFrom_len]
    have BK := hid (belowK_b (w := w4) (n₀ := G) (by omega) W D _ (.deferred none) (by omega) hK rfl rfl)
    have RK := hid (ownsRow_putObj ir (.deferred none) hK rfl)
    rw [hlen] at cb RK
    clear iN iB ir hK
    gi_wp2
    refine ⟨by simp, .inl ⟨_, _, rfl, run_takeDeferred HK.out, ?_⟩⟩
    refine ⟨.tuple #[.slice (some ⟨G, 0, none⟩) o.length o.length, .int .i64 0], by simp [results, Tryz.results5, go_sem], ?_⟩
    refine ⟨_, by rw [HT.out], ?_, ?_⟩
    · unfold OwnTimes
      rw [KX.out, List.length_map, hlen]
      exact owns_base RK.out (by rw [HNN.out]; omega)
    · rw [HNN.out]
      have b4 := B4.out
      rw [HNN.out] at b4
      exact b4.trans ((IB.out.trans BK.out).mono (by omega))
  case stop =>
    rintro D c pre W _ _ h _
    exact h.elim
theorem times_any (rs : List Sx.Rl) (rv : Value) (name : Tx.Bs) (shift : Int) (w : World) (h : RdRules w rv rs) (hs : ∀ r ∈ rs, r.name.length ≤ maxLen ∧ r.letter.length ≤ maxLen) :
    Calls Tryz.prog 5 #[rv, strV name, .int .i64 shift] w (TimesEnd rs name shift w) := by
  by_cases hT : Sx.timesE rs name shift = 0
  · exact times_good rs rv name shift w h hs hT
  by_cases hE : Sx.srcE ⟨rs, [], []⟩ = 0
  · by_cases hsh : -64800 ≤ shift ∧ shift ≤ 64800
    · exact times_turns rs rv name shift w h hs hE hsh.1 hsh.2 hT
    · exact times_range rs rv name shift w h hs hE hsh
  · exact times_wrong rs rv name shift w h hs hE
end Go.Proofs.YtdekggmaeoeccaaGreat
namespace Go.Proofs.YtdekggmaeoeccaaGreat.Sx
set_option linter.unusedVariables false
set_option linter.unusedSimpArgs false

structure Sz (s : Sr) : Prop where
  rules : ∀ r ∈ s.rules, r.name.length ≤ 24 ∧ r.letter.length ≤ 24
  zones : ∀ z ∈ s.zones, z.name.length ≤ 24 ∧ ∀ x ∈ z.eras, x.rules.length ≤ 24 ∧ x.format.length ≤ 24
  links : ∀ l ∈ s.links, l.to.length ≤ 24 ∧ l.name.length ≤ 24
structure StOk (st : St) (i : Nat) : Prop where
  must : st.must = true → st.src.zones ≠ []
  rules : st.src.rules.length ≤ i
  zones : st.src.zones.length ≤ i
  links : st.src.links.length ≤ i
  eras : ∀ z ∈ st.src.zones, z.eras.length ≤ i
  sz : Sz st.src
theorem stOk_start : StOk ⟨noSr, false⟩ 0 := ⟨fun h => (by cases h), Nat.le_refl _, Nat.le_refl _, Nat.le_refl _, by simp [noSr], ⟨by simp [noSr], by simp [noSr], by simp [noSr]⟩⟩
theorem letterO_in {s t : Tx.Bs} (h : letterO s = some t) : t = [] ∨ t = s := by
  unfold letterO at h
  split at h
  · simp at h; exact .inl h
  · split at h
    · simp at h; exact .inr h.symm
    · cases h
theorem nameO_in {s t : Tx.Bs} (h : nameO s = some t) : t = s := by
  unfold nameO at h
  split at h
  · simp at h; exact h.symm
  · cases h
theorem formatO_in {s t : Tx.Bs} (h : formatO s = some t) : t = s := by
  unfold formatO at h
  split at h
  · simp at h; exact h.symm
  · cases h
theorem rulesO_in {s : Tx.Bs} {p : Tx.Bs × Int} (h : rulesO s = some p) : p.1 = [] ∨ p.1 = s := by
  rw [rulesO_def] at h
  split at h
  · simp at h; subst h; exact .inl rfl
  · split at h
    · split at h
      · cases h
      · simp [Option.map_eq_some_iff] at h; obtain ⟨_, _, rfl⟩ := h; exact .inl rfl
    · split at h
      · simp at h; subst h; exact .inr rfl
      · cases h
theorem ruleO_sz {fs : List Tx.Bs} {p : Rl × List Tx.Bs} (h : ruleO fs = some p) (hf : ∀ f ∈ fs, f.length ≤ 24) : p.1.name.length ≤ 24 ∧ p.1.letter.length ≤ 24 := by
  unfold ruleO at h
  split at h
  · simp only [Option.bind_eq_some_iff, Option.map_eq_some_iff] at h
    obtain ⟨nm, h1, _, _, _, _, _, _, _, _, _, _, _, _, lt, h8, rfl⟩ := h
    have e1 := nameO_in h1
    subst e1
    refine ⟨hf _ (by simp), ?_⟩
    rcases letterO_in h8 with rfl | rfl
    · simp
    · exact hf _ (by simp)
  · cases h
theorem eraO_sz {fs : List Tx.Bs} {p : Er × List Tx.Bs} (h : eraO fs = some p) (hf : ∀ f ∈ fs, f.length ≤ 24) : p.1.rules.length ≤ 24 ∧ p.1.format.length ≤ 24 := by
  unfold eraO at h
  split at h
  · rename_i a b c rest
    simp only [Option.bind_eq_some_iff] at h
    obtain ⟨_, _, rs, h2, fm, h3, h⟩ := h
    have e3 := formatO_in h3
    subst e3
    have hr : rs.1.length ≤ 24 := by
      rcases rulesO_in h2 with q | q <;> rw [q]
      · simp
      · exact hf _ (by simp)
    have hc : fm.length ≤ 24 := hf _ (by simp)
    split at h
    · simp at h; subst h; exact ⟨hr, hc⟩
    · simp only [Option.bind_eq_some_iff] at h
      obtain ⟨_, _, _, _, _, _, _, _, h⟩ := h
      split at h
      · cases h
      · simp at h; subst h; exact ⟨hr, hc⟩
    · cases h
  · cases h
theorem whole_in {α : Type} {o : Option (α × List Tx.Bs)} {a : α} (h : whole o = some a) : o = some (a, []) := by
  unfold whole at h
  split at h
  · simp at h; subst h; rfl
  · cases h
theorem snoc_of_ne {α : Type} : ∀ (l : List α), l ≠ [] → ∃ a x, l = a ++ [x]
  | [], h => absurd rfl h
  | [x], _ => ⟨[], x, rfl⟩
  | x :: y :: r, _ => by
    obtain ⟨a, z, e⟩ := snoc_of_ne (y :: r) (by simp)
    exact ⟨x :: a, z, by rw [e]; rfl⟩
theorem stOk_next {st st' : St} {l : Tx.Ln} {i : Nat} (h : lineO st l = some st') (hf : ∀ f ∈ l.fields, f.length ≤ 24) (hk : StOk st i) : StOk st' (i + 1) := by
  obtain ⟨m1, k1, k2, k3, k4, ⟨s1, s2, s3⟩⟩ := hk
  unfold lineO at h
  split at h
  · cases h
  split at h
  · rename_i hm
    simp only [Option.map_eq_some_iff] at h
    obtain ⟨x, hx, rfl⟩ := h
    have hs := eraO_sz (whole_in hx) hf
    obtain ⟨zs, z0, e⟩ := snoc_of_ne _ (m1 hm)
    rw [e] at k2 k4 s2
    have hz0 := k4 z0 (by simp)
    have ha : addEra x st.src.zones = zs ++ [⟨z0.name, z0.eras ++ [x]⟩] := by rw [e, addEra_snoc]
    refine ⟨fun _ => by rw [ha]; simp, by simp; omega, by rw [ha]; simp at k2 ⊢; omega, by simp; omega, ?_, ⟨s1, ?_, s3⟩⟩
    · rw [ha]
      intro y hy
      simp at hy
      rcases hy with hy | rfl
      · have := k4 y (by simp [hy]); omega
      · simp; omega
    · rw [ha]
      intro y hy
      simp at hy
      rcases hy with hy | rfl
      · exact s2 y (by simp [hy])
      · refine ⟨(s2 z0 (by simp)).1, fun q hq => ?_⟩
        simp at hq
        rcases hq with hq | rfl
        · exact (s2 z0 (by simp)).2 q hq
        · exact hs
  · unfold wordO at h
    split at h
    · cases h
    rename_i w fs hfs
    have hf' : ∀ f ∈ fs, f.length ≤ 24 := fun f q => hf f (by rw [hfs]; simp [q])
    have k4' : ∀ z ∈ st.src.zones, z.eras.length ≤ i + 1 := fun z hz => by have := k4 z hz; omega
    split at h
    · simp only [Option.map_eq_some_iff] at h
      obtain ⟨x, hx, rfl⟩ := h
      have hs := ruleO_sz (whole_in hx) hf'
      refine ⟨fun q => (by cases q), by simp; omega, by simp; omega, by simp; omega, k4', ⟨?_, s2, s3⟩⟩
      intro y hy
      simp at hy
      rcases hy with hy | rfl
      · exact s1 y hy
      · exact hs
    split at h
    · simp only [Option.map_eq_some_iff] at h
      obtain ⟨x, hx, rfl⟩ := h
      have hz := whole_in hx
      unfold zoneO at hz
      split at hz
      · rename_i n fs2
        simp only [Option.bind_eq_some_iff, Option.map_eq_some_iff] at hz
        obtain ⟨nm, h1, p, h2, h3⟩ := hz
        have e1 := nameO_in h1
        subst e1
        have hs := eraO_sz h2 (fun f q => hf' f (by simp [q]))
        simp at h3
        obtain ⟨rfl, _⟩ := h3
        have hn := hf' nm (by simp)
        refine ⟨fun _ => by simp, by simp; omega, by simp; omega, by simp; omega, ?_, ⟨s1, ?_, s3⟩⟩
        · intro y hy
          simp at hy
          rcases hy with hy | rfl
          · exact k4' y hy
          · simp
        · intro y hy
          simp at hy
          rcases hy with hy | rfl
          · exact s2 y hy
          · exact ⟨hn, fun q hq => by simp at hq; subst hq; exact hs⟩
      · cases hz
    split at h
    · simp only [Option.map_eq_some_iff] at h
      obtain ⟨x, hx, rfl⟩ := h
      have hz := whole_in hx
      unfold linkO at hz
      split at hz
      · simp only [Option.bind_eq_some_iff, Option.map_eq_some_iff] at hz
        obtain ⟨nm, h1, p, h2, h3⟩ := hz
        have e1 := nameO_in h1
        have e2 := nameO_in h2
        subst e1 e2
        simp at h3
        obtain ⟨rfl, _⟩ := h3
        refine ⟨fun q => (by cases q), by simp; omega, by simp; omega, by simp; omega, k4', ⟨s1, s2, ?_⟩⟩
        intro y hy
        simp at hy
        rcases hy with hy | rfl
        · exact s3 y hy
        · exact ⟨hf' _ (by simp), hf' _ (by simp)⟩
      · cases hz
    · cases h
end Go.Proofs.YtdekggmaeoeccaaGreat.Sx
namespace Go.Proofs.YtdekggmaeoeccaaGreat
open Go.RowKit
set_option linter.unusedVariables false
set_option linter.unusedSimpArgs false

set_option maxRecDepth 100000 in
set_option maxHeartbeats 8000000 in
theorem fieldsOf_any (s : ByteArray) (w : World) (hs : s.size ≤ 8000) :
    Calls Tryz.prog 49 #[.string s] w fun e w' => ∃ v, e = .returned (.tuple #[v, .int .i64 (Tx.fields (s.size + 1) 0 s.data.toList).2]) ∧ w'.ownsRow w.heap.size 9 1 v (Tx.fields (s.size + 1) 0 s.data.toList).1.length ((Tx.fields (s.size + 1) 0 s.data.toList).1.map strV) ∧ Below w.heap.size w w' := by
  obtain ⟨G, hG⟩ : ∃ G, Tx.fields (s.size + 1) 0 s.data.toList = G := ⟨_, rfl⟩
  obtain ⟨i0, hi, hz0, hz1, hz2⟩ := info_parts Tryz.infoStr
  have HG : Hid (Tx.Rel G [] (Tx.fields (s.size + 1) 0 (s.data.toList.drop 0))) := by
    show Tx.Rel _ _ _
    rw [List.drop_zero, hG]
    exact Tx.rel_start G (by rw [← hG]; exact Tx.fields_err _ _ _)
  rw [hG]
  clear hG
  go_enter Tryz.func49, Tryz.ntmps49
  go_wp2_with fail
  go_loopw [4, 5] (fun v a wr => ∃ (k : Nat) (out : List Tx.Bs), k ≤ s.size ∧ a = .int .i64 k ∧ out.length ≤ 12 ∧ wr.ownsRow w.heap.size 9 1 v out.length (out.map strV) ∧ Below w.heap.size w wr ∧ Hid (Tx.Rel G out (Tx.fields (s.size + 1) out.length (s.data.toList.drop k)))) (fun _ a _ => s.size - (intOf a).toNat)
  case atStart => exact ⟨0, [], by omega, rfl, by simp, World.ownsRow_nil _ _ _ _, Below.refl _ _, HG⟩
  case round =>
    obtain ⟨k, out, hk, rfl, ho, hown, hb, HS⟩ := hrel
    clear HG
    go_wp2_with fail
    go_loop [5] (fun a => ∃ j : Nat, k ≤ j ∧ j ≤ s.size ∧ a = .int .i64 j ∧ Hid (Tx.skip (s.data.toList.drop k) = Tx.skip (s.data.toList.drop j))) (fun a => s.size - (intOf a).toNat)
    case atStart => exact ⟨k, by omega, by omega, rfl, rfl⟩
    case round =>
      obtain ⟨j, j1, j2, rfl, SK⟩ := hrel
      by_cases hj : j < s.size
      · obtain ⟨c, hc⟩ : ∃ c, s[j] = c := ⟨_, rfl⟩
        have DC : Hid (s.data.toList.drop j = c :: s.data.toList.drop (j + 1)) := by show _ = _; rw [drop_cons s j hj, hc]
        have hjs : ((j : Int) == (s.size : Int)) = false := by simp; omega
        cases hg : Tx.gap c
        · have HGp := hid hg
          have SK' : Hid (Tx.skip (s.data.toList.drop k) = c :: s.data.toList.drop (j + 1)) := by show _ = _; rw [SK.out, DC.out]; simp [Tx.skip, HGp.out]
          clear hg
          by_cases c35 : c = 35
          · have G0 : Hid (G = (out, 0)) := Tx.rel_end HS.out (drop_lt s k) (.inr ⟨_, by rw [SK'.out, c35]⟩)
            have e35 : ((c.toNat : Int) == 35) = true := by rw [c35]; rfl
            clear c35
            go_wp2_with (go_at_call 50; refine (isBlank_any _ _).mono ?_; rintro e w9 ⟨rfl, rfl⟩; rw [HGp.out])
            go_ret2
            rw [G0.out]
            exact ⟨_, rfl, hown, hb⟩
          have C35 := hid c35
          have e35 : ((c.toNat : Int) == 35) = false := by have := u8_eq c 35; simp at this; simp [this, c35]
          clear c35
          by_cases c34 : c = 34
          · have C34 := hid c34
            have e34 : ((c.toNat : Int) == 34) = true := by rw [c34]; rfl
            clear c34
            go_wp2_with (go_at_call 50; refine (isBlank_any _ _).mono ?_; rintro e w9 ⟨rfl, rfl⟩; rw [HGp.out])
            go_loop [5, 6] (fun a f => ∃ (i : Nat) (acc : Tx.Bs), j + 1 ≤ i ∧ i ≤ s.size ∧ a = .int .i64 i ∧ f = strV acc ∧ acc.length ≤ i ∧ Hid (Tx.tq (s.data.toList.drop (j + 1)) = (Tx.tq (s.data.toList.drop i)).map fun p => (acc ++ p.1, p.2))) (fun a _ => s.size - (intOf a).toNat)
            case atStart => exact ⟨j + 1, [], by omega, by omega, by go_num, rfl, by simp, by show _ = _; cases Tx.tq (s.data.toList.drop (j + 1)) <;> rfl⟩
            case round =>
              obtain ⟨i, acc, i1, i2, rfl, rfl, ia, TQ⟩ := hrel
              clear e34 e35 hjs hc
              by_cases hi' : i < s.size
              · obtain ⟨d, hd⟩ : ∃ d, s[i] = d := ⟨_, rfl⟩
                have DD : Hid (s.data.toList.drop i = d :: s.data.toList.drop (i + 1)) := by show _ = _; rw [drop_cons s i hi', hd]
                have his : ((i : Int) == (s.size : Int)) = false := by simp; omega
                by_cases d34 : d = 34
                · have TQ' : Hid (Tx.tq (s.data.toList.drop (j + 1)) = some (acc, s.data.toList.drop (i + 1))) := by
                    show _ = _; rw [TQ.out, DD.out, d34, Tx.tq_end]; simp
                  have e34 : ((d.toNat : Int) != 34) = false := by rw [d34]; rfl
                  clear d34
                  by_cases hn : i + 1 < s.size
                  · obtain ⟨g, hg⟩ : ∃ g, s[i + 1] = g := ⟨_, rfl⟩
                    have DG : Hid (s.data.toList.drop (i + 1) = g :: s.data.toList.drop (i + 1 + 1)) := by show _ = _; rw [drop_cons s (i + 1) hn, hg]
                    have FE : Hid (Tx.field (c :: s.data.toList.drop (j + 1)) = if Tx.ends (s.data.toList.drop (i + 1)) = true then some (acc, s.data.toList.drop (i + 1)) else none) := by
                      show _ = _; rw [C34.out, Tx.field_q, TQ'.out]
                    cases hgg : Tx.gap g
                    · have HG2 := hid hgg
                      clear hgg
                      by_cases g35 : g = 35
                      · have HF : Hid (Tx.field (c :: s.data.toList.drop (j + 1)) = some (acc, s.data.toList.drop (i + 1))) := by
                          show _ = _; rw [FE.out, if_pos (by rw [DG.out, g35]; rfl)]
                        have e35 : ((g.toNat : Int) != 35) = false := by rw [g35]; rfl
                        clear g35
                        by_cases hm : 24 < acc.length ∨ 12 < out.length + 1
                        · have G0 : Hid (G = ([], 2)) := Tx.rel_many HS.out (drop_lt s k) SK'.out C35.out HF.out hm
                          go_wp2_with (first | (go_at_call 50; refine (isBlank_any _ _).mono ?_; rintro e w9 ⟨rfl, rfl⟩; rw [HG2.out]) | (at_builtin; refine wpList_append_own _ rfl _ _ 80 rfl w.heap.size 9 i0 (.string ⟨#[]⟩) 1 16 Tryz.underlying80 hi hz0 hz1 hz2 rfl (by decide) _ _ _ rfl (hown.alloc _) _ 1 1 [strV acc] rfl rfl (one_cell _ _) (by simp [Value.oneCell']) (by unfold maxLen; omega) (by omega) (by simp; have := hb.size; omega) ?_))
                          intro v' w3 hown' hgrow _
                          obtain ⟨hown2, hb2⟩ := app_rel hb.size hown hb hown' hgrow
                          obtain ⟨g, cap, hv⟩ := owns_shape hown'
                          rw [hv]
                          clear hown' hgrow hown2 hown
                          rcases hm with hm | hm
                          · go_wp2
                            go_ret2
                            rw [G0.out]
                            exact ⟨_, rfl, World.ownsRow_nil _ _ _ _, hb2⟩
                          · by_cases hm2 : 24 < acc.length
                            all_goals
                              go_wp2
                              go_ret2
                              rw [G0.out]
                              exact ⟨_, rfl, World.ownsRow_nil _ _ _ _, hb2⟩
                        · have HR : Hid (Tx.Rel G (out ++ [acc]) (Tx.fields (s.size + 1) (out ++ [acc]).length (s.data.toList.drop (i + 1)))) := by
                            have := Tx.rel_next HS.out (drop_lt s k) SK'.out C35.out HF.out hm
                            show Tx.Rel _ _ _
                            simpa using this
                          have hm1 : acc.length ≤ 24 := by omega
                          have hm2 : out.length + 1 ≤ 12 := by omega
                          clear hm
                          go_wp2_with (first | (go_at_call 50; refine (isBlank_any _ _).mono ?_; rintro e w9 ⟨rfl, rfl⟩; rw [HG2.out]) | (at_builtin; refine wpList_append_own _ rfl _ _ 80 rfl w.heap.size 9 i0 (.string ⟨#[]⟩) 1 16 Tryz.underlying80 hi hz0 hz1 hz2 rfl (by decide) _ _ _ rfl (hown.alloc _) _ 1 1 [strV acc] rfl rfl (one_cell _ _) (by simp [Value.oneCell']) (by unfold maxLen; omega) (by omega) (by simp; have := hb.size; omega) ?_))
                          intro v' w3 hown' hgrow _
                          obtain ⟨hown2, hb2⟩ := app_rel hb.size hown hb hown' hgrow
                          obtain ⟨g, cap, hv⟩ := owns_shape hown'
                          rw [hv] at hown2 ⊢
                          clear hown' hgrow hown
                          go_wp2
                          go_roundw
                          case rel => exact ⟨i + 1, out ++ [acc], by omega, by go_num, by simp; omega, hown2, hb2, HR⟩
                          case measure => simp [intOf]; omega

                      · have G0 : Hid (G = ([], 1)) := Tx.rel_form HS.out (drop_lt s k) SK'.out C35.out (by rw [FE.out, if_neg (by rw [DG.out]; simp [Tx.ends, HG2.out, g35])])
                        have e35 : ((g.toNat : Int) != 35) = true := by have := u8_eq g 35; simp at this; simp [bne, this, g35]
                        clear g35
                        go_wp2_with (go_at_call 50; refine (isBlank_any _ _).mono ?_; rintro e w9 ⟨rfl, rfl⟩; rw [HG2.out])
                        go_ret2
                        rw [G0.out]
                        exact ⟨_, rfl, World.ownsRow_nil _ _ _ _, hb⟩
                    · have HG2 := hid hgg
                      clear hgg
                      have HF : Hid (Tx.field (c :: s.data.toList.drop (j + 1)) = some (acc, s.data.toList.drop (i + 1))) := by
                        show _ = _; rw [FE.out, if_pos (by rw [DG.out]; simp [Tx.ends, HG2.out])]
                      by_cases hm : 24 < acc.length ∨ 12 < out.length + 1
                      · have G0 : Hid (G = ([], 2)) := Tx.rel_many HS.out (drop_lt s k) SK'.out C35.out HF.out hm
                        go_wp2_with (first | (go_at_call 50; refine (isBlank_any _ _).mono ?_; rintro e w9 ⟨rfl, rfl⟩; rw [HG2.out]) | (at_builtin; refine wpList_append_own _ rfl _ _ 80 rfl w.heap.size 9 i0 (.string ⟨#[]⟩) 1 16 Tryz.underlying80 hi hz0 hz1 hz2 rfl (by decide) _ _ _ rfl (hown.alloc _) _ 1 1 [strV acc] rfl rfl (one_cell _ _) (by simp [Value.oneCell']) (by unfold maxLen; omega) (by omega) (by simp; have := hb.size; omega) ?_))
                        intro v' w3 hown' hgrow _
                        obtain ⟨hown2, hb2⟩ := app_rel hb.size hown hb hown' hgrow
                        obtain ⟨g, cap, hv⟩ := owns_shape hown'
                        rw [hv]
                        clear hown' hgrow hown2 hown
                        rcases hm with hm | hm
                        · go_wp2
                          go_ret2
                          rw [G0.out]
                          exact ⟨_, rfl, World.ownsRow_nil _ _ _ _, hb2⟩
                        · by_cases hm2 : 24 < acc.length
                          all_goals
                            go_wp2
                            go_ret2
                            rw [G0.out]
                            exact ⟨_, rfl, World.ownsRow_nil _ _ _ _, hb2⟩
                      · have HR : Hid (Tx.Rel G (out ++ [acc]) (Tx.fields (s.size + 1) (out ++ [acc]).length (s.data.toList.drop (i + 1)))) := by
                          have := Tx.rel_next HS.out (drop_lt s k) SK'.out C35.out HF.out hm
                          show Tx.Rel _ _ _
                          simpa using this
                        have hm1 : acc.length ≤ 24 := by omega
                        have hm2 : out.length + 1 ≤ 12 := by omega
                        clear hm
                        go_wp2_with (first | (go_at_call 50; refine (isBlank_any _ _).mono ?_; rintro e w9 ⟨rfl, rfl⟩; rw [HG2.out]) | (at_builtin; refine wpList_append_own _ rfl _ _ 80 rfl w.heap.size 9 i0 (.string ⟨#[]⟩) 1 16 Tryz.underlying80 hi hz0 hz1 hz2 rfl (by decide) _ _ _ rfl (hown.alloc _) _ 1 1 [strV acc] rfl rfl (one_cell _ _) (by simp [Value.oneCell']) (by unfold maxLen; omega) (by omega) (by simp; have := hb.size; omega) ?_))
                        intro v' w3 hown' hgrow _
                        obtain ⟨hown2, hb2⟩ := app_rel hb.size hown hb hown' hgrow
                        obtain ⟨g, cap, hv⟩ := owns_shape hown'
                        rw [hv] at hown2 ⊢
                        clear hown' hgrow hown
                        go_wp2
                        go_roundw
                        case rel => exact ⟨i + 1, out ++ [acc], by omega, by go_num, by simp; omega, hown2, hb2, HR⟩
                        case measure => simp [intOf]; omega

                  · have HF : Hid (Tx.field (c :: s.data.toList.drop (j + 1)) = some (acc, s.data.toList.drop (i + 1))) := by
                      show _ = _; rw [C34.out, Tx.field_q, TQ'.out]; simp [drop_end s (i + 1) (by omega), Tx.ends]
                    by_cases hm : 24 < acc.length ∨ 12 < out.length + 1
                    · have G0 : Hid (G = ([], 2)) := Tx.rel_many HS.out (drop_lt s k) SK'.out C35.out HF.out hm
                      go_wp2_with (first | (at_builtin; refine wpList_append_own _ rfl _ _ 80 rfl w.heap.size 9 i0 (.string ⟨#[]⟩) 1 16 Tryz.underlying80 hi hz0 hz1 hz2 rfl (by decide) _ _ _ rfl (hown.alloc _) _ 1 1 [strV acc] rfl rfl (one_cell _ _) (by simp [Value.oneCell']) (by unfold maxLen; omega) (by omega) (by simp; have := hb.size; omega) ?_))
                      intro v' w3 hown' hgrow _
                      obtain ⟨hown2, hb2⟩ := app_rel hb.size hown hb hown' hgrow
                      obtain ⟨g, cap, hv⟩ := owns_shape hown'
                      rw [hv]
                      clear hown' hgrow hown2 hown
                      rcases hm with hm | hm
                      · go_wp2
                        go_ret2
                        rw [G0.out]
                        exact ⟨_, rfl, World.ownsRow_nil _ _ _ _, hb2⟩
                      · by_cases hm2 : 24 < acc.length
                        all_goals
                          go_wp2
                          go_ret2
                          rw [G0.out]
                          exact ⟨_, rfl, World.ownsRow_nil _ _ _ _, hb2⟩
                    · have HR : Hid (Tx.Rel G (out ++ [acc]) (Tx.fields (s.size + 1) (out ++ [acc]).length (s.data.toList.drop (i + 1)))) := by
                        have := Tx.rel_next HS.out (drop_lt s k) SK'.out C35.out HF.out hm
                        show Tx.Rel _ _ _
                        simpa using this
                      have hm1 : acc.length ≤ 24 := by omega
                      have hm2 : out.length + 1 ≤ 12 := by omega
                      clear hm
                      go_wp2_with (first | (at_builtin; refine wpList_append_own _ rfl _ _ 80 rfl w.heap.size 9 i0 (.string ⟨#[]⟩) 1 16 Tryz.underlying80 hi hz0 hz1 hz2 rfl (by decide) _ _ _ rfl (hown.alloc _) _ 1 1 [strV acc] rfl rfl (one_cell _ _) (by simp [Value.oneCell']) (by unfold maxLen; omega) (by omega) (by simp; have := hb.size; omega) ?_))
                      intro v' w3 hown' hgrow _
                      obtain ⟨hown2, hb2⟩ := app_rel hb.size hown hb hown' hgrow
                      obtain ⟨g, cap, hv⟩ := owns_shape hown'
                      rw [hv] at hown2 ⊢
                      clear hown' hgrow hown
                      go_wp2
                      go_roundw
                      case rel => exact ⟨i + 1, out ++ [acc], by omega, by go_num, by simp; omega, hown2, hb2, HR⟩
                      case measure => simp [intOf]; omega

                · have D34 := hid d34
                  have e34 : ((d.toNat : Int) != 34) = true := by have := u8_eq d 34; simp at this; simp [bne, this, d34]
                  clear d34
                  cases ht : Tx.txt d
                  · have HT := hid ht
                    clear ht
                    have G0 : Hid (G = ([], 1)) := Tx.rel_form HS.out (drop_lt s k) SK'.out C35.out (by rw [C34.out, Tx.field_q, TQ.out, DD.out, Tx.tq_bad _ _ D34.out HT.out]; rfl)
                    go_wp2_with (go_at_call 78; refine (isPlain_any _ _).mono ?_; rintro e w9 ⟨rfl, rfl⟩; rw [HT.out])
                    go_ret2
                    rw [G0.out]
                    exact ⟨_, rfl, World.ownsRow_nil _ _ _ _, hb⟩
                  · have HT := hid ht
                    clear ht
                    go_wp2_with (go_at_call 78; refine (isPlain_any _ _).mono ?_; rintro e w9 ⟨rfl, rfl⟩; rw [HT.out])
                    go_round
                    case rel => exact ⟨i + 1, acc ++ [s[i]], by omega, by omega, by go_num, by rw [str_snoc acc s i hi'], by simp; omega, by show _ = _; rw [TQ.out, DD.out, Tx.tq_go _ _ D34.out HT.out, hd]; cases Tx.tq (s.data.toList.drop (i + 1)) <;> simp⟩
                    case measure => simp [intOf]; omega
              · have G0 : Hid (G = ([], 1)) := Tx.rel_form HS.out (drop_lt s k) SK'.out C35.out (by rw [C34.out, Tx.field_q, TQ.out, drop_end s i (by omega)]; rfl)
                have his : ((i : Int) == (s.size : Int)) = true := by simp; omega
                go_wp2
                go_ret2
                rw [G0.out]
                exact ⟨_, rfl, World.ownsRow_nil _ _ _ _, hb⟩
          · have C34 := hid c34
            have e34 : ((c.toNat : Int) == 34) = false := by have := u8_eq c 34; simp at this; simp [this, c34]
            clear c34
            go_wp2_with (go_at_call 50; refine (isBlank_any _ _).mono ?_; rintro e w9 ⟨rfl, rfl⟩; rw [HGp.out])
            go_loop [5, 6] (fun a f => ∃ (i : Nat) (acc : Tx.Bs), j ≤ i ∧ i ≤ s.size ∧ a = .int .i64 i ∧ f = strV acc ∧ acc.length ≤ i ∧ (j = i → acc = []) ∧ Hid (Tx.tu (s.data.toList.drop j) = (Tx.tu (s.data.toList.drop i)).map fun p => (acc ++ p.1, p.2))) (fun a _ => s.size - (intOf a).toNat)
            case atStart => exact ⟨j, [], by omega, by omega, by go_num, rfl, by simp, fun _ => rfl, by show _ = _; cases Tx.tu (s.data.toList.drop j) <;> rfl⟩
            case round =>
              obtain ⟨i, acc, i1, i2, rfl, rfl, ia, i0', TU⟩ := hrel
              have I0 := hid i0'
              clear e34 e35 hjs i0'
              by_cases hi' : i < s.size
              · obtain ⟨d, hd⟩ : ∃ d, s[i] = d := ⟨_, rfl⟩
                have DD : Hid (s.data.toList.drop i = d :: s.data.toList.drop (i + 1)) := by show _ = _; rw [drop_cons s i hi', hd]
                cases hgg : Tx.gap d
                · have HG2 := hid hgg
                  clear hgg
                  by_cases d35 : d = 35
                  · have HF : Hid (Tx.field (c :: s.data.toList.drop (j + 1)) = some (acc, s.data.toList.drop i)) := by
                      show _ = _; rw [Tx.field_u _ _ C34.out, ← DC.out, TU.out, DD.out, Tx.tu_end _ _ (.inr d35)]; simp
                    have hij : j < i := by
                      rcases Nat.lt_or_ge j i with q | q
                      · exact q
                      · have e : j = i := by omega
                        subst e
                        exact absurd (hc.symm.trans hd |>.trans d35) C35.out
                    have e35 : ((d.toNat : Int) != 35) = false := by rw [d35]; rfl
                    clear d35 hc
                    by_cases hm : 24 < acc.length ∨ 12 < out.length + 1
                    · have G0 : Hid (G = ([], 2)) := Tx.rel_many HS.out (drop_lt s k) SK'.out C35.out HF.out hm
                      go_wp2_with (first | (go_at_call 50; refine (isBlank_any _ _).mono ?_; rintro e w9 ⟨rfl, rfl⟩; rw [HG2.out]) | (at_builtin; refine wpList_append_own _ rfl _ _ 80 rfl w.heap.size 9 i0 (.string ⟨#[]⟩) 1 16 Tryz.underlying80 hi hz0 hz1 hz2 rfl (by decide) _ _ _ rfl (hown.alloc _) _ 1 1 [strV acc] rfl rfl (one_cell _ _) (by simp [Value.oneCell']) (by unfold maxLen; omega) (by omega) (by simp; have := hb.size; omega) ?_))
                      intro v' w3 hown' hgrow _
                      obtain ⟨hown2, hb2⟩ := app_rel hb.size hown hb hown' hgrow
                      obtain ⟨g, cap, hv⟩ := owns_shape hown'
                      rw [hv]
                      clear hown' hgrow hown2 hown
                      rcases hm with hm | hm
                      · go_wp2
                        go_ret2
                        rw [G0.out]
                        exact ⟨_, rfl, World.ownsRow_nil _ _ _ _, hb2⟩
                      · by_cases hm2 : 24 < acc.length
                        all_goals
                          go_wp2
                          go_ret2
                          rw [G0.out]
                          exact ⟨_, rfl, World.ownsRow_nil _ _ _ _, hb2⟩
                    · have HR : Hid (Tx.Rel G (out ++ [acc]) (Tx.fields (s.size + 1) (out ++ [acc]).length (s.data.toList.drop (i)))) := by
                        have := Tx.rel_next HS.out (drop_lt s k) SK'.out C35.out HF.out hm
                        show Tx.Rel _ _ _
                        simpa using this
                      have hm1 : acc.length ≤ 24 := by omega
                      have hm2 : out.length + 1 ≤ 12 := by omega
                      clear hm
                      go_wp2_with (first | (go_at_call 50; refine (isBlank_any _ _).mono ?_; rintro e w9 ⟨rfl, rfl⟩; rw [HG2.out]) | (at_builtin; refine wpList_append_own _ rfl _ _ 80 rfl w.heap.size 9 i0 (.string ⟨#[]⟩) 1 16 Tryz.underlying80 hi hz0 hz1 hz2 rfl (by decide) _ _ _ rfl (hown.alloc _) _ 1 1 [strV acc] rfl rfl (one_cell _ _) (by simp [Value.oneCell']) (by unfold maxLen; omega) (by omega) (by simp; have := hb.size; omega) ?_))
                      intro v' w3 hown' hgrow _
                      obtain ⟨hown2, hb2⟩ := app_rel hb.size hown hb hown' hgrow
                      obtain ⟨g, cap, hv⟩ := owns_shape hown'
                      rw [hv] at hown2 ⊢
                      clear hown' hgrow hown
                      go_wp2
                      go_roundw
                      case rel => exact ⟨i, out ++ [acc], by omega, by go_num, by simp; omega, hown2, hb2, HR⟩
                      case measure => simp [intOf]; omega

                  · have D35 := hid d35
                    have e35 : ((d.toNat : Int) != 35) = true := by have := u8_eq d 35; simp at this; simp [bne, this, d35]
                    clear d35 hc
                    cases ht : Tx.txt d
                    · have HT := hid ht
                      clear ht
                      have G0 : Hid (G = ([], 1)) := Tx.rel_form HS.out (drop_lt s k) SK'.out C35.out (by rw [Tx.field_u _ _ C34.out, ← DC.out, TU.out, DD.out, Tx.tu_bad _ _ HG2.out D35.out (.inl HT.out)]; rfl)
                      go_wp2_with (first | (go_at_call 50; refine (isBlank_any _ _).mono ?_; rintro e w9 ⟨rfl, rfl⟩; rw [HG2.out]) | (go_at_call 78; refine (isPlain_any _ _).mono ?_; rintro e w9 ⟨rfl, rfl⟩; rw [HT.out]))
                      go_ret2
                      rw [G0.out]
                      exact ⟨_, rfl, World.ownsRow_nil _ _ _ _, hb⟩
                    · have HT := hid ht
                      clear ht
                      by_cases d34 : d = 34
                      · have G0 : Hid (G = ([], 1)) := Tx.rel_form HS.out (drop_lt s k) SK'.out C35.out (by rw [Tx.field_u _ _ C34.out, ← DC.out, TU.out, DD.out, Tx.tu_bad _ _ HG2.out D35.out (.inr d34)]; rfl)
                        have e34 : ((d.toNat : Int) == 34) = true := by rw [d34]; rfl
                        clear d34
                        go_wp2_with (first | (go_at_call 50; refine (isBlank_any _ _).mono ?_; rintro e w9 ⟨rfl, rfl⟩; rw [HG2.out]) | (go_at_call 78; refine (isPlain_any _ _).mono ?_; rintro e w9 ⟨rfl, rfl⟩; rw [HT.out]))
                        go_ret2
                        rw [G0.out]
                        exact ⟨_, rfl, World.ownsRow_nil _ _ _ _, hb⟩
                      · have D34 := hid d34
                        have e34 : ((d.toNat : Int) == 34) = false := by have := u8_eq d 34; simp at this; simp [this, d34]
                        clear d34
                        go_wp2_with (first | (go_at_call 50; refine (isBlank_any _ _).mono ?_; rintro e w9 ⟨rfl, rfl⟩; rw [HG2.out]) | (go_at_call 78; refine (isPlain_any _ _).mono ?_; rintro e w9 ⟨rfl, rfl⟩; rw [HT.out]))
                        go_round
                        case rel => exact ⟨i + 1, acc ++ [s[i]], by omega, by omega, by go_num, by rw [str_snoc acc s i hi'], by simp; omega, fun q => by omega, by show _ = _; rw [TU.out, DD.out, Tx.tu_go _ _ HG2.out D35.out HT.out D34.out, hd]; cases Tx.tu (s.data.toList.drop (i + 1)) <;> simp⟩
                        case measure => simp [intOf]; omega
                · have HG2 := hid hgg
                  have HF : Hid (Tx.field (c :: s.data.toList.drop (j + 1)) = some (acc, s.data.toList.drop i)) := by
                    show _ = _; rw [Tx.field_u _ _ C34.out, ← DC.out, TU.out, DD.out, Tx.tu_end _ _ (.inl hgg)]; simp
                  have hij : j < i := by
                    rcases Nat.lt_or_ge j i with q | q
                    · exact q
                    · have e : j = i := by omega
                      subst e
                      have e2 : c = d := hc.symm.trans hd
                      rw [e2] at HGp
                      rw [HGp.out] at hgg; cases hgg
                  clear hgg hc
                  by_cases hm : 24 < acc.length ∨ 12 < out.length + 1
                  · have G0 : Hid (G = ([], 2)) := Tx.rel_many HS.out (drop_lt s k) SK'.out C35.out HF.out hm
                    go_wp2_with (first | (go_at_call 50; refine (isBlank_any _ _).mono ?_; rintro e w9 ⟨rfl, rfl⟩; rw [HG2.out]) | (at_builtin; refine wpList_append_own _ rfl _ _ 80 rfl w.heap.size 9 i0 (.string ⟨#[]⟩) 1 16 Tryz.underlying80 hi hz0 hz1 hz2 rfl (by decide) _ _ _ rfl (hown.alloc _) _ 1 1 [strV acc] rfl rfl (one_cell _ _) (by simp [Value.oneCell']) (by unfold maxLen; omega) (by omega) (by simp; have := hb.size; omega) ?_))
                    intro v' w3 hown' hgrow _
                    obtain ⟨hown2, hb2⟩ := app_rel hb.size hown hb hown' hgrow
                    obtain ⟨g, cap, hv⟩ := owns_shape hown'
                    rw [hv]
                    clear hown' hgrow hown2 hown
                    rcases hm with hm | hm
                    · go_wp2
                      go_ret2
                      rw [G0.out]
                      exact ⟨_, rfl, World.ownsRow_nil _ _ _ _, hb2⟩
                    · by_cases hm2 : 24 < acc.length
                      all_goals
                        go_wp2
                        go_ret2
                        rw [G0.out]
                        exact ⟨_, rfl, World.ownsRow_nil _ _ _ _, hb2⟩
                  · have HR : Hid (Tx.Rel G (out ++ [acc]) (Tx.fields (s.size + 1) (out ++ [acc]).length (s.data.toList.drop (i)))) := by
                      have := Tx.rel_next HS.out (drop_lt s k) SK'.out C35.out HF.out hm
                      show Tx.Rel _ _ _
                      simpa using this
                    have hm1 : acc.length ≤ 24 := by omega
                    have hm2 : out.length + 1 ≤ 12 := by omega
                    clear hm
                    go_wp2_with (first | (go_at_call 50; refine (isBlank_any _ _).mono ?_; rintro e w9 ⟨rfl, rfl⟩; rw [HG2.out]) | (at_builtin; refine wpList_append_own _ rfl _ _ 80 rfl w.heap.size 9 i0 (.string ⟨#[]⟩) 1 16 Tryz.underlying80 hi hz0 hz1 hz2 rfl (by decide) _ _ _ rfl (hown.alloc _) _ 1 1 [strV acc] rfl rfl (one_cell _ _) (by simp [Value.oneCell']) (by unfold maxLen; omega) (by omega) (by simp; have := hb.size; omega) ?_))
                    intro v' w3 hown' hgrow _
                    obtain ⟨hown2, hb2⟩ := app_rel hb.size hown hb hown' hgrow
                    obtain ⟨g, cap, hv⟩ := owns_shape hown'
                    rw [hv] at hown2 ⊢
                    clear hown' hgrow hown
                    go_wp2
                    go_roundw
                    case rel => exact ⟨i, out ++ [acc], by omega, by go_num, by simp; omega, hown2, hb2, HR⟩
                    case measure => simp [intOf]; omega

              · have HF : Hid (Tx.field (c :: s.data.toList.drop (j + 1)) = some (acc, s.data.toList.drop i)) := by
                  show _ = _; rw [Tx.field_u _ _ C34.out, ← DC.out, TU.out, drop_end s i (by omega)]; simp [Tx.tu]
                have hij : j < i := by omega
                clear hc
                by_cases hm : 24 < acc.length ∨ 12 < out.length + 1
                · have G0 : Hid (G = ([], 2)) := Tx.rel_many HS.out (drop_lt s k) SK'.out C35.out HF.out hm
                  go_wp2_with (first | (at_builtin; refine wpList_append_own _ rfl _ _ 80 rfl w.heap.size 9 i0 (.string ⟨#[]⟩) 1 16 Tryz.underlying80 hi hz0 hz1 hz2 rfl (by decide) _ _ _ rfl (hown.alloc _) _ 1 1 [strV acc] rfl rfl (one_cell _ _) (by simp [Value.oneCell']) (by unfold maxLen; omega) (by omega) (by simp; have := hb.size; omega) ?_))
                  intro v' w3 hown' hgrow _
                  obtain ⟨hown2, hb2⟩ := app_rel hb.size hown hb hown' hgrow
                  obtain ⟨g, cap, hv⟩ := owns_shape hown'
                  rw [hv]
                  clear hown' hgrow hown2 hown
                  rcases hm with hm | hm
                  · go_wp2
                    go_ret2
                    rw [G0.out]
                    exact ⟨_, rfl, World.ownsRow_nil _ _ _ _, hb2⟩
                  · by_cases hm2 : 24 < acc.length
                    all_goals
                      go_wp2
                      go_ret2
                      rw [G0.out]
                      exact ⟨_, rfl, World.ownsRow_nil _ _ _ _, hb2⟩
                · have HR : Hid (Tx.Rel G (out ++ [acc]) (Tx.fields (s.size + 1) (out ++ [acc]).length (s.data.toList.drop (i)))) := by
                    have := Tx.rel_next HS.out (drop_lt s k) SK'.out C35.out HF.out hm
                    show Tx.Rel _ _ _
                    simpa using this
                  have hm1 : acc.length ≤ 24 := by omega
                  have hm2 : out.length + 1 ≤ 12 := by omega
                  clear hm
                  go_wp2_with (first | (at_builtin; refine wpList_append_own _ rfl _ _ 80 rfl w.heap.size 9 i0 (.string ⟨#[]⟩) 1 16 Tryz.underlying80 hi hz0 hz1 hz2 rfl (by decide) _ _ _ rfl (hown.alloc _) _ 1 1 [strV acc] rfl rfl (one_cell _ _) (by simp [Value.oneCell']) (by unfold maxLen; omega) (by omega) (by simp; have := hb.size; omega) ?_))
                  intro v' w3 hown' hgrow _
                  obtain ⟨hown2, hb2⟩ := app_rel hb.size hown hb hown' hgrow
                  obtain ⟨g, cap, hv⟩ := owns_shape hown'
                  rw [hv] at hown2 ⊢
                  clear hown' hgrow hown
                  go_wp2
                  go_roundw
                  case rel => exact ⟨i, out ++ [acc], by omega, by go_num, by simp; omega, hown2, hb2, HR⟩
                  case measure => simp [intOf]; omega

        · have HGp := hid hg
          clear hg
          go_wp2_with (go_at_call 50; refine (isBlank_any _ _).mono ?_; rintro e w9 ⟨rfl, rfl⟩; rw [HGp.out])
          go_round
          case rel => exact ⟨j + 1, by omega, by omega, by go_num, by show _ = _; rw [SK.out, DC.out]; simp [Tx.skip, HGp.out]⟩
          case measure => simp [intOf]; omega
      · have hj' : s.size = j := by omega
        have G0 : Hid (G = (out, 0)) := Tx.rel_end HS.out (drop_lt s k) (.inl (by rw [SK.out, drop_end s j (by omega)]; rfl))
        go_wp2
        go_ret2
        rw [G0.out]
        exact ⟨_, rfl, hown, hb⟩
end Go.Proofs.YtdekggmaeoeccaaGreat
