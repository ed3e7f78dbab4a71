/- Part of the proof: Tml Tb TbM Zn Zw Zs Zo Zc Zb SkT PaP. -/
import Derived.Test.YtkhlkohlccndgaaGreatQz
import Derived.Test.YtkhlkohlccndgaaGreatQak
import Derived.Maps.AppendAt
import Derived.Test.YtkhlkohlccndgaaGreatQaa
import Derived.Test.YtkhlkohlccndgaaGreatQai
import Derived.Maps.OwnIn
import Derived.Maps.Views
import Derived.StringKeys
import Derived.Test.YtkhlkohlccndgaaGreatQah
set_option linter.unusedVariables false
set_option linter.unusedSimpArgs false
set_option maxRecDepth 100000
set_option maxHeartbeats 16000000
namespace Go.Proofs.YtkhlkohlccndgaaGreat
section
open Go.RowKit Go.Shelf
attribute [local go_sem] Oper.semAt_some

theorem Qm {β : Type} {B n0 Bs g L size : Nat} {t e : TypeId} (k : β → Nat) (xs : β → List Value) (hBs : Bs < B) (hg : g < B) :
  dx B (fun (s : β) W => Boxed W Bs t (.slice (some ⟨g, 0, none⟩) (k s) L) ∧ W.ownsRow n0 e size (.slice (some ⟨g, 0, none⟩) (k s) L) (k s) (xs s)) :=
 fun s W W' row hs hgr hr => ⟨hs.1.kept hgr (fun q => by have := (hr Bs q.symm).1; omega), hs.2.kept hgr (.inr fun q => by have := (hr g q.symm).1; omega)⟩
def wu (N Bx : Nat) (shift : Int) (p t : Sx.Tn) (w : World) : Prop := w.cell? ⟨N, 0, none⟩ = some (.int .i64 shift) ∧ w.cell? ⟨Bx, 0, none⟩ = some (.int .i64 p.stands) ∧ w.cell? ⟨Bx, 1, none⟩ = some (.int .i64 p.clock) ∧ w.cell? ⟨Bx, 2, none⟩ = some (.int .i64 p.save) ∧ w.cell? ⟨Bx, 3, none⟩ = some (af p.letter) ∧ w.cell? ⟨Bx, 4, none⟩ = some (.int .i64 t.stands) ∧ w.cell? ⟨Bx, 5, none⟩ = some (.int .i64 t.clock) ∧ w.cell? ⟨Bx, 6, none⟩ = some (.int .i64 t.save) ∧ w.cell? ⟨Bx, 7, none⟩ = some (af t.letter)
theorem lT {N Bx : Nat} {shift : Int} {p t : Sx.Tn} {A B : World} (h : wu N Bx shift p t A) (hb : Below A.heap.size A B) (hN : N < A.heap.size) (hx : Bx < A.heap.size) : wu N Bx shift p t B := by
 obtain ⟨a, b0, b1, b2, b3, b4, b5, b6, b7⟩ := h
 have e := fun k => hb.cell (p := ⟨Bx, k, none⟩) hx
 exact ⟨(hb.cell (p := ⟨N, 0, none⟩) hN).trans a, (e 0).trans b0, (e 1).trans b1, (e 2).trans b2, (e 3).trans b3, (e 4).trans b4, (e 5).trans b5, (e 6).trans b6, (e 7).trans b7⟩
theorem sj {N Bx g : Nat} {shift : Int} {p t : Sx.Tn} {A B : World} (h : wu N Bx shift p t A) (hb : A.grownBy B (some g)) (hN : N < A.heap.size) (hx : Bx < A.heap.size) (n1 : N ≠ g) (n2 : Bx ≠ g) : wu N Bx shift p t B := by
 obtain ⟨a, b0, b1, b2, b3, b4, b5, b6, b7⟩ := h
 have e : ∀ k, B.cell? ⟨Bx, k, none⟩ = A.cell? ⟨Bx, k, none⟩ := fun k => World.cell?_of_block (w := A) (hb.block _ hx (by intro q; exact n2 (by injection q)))
 have e' : B.cell? ⟨N, 0, none⟩ = A.cell? ⟨N, 0, none⟩ := World.cell?_of_block (w := A) (hb.block _ hN (by intro q; exact n1 (by injection q)))
 exact ⟨e'.trans a, (e 0).trans b0, (e 1).trans b1, (e 2).trans b2, (e 3).trans b3, (e 4).trans b4, (e 5).trans b5, (e 6).trans b6, (e 7).trans b7⟩
theorem yZ {N Bx g : Nat} {shift : Int} {p t : Sx.Tn} {A : World} {v : Value} (h : wu N Bx shift p t A) (n1 : N ≠ g) (n2 : Bx ≠ g) : wu N Bx shift p t (A.setCell ⟨g, 0, none⟩ v) := by
 obtain ⟨a, b0, b1, b2, b3, b4, b5, b6, b7⟩ := h
 have e : ∀ k, (A.setCell ⟨g, 0, none⟩ v).cell? ⟨Bx, k, none⟩ = A.cell? ⟨Bx, k, none⟩ := fun k => World.cell?_of_block (w := A) (Below.heap_setCell _ _ _ _ n2)
 have e' : (A.setCell ⟨g, 0, none⟩ v).cell? ⟨N, 0, none⟩ = A.cell? ⟨N, 0, none⟩ := World.cell?_of_block (w := A) (Below.heap_setCell _ _ _ _ n1)
 exact ⟨e'.trans a, (e 0).trans b0, (e 1).trans b1, (e 2).trans b2, (e 3).trans b3, (e 4).trans b4, (e 5).trans b5, (e 6).trans b6, (e 7).trans b7⟩
theorem Di {G Bs N L k : Nat} {tT T : TypeId} {w4 W w7 w9 : World} {tmp o : Obj} {xs news : List Value} (ib : Boxed W Bs tT (.slice (some ⟨G, 0, none⟩) k L)) (ir : W.ownsRow G T 3 (.slice (some ⟨G, 0, none⟩) k L) k xs)
  (iN : W.heap[N]? = some o) (iB : Below G w4 W) (BB : Below W.heap.size W w7) (hGB : G < Bs) (hNG : N < G) (hte : tT ≠ T)
  (hown9 : w9.ownsRow G T 3 (.slice (some ⟨G, 0, none⟩) (k + 1) L) (k + 1) (xs ++ news)) (hgrow9 : (w7.alloc tmp).grownBy w9 (some G)) :
  Boxed w9 Bs tT (.slice (some ⟨G, 0, none⟩) k L) ∧ KeepsOthers W (w9.setCell ⟨Bs, 0, none⟩ (.slice (some ⟨G, 0, none⟩) (k + 1) L)) ∧ Kp G T Bs W (w9.setCell ⟨Bs, 0, none⟩ (.slice (some ⟨G, 0, none⟩) (k + 1) L)) ∧
  Boxed (w9.setCell ⟨Bs, 0, none⟩ (.slice (some ⟨G, 0, none⟩) (k + 1) L)) Bs tT (.slice (some ⟨G, 0, none⟩) (k + 1) L) ∧ (w9.setCell ⟨Bs, 0, none⟩ (.slice (some ⟨G, 0, none⟩) (k + 1) L)).ownsRow G T 3 (.slice (some ⟨G, 0, none⟩) (k + 1) L) (k + 1) (xs ++ news) ∧
  (w9.setCell ⟨Bs, 0, none⟩ (.slice (some ⟨G, 0, none⟩) (k + 1) L)).heap[N]? = some o ∧ Below G w4 (w9.setCell ⟨Bs, 0, none⟩ (.slice (some ⟨G, 0, none⟩) (k + 1) L)) := by
 have lb := ib.lt
 have ib7 : Boxed w7 Bs tT (.slice (some ⟨G, 0, none⟩) k L) := (BB.block _ lb).trans ib
 have r7 := aJ ir BB
 obtain ⟨q1, q2, q3, q4, q5⟩ := ib7.appended hte r7 (by have := BB.size; omega) (Nat.le_of_lt hGB) hown9 hgrow9
 have lN := (q4A.1 iN).1
 have n7 := (BB.block _ lN).trans iN
 have bw : Below G W (w9.setCell ⟨Bs, 0, none⟩ (.slice (some ⟨G, 0, none⟩) (k + 1) L)) := (BB.mono (by omega)).trans q5
 exact ⟨q1, (dI BB).trans q4, ⟨bw, DN (xL BB (Nat.le_refl _)).2 (Ca r7 hgrow9)⟩, q2, q3, (q5.block _ hNG).trans n7, iB.trans bw⟩
theorem Kn (rs : List Sx.Rl) (rv : Value) (name : Tx.Bs) (shift : Int) (w : World) (h : bN w rv rs) (hs : ∀ r ∈ rs, r.name.length ≤ maxLen ∧ r.letter.length ≤ maxLen) (hT : Sx.aY rs name shift = 0) :
  Calls Tryz.prog 28 #[rv, af name, .int .i64 shift] w (mW rs name shift w) := by
 obtain ⟨ra, rcap, rfl⟩ := bQ h
 have HO := hid (Sx.uP hT)
 have BV := hid ((q4B w.heap.size w).alloc (Nat.le_refl _) (.cells #[.int .i64 shift] 3))
 have SV := hid (World.alloc_heap_new w (.cells #[.int .i64 shift] 3))
 have C := hid (jf rs _ _ (au h BV.out) hs)
 have HOK := hid (Sx.src_ok HO.out.src)
 have HE := hid HO.out.src
 rw [HE.out] at C
 have H := hid h
 have n1 : ¬ shift < -64800 := by have := HO.out.s1; omega
 have n2 : ¬ 64800 < shift := by have := HO.out.s2; omega
 have HT := hid hT
 clear h hs hT
 refine (callsIn_wide (n := 4)).1 ?_
 refine callsIn_of_wp_marks Tryz.func28 rfl trivial ?_ rfl
 simp only [Tryz.ntmps28, List.size_toArray, List.length_cons, List.length_nil, Nat.reduceAdd, Nat.reduceSub, Array.replicate_succ, Array.replicate_zero, List.push_toArray, List.append_toArray, List.nil_append, List.cons_append]
 gi_wp2_with fail
 refine ⟨trivial, (callsIn_wide.2 C.out).mono ?_⟩
 rintro e w1 ⟨rfl, hb⟩
 have S1 := (hb.block _ (q4A.1 SV.out).1).trans SV.out
 obtain ⟨t0, t1⟩ := aa (aj (vs := [.int .i64 shift]) S1) 0 rfl
 have B1 : Hid (Below w.heap.size w w1) := BV.out.trans (hb.mono BV.out.size)
 have ss := (q4A.1 S1).1
 have HS1 := hid S1
 have L1 : Hid (w.heap.size < w1.heap.size) := ss
 clear hb S1 C SV BV
 gi_wp2_with fail
 refine ⟨trivial, (callsIn_wide.2 (Da _ _ _ ra rs.length rcap rfl)).mono ?_⟩
 rintro e w2 ⟨rfl, hw2⟩
 have q1 : w2.cell? ⟨w1.heap.size, 0, none⟩ = some (.slice ra rs.length rcap) := by
  have := aa (aH (aC w1 [.slice ra rs.length rcap] 22) (.cells #[af name] 9)) 0 rfl
  rw [hw2]; exact this.1
 have q2 : w2.cell? ⟨w1.heap.size + 1, 0, none⟩ = some (af name) := by
  have := aa (aC (w1.alloc (.cells #[.slice ra rs.length rcap] 22)) [af name] 9) 0 rfl
  rw [World.size_alloc] at this
  rw [hw2]; exact this.1
 have z2 : w2.heap.size = w1.heap.size + 2 := by rw [hw2]; simp
 have B12 : Below w1.heap.size w1 w2 := by
  rw [hw2]; exact ((q4B _ w1).alloc (Nat.le_refl _) _).alloc (by simp) _
 have B2 : Hid (Below w.heap.size w w2) := B1.out.trans (B12.mono B1.out.size)
 have S2 := hid ((B12.block _ L1.out).trans HS1.out)
 have L2 : Hid (w.heap.size < w2.heap.size) := q4N L1.out B12.size
 have C2 := hid (uC w1.heap.size (w1.heap.size + 1) rs name ra rcap w2 (au H.out B2.out) HOK.out.2 HOK.out.1 q1 q2 (by omega) (by omega))
 clear hw2 q1 q2 z2 t0 t1 ss HS1 B12 B1 L1
 gi_wp2_with fail
 refine ⟨trivial, (callsIn_wide.2 C2.out).mono ?_⟩
 rintro e w3 ⟨v, o, rfl, hord, hrd, hb⟩
 have B3 : Hid (Below w.heap.size w w3) := B2.out.trans (hb.mono B2.out.size)
 have S3 := hid ((hb.block _ L2.out).trans S2.out)
 have L3 : Hid (w.heap.size < w3.heap.size) := q4N L2.out hb.size
 have KT := hid (C8 HE.out HO.out.s1 HO.out.s2 hord)
 have HB := hid (fun t ht => Sx.Ah HOK.out.2 t (hord.1.mem_iff.1 ht))
 have HL : Hid (o.length ≤ 10000) := by show _ ≤ _; have := hord.1.length_eq; have := wh (name := name) HOK.out.2 HOK.out.1; omega
 have HSV : Hid (∀ t ∈ o, 0 ≤ t.save ∧ t.save ≤ 10800) := fun t ht => Sx.sU (fun r hr => (HOK.out.2 r hr).save) t (hord.1.mem_iff.1 ht)
 have C3 := hid (pE o v w3 hrd HL.out HB.out)
 have hE0 : kg o = 0 := KT.out.1.trans HT.out
 have KX : Hid (Sx.times rs name shift = (Sx.bY o).map (Sx.CJ shift)) := KT.out.2 hE0
 rw [hE0] at C3
 obtain ⟨oa, oc, rfl⟩ := bQ hrd
 have RD3 := hid hrd
 clear hE0 KT hord hrd hb C2 S2 L2 B2
 gi_wp2_with fail
 refine ⟨trivial, (callsIn_wide.2 C3.out).mono ?_⟩
 rintro e w4 ⟨rfl, hb⟩
 have B4 : Hid (Below w.heap.size w w4) := B3.out.trans (hb.mono B3.out.size)
 have S4 := hid ((hb.block _ L3.out).trans S3.out)
 have L4 : Hid (w.heap.size < w4.heap.size) := q4N L3.out hb.size
 have RD4 := hid (au RD3.out hb)
 clear hb C3 RD3 S3 L3 B3
 obtain ⟨i0, hi, hz0, hz1, hz2⟩ := info_parts Tryz.FH
 have hl := HL.out
 gi_wp2_with (gi_at_make; refine wpListIn_make_own _ rfl _ _ 68 rfl w4.heap.size 72 i0 (.agg #[.int .i64 0, .int .i64 0, .string ⟨#[]⟩]) 3 Tryz.underlying68 hi hz0 hz1 _ _ _ o.length rfl rfl rfl (by rw [hz2]; omega) (by unfold maxLen; omega) (Nat.le_refl _) ?_; intro w5 hown5 hgrow5)
 refine ⟨trivial, (callsIn_wide.2 (qO oa o.length oc _)).mono ?_⟩
 rintro e w6 ⟨rfl, rfl⟩
 obtain ⟨G, hG⟩ : ∃ G, w4.heap.size = G := ⟨_, rfl⟩
 obtain ⟨Bs, hBs⟩ : ∃ Bs, w5.heap.size = Bs := ⟨_, rfl⟩
 obtain ⟨N, hN⟩ : ∃ N, w.heap.size = N := ⟨_, rfl⟩
 obtain ⟨Nt, hNt⟩ : ∃ Nt, w1.heap.size = Nt := ⟨_, rfl⟩
 have hGB : G < Bs := by
  rcases hown5.2 with ⟨h0, _⟩ | ⟨g, cap, cur, h0, _, hg, _⟩
  ·cases h0
  ·simp only [Value.slice.injEq, Option.some.injEq, Addr.mk.injEq] at h0
   rw [← h0.1.1] at hg
   have := (q4A.1 hg).1
   omega
 have hNG : N < G := by rw [← hN, ← hG]; exact L4.out
 have B5 : Below G w4 w5 := (q4B G w4).grown hgrow5 (by omega) (fun k e => by cases e)
 have S5 := (B5.block N hNG).trans (hN ▸ S4.out)
 rw [hG, hBs, hN, hNt]
 rw [show (w5.alloc (.cells #[.slice (some ⟨G, 0, none⟩) 0 o.length] 68)).heap.size = Bs + 1 by simp [hBs]]
 rw [hG] at hown5
 obtain ⟨V, hV⟩ : ∃ V, ((w5.alloc (.cells #[.slice (some ⟨G, 0, none⟩) 0 o.length] 68)).alloc (.cells #[.slice oa o.length oc] 110)) = V := ⟨_, rfl⟩
 rw [hV]
 have vS : V.heap.size = Bs + 2 := by rw [← hV]; simp [hBs]
 have vN : V.heap[N]? = some (.cells #[.int .i64 shift] 3) := by rw [← hV, Below.heap_alloc _ _ _ (by simp; omega), Below.heap_alloc _ _ _ (by omega)]; exact S5
 have vb : Boxed V Bs 68 (.slice (some ⟨G, 0, none⟩) 0 o.length) := by rw [← hV, ← hBs]; exact (Boxed.new w5 _ _).alloc _
 have vr : V.ownsRow G 72 3 (.slice (some ⟨G, 0, none⟩) 0 o.length) 0 [] := by rw [← hV]; exact (hown5.alloc _).alloc _
 have vo : V.cell? ⟨Bs + 1, 0, none⟩ = some (.slice oa o.length oc) := by
  have := aa (aC (w5.alloc (.cells #[.slice (some ⟨G, 0, none⟩) 0 o.length] 68)) [.slice oa o.length oc] 110) 0 rfl
  rw [World.size_alloc, hBs] at this
  rw [← hV]; exact this.1
 have vB : Below G w4 V := by rw [← hV]; exact (B5.alloc (by omega) _).alloc (by simp; omega) _
 have HGG := hid hG
 have HNN := hid hN
 clear hV hown5 hgrow5 S5 B5 hNt hBs S4 L4
 gi_wp2
 refine jF rfl (by omega) (gf := 131) (lb := #[.pointer (some ⟨Bs + 1, 0, none⟩)]) rfl trivial (enters_of Tryz.func131 (by kernel_rfl) rfl)
  (xe 3 (Bs + 1) Bs (by omega) o oa oc w4 V RD4.out HL.out vo (by omega) (by omega) (hG ▸ vB)) SQ (SI (by omega)) (q4B _ _) (fun _ => rfl)
  (fun (pre : List (Sx.Tn × Sx.Tn)) W => (Boxed W Bs 68 (.slice (some ⟨G, 0, none⟩) pre.length o.length) ∧ W.ownsRow G 72 3 (.slice (some ⟨G, 0, none⟩) pre.length o.length) pre.length ((pre.map (Sx.CJ shift)).flatMap dF)) ∧ W.heap[N]? = some (.cells #[.int .i64 shift] 3) ∧ Below G w4 W)
  (fun _ _ _ => False)
  (dx.and (Qm (fun (pre : List (Sx.Tn × Sx.Tn)) => pre.length) (fun (pre : List (Sx.Tn × Sx.Tn)) => (pre.map (Sx.CJ shift)).flatMap dF) (by omega) (by omega)) (dx.and (bu (by omega)) (gu (by omega) (by omega))))
  (fun _ _ _ _ _ hs _ _ => hs)
  ⟨⟨vb, vr⟩, vN, vB⟩
  (fun x a' W => ∃ Bx, Bs + 1 < Bx ∧ W.heap[Bx]? = some (.cells (kT x).toArray 122 (0, 0)) ∧ a' = { tmps := #[.slice ra rs.length rcap, af name, .int .i64 shift, undef, undef, .pointer (some ⟨N, 0, none⟩), .slice none 0 0, .int .i64 0, .int .i64 0, .slice oa o.length oc, .int .i64 0, .pointer (some ⟨Bs, 0, none⟩), .pointer (some ⟨Bx, 0, none⟩), .slice ra rs.length rcap, .agg #[.slice ra rs.length rcap, .slice none 0 0, .slice none 0 0], .int .i64 0, .int .i64 0, .bool false, undef, .int .i64 shift, .bool (decide (shift < -64800)), .bool (decide (shift < -64800)), .int .i64 shift, .bool (decide (64800 < shift)), .bool (decide (shift < -64800) || decide (64800 < shift)), .slice ra rs.length rcap, af name, .func (.func 127) #[] #[.pointer (some ⟨Nt, 0, none⟩), .pointer (some ⟨Nt + 1, 0, none⟩)], .slice oa o.length oc, .slice oa o.length oc, .int .i64 0, .int .i64 0, .bool false, undef, .slice oa o.length oc, .int .i64 ↑o.length, .slice (some ⟨G, 0, none⟩) 0 o.length, .slice oa o.length oc, .func (.func 131) #[] #[.pointer (some ⟨Bs + 1, 0, none⟩)], qh x.1 x.2, undef, undef, undef, undef, undef, undef, undef], defers := [] })
  ?hAx ?assign ?body ?done ?stop
 case hAx =>
  rintro x a' _ X Y row ⟨Bx, q1, q2, q3⟩ hg hr
  refine ⟨Bx, q1, ?_, q3⟩
  rw [hg.block Bx (q4A.1 q2).1 (fun e => by obtain ⟨_, o, ho, hc⟩ := hr Bx e.symm; rw [q2] at ho; cases ho; simp [Obj.isCells] at hc)]
  exact q2
 case assign =>
  rintro l pre ⟨p, t⟩ W K ⟨⟨i0', i1⟩, iN, iB⟩ sz hK
  rw [vS] at sz
  have KB := hid ((q4B W.heap.size W).alloc (Nat.le_refl _) (.cells (kT (p, t)).toArray 122))
  have R := hid (hK { tmps := #[.slice ra rs.length rcap, af name, .int .i64 shift, undef, undef, .pointer (some ⟨N, 0, none⟩), .slice none 0 0, .int .i64 0, .int .i64 0, .slice oa o.length oc, .int .i64 0, .pointer (some ⟨Bs, 0, none⟩), .pointer (some ⟨W.heap.size, 0, none⟩), .slice ra rs.length rcap, .agg #[.slice ra rs.length rcap, .slice none 0 0, .slice none 0 0], .int .i64 0, .int .i64 0, .bool false, undef, .int .i64 shift, .bool (decide (shift < -64800)), .bool (decide (shift < -64800)), .int .i64 shift, .bool (decide (64800 < shift)), .bool (decide (shift < -64800) || decide (64800 < shift)), .slice ra rs.length rcap, af name, .func (.func 127) #[] #[.pointer (some ⟨Nt, 0, none⟩), .pointer (some ⟨Nt + 1, 0, none⟩)], .slice oa o.length oc, .slice oa o.length oc, .int .i64 0, .int .i64 0, .bool false, undef, .slice oa o.length oc, .int .i64 ↑o.length, .slice (some ⟨G, 0, none⟩) 0 o.length, .slice oa o.length oc, .func (.func 131) #[] #[.pointer (some ⟨Bs + 1, 0, none⟩)], qh p t, undef, undef, undef, undef, undef, undef, undef], defers := [] } (W.alloc (.cells (kT (p, t)).toArray 122)) ((KeepsOthers.alloc _ _).from _) (xL KB.out (by omega))
   ⟨⟨i0'.alloc _, i1.alloc _⟩, (KB.out.block _ (q4A.1 iN).1).trans iN, iB.alloc (by omega) _⟩ ⟨W.heap.size, by omega, World.alloc_heap_new W _, rfl⟩)
  clear hK i0' i1 iN iB
  gi_wp2
  exact R.out
 case body =>
  rintro l pre ⟨p, t⟩ a' W hl ⟨r, hr⟩ ⟨⟨ib, ir⟩, iN, iB⟩ ⟨Bx, hBx, hX, rfl⟩ hpx sz
  have hm := vV o Sx.ago (p, t) (iw hpx)
  dsimp only at hm
  have hpl : pre.length + 1 ≤ o.length := by have := hpx.length_le; rw [List.length_append, Sx.bY, Sx.mM] at this; simpa using this
  have hs1 : 0 ≤ p.save ∧ p.save ≤ 10800 := by
   rcases hm.1 with rfl | e
   ·simp [Sx.ago]
   ·exact HSV.out _ e
  have hb2 := HB.out _ hm.2
  have HC := hid (Ia p t shift W n1 n2 hs1.1 hs1.2 hb2.1 hb2.2)
  have HC2 := hid (Ia p t shift W.drew n1 n2 hs1.1 hs1.2 hb2.1 hb2.2)
  obtain ⟨⟨x0, _⟩, ⟨x1, _⟩, ⟨x2, _⟩, ⟨x3, _⟩, ⟨x4, _⟩, ⟨x5, _⟩, ⟨x6, _⟩, ⟨x7, _⟩, -⟩ := cp8 (aj hX)
  have sx := (q4A.1 hX).1
  have cN := (aa (aj (vs := [.int .i64 shift]) iN) 0 rfl).1
  have cb := ib.cell
  have lb := ib.lt
  have lN := (q4A.1 iN).1
  have IB := hid iB
  have IR := hid ir
  have IN := hid iN
  have IBX := hid ib
  clear hm hX iN ib ir iB hr
  dsimp only at x0 x1 x2 x3 x4 x5 x6 x7
  gi_wp2_with fail
  obtain ⟨T, hT⟩ : ∃ T, Sx.dX shift p.save t = T := ⟨_, rfl⟩
  rw [hT] at HC2
  have HTT : Hid (Sx.CJ shift (p, t) = T) := hT
  clear hT HC
  have SS : Hid (wu N Bx shift p t W.drew) := ⟨cN, x0, x1, x2, x3, x4, x5, x6, x7⟩
  refine rG (S := fun w' => wu N Bx shift p t w') (by kernel_rfl) (by kernel_rfl) (fun ⟨_, _, q⟩ => q) SS.out (fun hHeld => ?_)
  refine tkH 1 ?vz1 rfl ?z1 ?_
  case z1 => (intro w hSw; obtain ⟨sN, s0, s1, s2, s3, s4, s5, s6, s7⟩ := hSw; go_simp; try with_reducible rfl)
  try simp only [Act.put, j]
  refine tkH 2 ?vz2 rfl ?z2 ?_
  case z2 => (intro w hSw; obtain ⟨sN, s0, s1, s2, s3, s4, s5, s6, s7⟩ := hSw; go_simp; try with_reducible rfl)
  try simp only [Act.put, j]
  refine wpAnyH_ready (rs := [0,3]) (by kernel_rfl) (by simp) ?_
  refine AllReadyH.cons rfl (fun K hK => ?_) ?_
  ·have cbd : W.drew.cell? ⟨Bs, 0, none⟩ = some (.slice (some ⟨G, 0, none⟩) pre.length o.length) := cb
   go_simp
   refine hK.out _ _ (by assumption) (fun hHeldB => ?_)
   clear hK K
   try simp only [Act.put, j]
   refine rdH 3 rfl fun K hK => ?_
   go_simp
   refine HC2.out.mono ?_
   rintro e w7 ⟨rfl, hb7⟩
   have BB : Hid (Below W.heap.size W w7) := (show Below W.heap.size W W.drew from ⟨rfl, rfl, rfl, Nat.le_refl _, fun _ _ => rfl⟩).trans hb7
   have ib7 : Boxed w7 Bs 68 (.slice (some ⟨G, 0, none⟩) pre.length o.length) := (BB.out.block _ lb).trans IBX.out
   have cb7 := ib7.cell
   have lb7 := ib7.lt
   have row7 := aJ IR.out BB.out
   have S7 := lT SS.out hb7 lN sx
   have L7 : N < w7.heap.size ∧ Bx < w7.heap.size := ⟨q4N lN BB.out.size, q4N sx BB.out.size⟩
   refine hK.out _ _ S7 (fun hHeld2 => ?_)
   clear hK K
   try simp only [Act.put, j]
   refine rdH 4 rfl fun K hK => ?_
   go_simp
   have S8 := lT S7 ((q4B w7.heap.size w7).alloc (Nat.le_refl _) (.cells #[.int .i64 T.at_, .int .i64 T.save, af T.letter] 72)) L7.1 L7.2
   have cb8 := (ib7.alloc (.cells #[.int .i64 T.at_, .int .i64 T.save, af T.letter] 72)).cell
   refine hK.out _ _ S8 (fun hHeld3 => ?_)
   clear hK K
   try simp only [Act.put, j]
   refine rdH 5 rfl fun K hK => ?_
   refine j5 rfl _ _ 68 rfl G 72 i0 3 Tryz.underlying68 hi hz1 G pre.length o.length _ rfl (row7.alloc _) ⟨w7.heap.size, 0, none⟩ 1 1 (dF T) rfl rfl (sP _ _) (uO _) hpl ?_
   intro w9 hown9 hgrow9
   obtain ⟨hv9, k9, kp9, b9, r9, n9, bl9⟩ := Di IBX.out IR.out IN.out IB.out BB.out hGB hNG (by decide) hown9 hgrow9
   have c9 := hv9.cell
   have f9 := hv9.frozen
   have l9 := hv9.lt
   have S9 := sj S8 hgrow9 (by simp; omega) (by simp; omega) (by omega) (by omega)
   refine hK.out _ _ S9 (fun hHeld4 => ?_)
   clear hK K
   try simp only [Act.put, j]
   refine rdH 6 rfl fun K hK => ?_
   go_simp
   refine hK.out _ _ (yZ S9 (by omega) (by omega)) (fun hHeld5 => ?_)
   clear hK K
   try simp only [Act.put, j]
   refine wpAnyH_done (by kernel_rfl) ?_ _
   exact ⟨k9.from _, HGG.out.symm ▸ kp9, ⟨by simpa using b9, by simpa [HTT.out] using r9⟩, n9, bl9⟩
  refine AllReadyH.cons rfl (fun K hK => ?_) AllReadyH.nil
  go_simp
  refine HC2.out.mono ?_
  rintro e w7 ⟨rfl, hb7⟩
  have BB : Hid (Below W.heap.size W w7) := (show Below W.heap.size W W.drew from ⟨rfl, rfl, rfl, Nat.le_refl _, fun _ _ => rfl⟩).trans hb7
  have ib7 : Boxed w7 Bs 68 (.slice (some ⟨G, 0, none⟩) pre.length o.length) := (BB.out.block _ lb).trans IBX.out
  have cb7 := ib7.cell
  have lb7 := ib7.lt
  have row7 := aJ IR.out BB.out
  have S7 := lT SS.out hb7 lN sx
  have L7 : N < w7.heap.size ∧ Bx < w7.heap.size := ⟨q4N lN BB.out.size, q4N sx BB.out.size⟩
  refine hK.out _ _ S7 (fun hHeld2 => ?_)
  clear hK K
  try simp only [Act.put, j]
  refine wpAnyH_ready (rs := [0,4]) (by kernel_rfl) (by simp) ?_
  refine AllReadyH.cons rfl (fun K hK => ?_) ?_
  ·go_simp
   refine hK.out _ _ (by assumption) (fun hHeldB => ?_)
   clear hK K
   try simp only [Act.put, j]
   refine rdH 4 rfl fun K hK => ?_
   go_simp
   have S8 := lT S7 ((q4B w7.heap.size w7).alloc (Nat.le_refl _) (.cells #[.int .i64 T.at_, .int .i64 T.save, af T.letter] 72)) L7.1 L7.2
   have cb8 := (ib7.alloc (.cells #[.int .i64 T.at_, .int .i64 T.save, af T.letter] 72)).cell
   refine hK.out _ _ S8 (fun hHeld3 => ?_)
   clear hK K
   try simp only [Act.put, j]
   refine rdH 5 rfl fun K hK => ?_
   refine j5 rfl _ _ 68 rfl G 72 i0 3 Tryz.underlying68 hi hz1 G pre.length o.length _ rfl (row7.alloc _) ⟨w7.heap.size, 0, none⟩ 1 1 (dF T) rfl rfl (sP _ _) (uO _) hpl ?_
   intro w9 hown9 hgrow9
   obtain ⟨hv9, k9, kp9, b9, r9, n9, bl9⟩ := Di IBX.out IR.out IN.out IB.out BB.out hGB hNG (by decide) hown9 hgrow9
   have c9 := hv9.cell
   have f9 := hv9.frozen
   have l9 := hv9.lt
   have S9 := sj S8 hgrow9 (by simp; omega) (by simp; omega) (by omega) (by omega)
   refine hK.out _ _ S9 (fun hHeld4 => ?_)
   clear hK K
   try simp only [Act.put, j]
   refine rdH 6 rfl fun K hK => ?_
   go_simp
   refine hK.out _ _ (yZ S9 (by omega) (by omega)) (fun hHeld5 => ?_)
   clear hK K
   try simp only [Act.put, j]
   refine wpAnyH_done (by kernel_rfl) ?_ _
   exact ⟨k9.from _, HGG.out.symm ▸ kp9, ⟨by simpa using b9, by simpa [HTT.out] using r9⟩, n9, bl9⟩
  refine AllReadyH.cons rfl (fun K hK => ?_) AllReadyH.nil
  go_simp
  have S8 := lT S7 ((q4B w7.heap.size w7).alloc (Nat.le_refl _) (.cells #[.int .i64 T.at_, .int .i64 T.save, af T.letter] 72)) L7.1 L7.2
  have cb8 := (ib7.alloc (.cells #[.int .i64 T.at_, .int .i64 T.save, af T.letter] 72)).cell
  refine hK.out _ _ S8 (fun hHeld3 => ?_)
  clear hK K
  try simp only [Act.put, j]
  refine rdH 0 rfl fun K hK => ?_
  go_simp
  refine hK.out _ _ (by assumption) (fun hHeldB => ?_)
  clear hK K
  try simp only [Act.put, j]
  refine rdH 5 rfl fun K hK => ?_
  refine j5 rfl _ _ 68 rfl G 72 i0 3 Tryz.underlying68 hi hz1 G pre.length o.length _ rfl (row7.alloc _) ⟨w7.heap.size, 0, none⟩ 1 1 (dF T) rfl rfl (sP _ _) (uO _) hpl ?_
  intro w9 hown9 hgrow9
  obtain ⟨hv9, k9, kp9, b9, r9, n9, bl9⟩ := Di IBX.out IR.out IN.out IB.out BB.out hGB hNG (by decide) hown9 hgrow9
  have c9 := hv9.cell
  have f9 := hv9.frozen
  have l9 := hv9.lt
  have S9 := sj S8 hgrow9 (by simp; omega) (by simp; omega) (by omega) (by omega)
  refine hK.out _ _ S9 (fun hHeld4 => ?_)
  clear hK K
  try simp only [Act.put, j]
  refine rdH 6 rfl fun K hK => ?_
  go_simp
  refine hK.out _ _ (yZ S9 (by omega) (by omega)) (fun hHeld5 => ?_)
  clear hK K
  try simp only [Act.put, j]
  refine wpAnyH_done (by kernel_rfl) ?_ _
  exact ⟨k9.from _, HGG.out.symm ▸ kp9, ⟨by simpa using b9, by simpa [HTT.out] using r9⟩, n9, bl9⟩
 case done =>
  rintro D ys W hD rfl ⟨⟨ib, ir⟩, iN, iB⟩ hK
  have cb := ib.cell
  have IB := hid iB
  have IR := hid ir
  have HK := hid hK
  have hlen : (Sx.bY o).length = o.length := by rw [Sx.bY, Sx.mM]
  have BK := hid (belowK_b (w := w4) (n₀ := G) (by omega) W D _ (.deferred none) (by omega) hK rfl rfl)
  have RK := hid (ownsRow_putObj ir (.deferred none) hK rfl)
  rw [hlen] at cb RK
  clear iN iB ir hK
  gi_wp2
  refine ⟨by simp, .inl ⟨_, _, rfl, run_takeDeferred HK.out, ?_⟩⟩
  refine ⟨.tuple #[.slice (some ⟨G, 0, none⟩) o.length o.length, .int .i64 0], by simp [results, Tryz.results28, go_sem], ?_⟩
  refine ⟨_, by rw [HT.out], ?_, ?_⟩
  ·unfold lG
   rw [KX.out, List.length_map, hlen]
   exact dC RK.out (by rw [HNN.out]; omega)
  ·rw [HNN.out]
   have b4 := B4.out
   rw [HNN.out] at b4
   exact b4.trans ((IB.out.trans BK.out).mono (by omega))
 case stop =>
  rintro D c pre W _ _ h _
  exact h.elim
theorem CK (rs : List Sx.Rl) (rv : Value) (name : Tx.Bs) (shift : Int) (w : World) (h : bN w rv rs) (hs : ∀ r ∈ rs, r.name.length ≤ maxLen ∧ r.letter.length ≤ maxLen) :
  Calls Tryz.prog 28 #[rv, af name, .int .i64 shift] w (mW rs name shift w) := by
 by_cases hT : Sx.aY rs name shift = 0
 ·exact Kn rs rv name shift w h hs hT
 by_cases hE : Sx.eB ⟨rs, [], []⟩ = 0
 ·by_cases hsh : -64800 ≤ shift ∧ shift ≤ 64800
  ·exact Ig rs rv name shift w h hs hE hsh.1 hsh.2 hT
  ·exact Ie rs rv name shift w h hs hE hsh
 ·exact Ih rs rv name shift w h hs hE
end
namespace Tb
open Tx (Bs)

structure Lc where
 shift : Int
 save : Int
 name : Bs
deriving DecidableEq
structure Cg where
 at_ : Int
 lc : Lc
deriving DecidableEq
structure Tbl where
 first : Lc
 ch : List Cg
deriving DecidableEq
abbrev least : Int := -62135596800
abbrev most : Int := 253402300799
def aI (l : Lc) : Int :=
 if (Sx.inB l.shift (-75600) 75600 && Sx.inB l.save 0 10800) = false then 3
 else if (!l.name.isEmpty && decide (l.name.length ≤ 24) && Sx.aU l.name) = false then 1 else 0
/- is it no later than what was ahead? -/
def late (prev : Option Int) (n : Int) : Bool := match prev with | none => false | some p => decide (n ≤ p)
def goE (was : Lc) (prev : Option Int) : List Cg → Int
 | [] => 0
 | c :: r => if Sx.inB c.at_ least most = false then 3 else if late prev c.at_ = true then 4 else if aI c.lc ≠ 0 then aI c.lc else if c.lc = was then 4 else goE c.lc (some c.at_) r
def oD (t : Tbl) : Int := if 1000 < t.ch.length then 2 else if aI t.first ≠ 0 then aI t.first else goE t.first none t.ch
def iY (out : Lc) (at_ : Int) : List Cg → Lc
 | [] => out
 | c :: r => iY (if c.at_ ≤ at_ then c.lc else out) at_ r
def look (t : Tbl) (at_ : Int) : Lc := iY t.first at_ t.ch
def mq (n : Int) : Bool := Sx.inB n least most

/- what is wrong, change by change -/
theorem FB (was : Lc) (prev : Option Int) (c : Cg) (r : List Cg) : goE was prev (c :: r) = if Sx.inB c.at_ least most = false then 3 else if late prev c.at_ = true then 4 else if aI c.lc ≠ 0 then aI c.lc else if c.lc = was then 4 else goE c.lc (some c.at_) r := rfl
theorem Po {was : Lc} {prev : Option Int} {c : Cg} {r : List Cg} (h : goE was prev (c :: r) = 0) : least ≤ c.at_ ∧ c.at_ ≤ most ∧ late prev c.at_ = false ∧ aI c.lc = 0 ∧ ¬ c.lc = was ∧ goE c.lc (some c.at_) r = 0 := by
 rw [FB] at h
 split at h
 ·omega
 ·rename_i h1
  split at h
  ·omega
  ·rename_i h2
   split at h
   ·rename_i h3; exact absurd h h3
   ·rename_i h3
    split at h
    ·omega
    ·rename_i h4
     simp [Sx.inB] at h1
     exact ⟨h1.1, h1.2, by simpa using h2, by simpa using h3, h4, h⟩
theorem Jb {t : Tbl} (h : oD t = 0) : t.ch.length ≤ 1000 ∧ aI t.first = 0 ∧ goE t.first none t.ch = 0 := by
 unfold oD at h
 split at h
 ·omega
 ·rename_i h1
  split at h
  ·rename_i h2; exact absurd h h2
  ·rename_i h2; exact ⟨by omega, by simpa using h2, h⟩
/- times rise -/
def xx : List Cg → Prop
 | [] => True
 | [_] => True
 | a :: b :: r => a.at_ < b.at_ ∧ xx (b :: r)
theorem FC : ∀ (l : List Cg) (was : Lc) (prev : Option Int), goE was prev l = 0 → xx l ∧ (∀ c ∈ l, least ≤ c.at_ ∧ c.at_ ≤ most ∧ aI c.lc = 0) ∧ (∀ p, prev = some p → ∀ c ∈ l, p < c.at_)
 | [], _, _, _ => ⟨trivial, by simp, by simp⟩
 | c :: r, was, prev, h => by
   obtain ⟨h1, h2, h3, h4, h5, h6⟩ := Po h
   obtain ⟨r1, r2, r3⟩ := FC r c.lc (some c.at_) h6
   refine ⟨?_, ?_, ?_⟩
   ·cases r with
    | nil => trivial
    | cons d r => exact ⟨r3 _ rfl d (by simp), r1⟩
   ·intro x hx
    simp at hx
    rcases hx with rfl | hx
    ·exact ⟨h1, h2, h4⟩
    ·exact r2 x hx
   ·intro p hp x hx
    subst hp
    simp [late] at h3
    simp at hx
    rcases hx with rfl | hx
    ·exact h3
    ·exact Int.lt_trans h3 (r3 _ rfl x hx)
/- when they show it: in each span between changes -/
def spans (n from_ shift : Int) : List Cg → List Int
 | [] => if from_ ≤ n - shift ∧ n - shift < most + 1 then [n - shift] else []
 | c :: r => (if from_ ≤ n - shift ∧ n - shift < c.at_ then [n - shift] else []) ++ spans n c.at_ c.lc.shift r
/- put in its place -/
def ins (x : Int) : List Int → List Int
 | [] => [x]
 | y :: r => if x < y then x :: y :: r else y :: ins x r
theorem eD {α : Type} {l : List α} {i : Nat} {x : α} (h : l[i]? = some x) : l.drop i = x :: l.drop (i + 1) := by
 obtain ⟨hi, rfl⟩ := q4L.1 h
 exact List.drop_eq_getElem_cons hi
end Tb
section
open Go.RowKit

def bB (c : Tb.Cg) : List Value := [.int .i64 c.at_, .int .i64 c.lc.shift, .int .i64 c.lc.save, af c.lc.name]
abbrev lcV (l : Tb.Lc) : Value := .agg #[.int .i64 l.shift, .int .i64 l.save, af l.name]
abbrev cgV (c : Tb.Cg) : Value := .agg #[.int .i64 c.at_, .int .i64 c.lc.shift, .int .i64 c.lc.save, af c.lc.name]
abbrev tbV (l : Tb.Lc) (v : Value) : Value := .agg #[.int .i64 l.shift, .int .i64 l.save, af l.name, v]
def mF := Rd 4 bB
theorem wB (c : Tb.Cg) : (bB c).length = 4 := rfl
theorem rd_cg {w : World} {b o i : Nat} {c : Tb.Cg} (h : ∀ k u, (bB c)[k]? = some u → w.cell? ⟨b, o + i * 4 + k, none⟩ = some u) :
  w.cell? ⟨b, o + i * 4, none⟩ = some (.int .i64 c.at_) ∧ w.cell? ⟨b, o + i * 4 + 1, none⟩ = some (.int .i64 c.lc.shift) ∧ w.cell? ⟨b, o + i * 4 + 2, none⟩ = some (.int .i64 c.lc.save) ∧ w.cell? ⟨b, o + i * 4 + 3, none⟩ = some (af c.lc.name) :=
 ⟨h 0 _ rfl, h 1 _ rfl, h 2 _ rfl, h 3 _ rfl⟩
theorem aO {W w' : World} {v : Value} {l : List Tb.Cg} (h : mF W v l) (hb : Below W.heap.size W w') : mF w' v l := au h hb
/- a change of the list, as the walk reads it -/
theorem qK {w : World} {v : Value} {l : List Tb.Cg} {i : Nat} {c : Tb.Cg} (h : mF w v l) (hi : l[i]? = some c) : ∃ b o cap, v = .slice (some ⟨b, o, none⟩) l.length cap ∧ b < w.heap.size ∧
  w.cell? ⟨b, o + i * 4, none⟩ = some (.int .i64 c.at_) ∧ w.cell? ⟨b, o + i * 4 + 1, none⟩ = some (.int .i64 c.lc.shift) ∧ w.cell? ⟨b, o + i * 4 + 2, none⟩ = some (.int .i64 c.lc.save) ∧ w.cell? ⟨b, o + i * 4 + 3, none⟩ = some (af c.lc.name) := by
 obtain ⟨a, cap, rfl, h⟩ := h
 obtain ⟨b, o, rfl, hb, hc⟩ := h (by intro q; subst q; simp at hi)
 obtain ⟨c0, c1, c2, c3⟩ := rd_cg (hc i c hi)
 exact ⟨b, o, cap, rfl, hb, c0, c1, c2, c3⟩
abbrev lcL (l : Tb.Lc) : List Value := [.int .i64 l.shift, .int .i64 l.save, af l.name]
abbrev tbL (l : Tb.Lc) (v : Value) : List Value := [.int .i64 l.shift, .int .i64 l.save, af l.name, v]
def lc0 : Tb.Lc := ⟨0, 0, []⟩
def jT := Rd 1 (fun n : Int => [Value.int .i64 n])
theorem vO {w : World} {v : Value} {l : List Int} {i : Nat} {n : Int} (h : jT w v l) (hi : l[i]? = some n) : ∃ b o cap, v = .slice (some ⟨b, o, none⟩) l.length cap ∧ b < w.heap.size ∧ w.cell? ⟨b, o + i, none⟩ = some (.int .i64 n) := by
 obtain ⟨a, cap, rfl, h⟩ := h
 obtain ⟨b, o, rfl, hb, hc⟩ := h (by intro q; subst q; simp at hi)
 refine ⟨b, o, cap, rfl, hb, ?_⟩
 have := hc i n hi 0 _ rfl
 simpa using this
theorem Tryz.PD : (Tryz.prog.info? 86).map (fun i => (i.zero, i.size, i.bytes)) = some (some (.agg #[.int .i64 0, .int .i64 0, .int .i64 0, .string ⟨#[]⟩]), 4, 40) := by kernel_rfl
def ma (w : World) (B : Nat) (v : Value) (l : List Tb.Cg) : Prop := w.ownsRow B 86 4 v l.length (l.flatMap bB)
theorem pQ {w : World} {B : Nat} {v : Value} {l : List Tb.Cg} (h : ma w B v l) : mF w v l := jD wB h
theorem lw (w : World) (B : Nat) : ma w B (.slice none 0 0) [] := World.ownsRow_nil _ _ _ _
end
section
open Go.RowKit Go.Shelf
attribute [local go_sem] Oper.semAt_some

def dM (x : Sx.Er) : Int := Cv.num x.uy x.um x.ud * 86400 + x.uat - (if x.uclock = 2 then x.shift else 0)
def aT (l : List Sx.Er) : List Int := (l.filter fun x => !x.opn).map dM
structure lC (x : Sx.Er) : Prop where
 vld : Cv.iK x.uy x.um x.ud = true
 at0 : 0 ≤ x.uat
 at1 : x.uat ≤ 172800
 sh0 : -64800 ≤ x.shift
 sh1 : x.shift ≤ 64800
theorem Mc (x : Sx.Er) (w : World) (h : lC x) : Calls Tryz.prog 51 #[iF x] w fun e w' => e = .returned (.int .i64 (dM x)) ∧ Below w.heap.size w w' := by
 obtain ⟨sh, rl, sv, fm, op, uy, um, ud, ua, uc⟩ := x
 obtain ⟨hv, a0, a1, s0, s1⟩ := h
 dsimp only at hv a0 a1 s0 s1
 have nb := Cv.jC hv
 have n0 := nb.1
 have n1 := nb.2
 have HV := hid hv
 have HE : Hid (dM ⟨sh, rl, sv, fm, op, uy, um, ud, ua, uc⟩ = Cv.num uy um ud * 86400 + ua - (if uc = 2 then sh else 0)) := rfl
 have XV := hid (aC w (ay ⟨sh, rl, sv, fm, op, uy, um, ud, ua, uc⟩) 67)
 have BV := hid ((q4B w.heap.size w).alloc (Nat.le_refl _) (.cells (ay ⟨sh, rl, sv, fm, op, uy, um, ud, ua, uc⟩).toArray 67))
 obtain ⟨n, hn⟩ : ∃ n, Cv.num uy um ud = n := ⟨_, rfl⟩
 rw [hn] at n0 n1 HE
 have HN := hid hn
 clear hv nb hn
 go_enter Tryz.func51, Tryz.ntmps51
 go_wp2_with fail
 refine (yB _ _ _ _ HV.out).mono ?_
 rintro e w1 ⟨rfl, hb⟩
 rw [HN.out]
 have B1 : Hid (Below w.heap.size w w1) := BV.out.trans (hb.mono BV.out.size)
 have X1 := ah XV.out hb
 obtain ⟨x0, _⟩ := aa X1 0 rfl
 obtain ⟨x8, _⟩ := aa X1 8 rfl
 obtain ⟨x9, _⟩ := aa X1 9 rfl
 have sx := X1.1
 clear hb XV BV X1
 by_cases hc : uc = 2
 ·have hc2 : (uc == 2) = true := by simp [hc]
  go_wp2
  go_ret
  exact ⟨ai (by rw [HE.out, if_pos hc]), B1.out⟩
 ·have hc2 : (uc == 2) = false := by simp [hc]
  go_wp2
  go_ret
  exact ⟨ai (by rw [HE.out, if_neg hc, Int.sub_zero]), B1.out⟩
def bK (w : World) (B : Nat) (v : Value) (l : List Int) : Prop := w.ownsRow B 3 1 v l.length (l.map (Value.int .i64))
theorem jY {w : World} {B : Nat} {v : Value} {l : List Int} (h : bK w B v l) : jT w v l := by
 have e : ∀ l : List Int, (l.flatMap fun n : Int => [Value.int .i64 n]) = l.map (Value.int .i64) := by intro l; induction l <;> simp_all
 exact jD (B := B) (e := 3) (cells := fun n : Int => [Value.int .i64 n]) (fun _ => rfl) (by rw [e]; exact h)
theorem I4 (l : List Sx.Er) (x : Sx.Er) : aT (l ++ [x]) = aT l ++ (if x.opn = true then [] else [dM x]) := by
 unfold aT
 cases q : x.opn <;> simp [List.filter_append, q]
theorem Tryz.Dx : (Tryz.prog.info? 3).map (fun i => (i.zero, i.size, i.bytes)) = some (some (.int .i64 0), 1, 8) := by kernel_rfl
/- appended in a round: what the round owes -/
theorem yc {n0 Bs Z k m size : Nat} {tT T tz : TypeId} {w W w7 w9 : World} {tmp : Obj} {v v' : Value} {xs ys : List Value} {cz : Array Value} (ib : Boxed W Bs tT v) (ir : W.ownsRow n0 T size v k xs) (iZ : W.heap[Z]? = some (.cells cz tz)) (hz : tz ≠ T) (iB : Below n0 w W) (hn : n0 ≤ W.heap.size) (BB : Below W.heap.size W w7) (hnB : n0 ≤ Bs) (hZB : Z ≠ Bs) (hte : tT ≠ T)
  (hown9 : w9.ownsRow n0 T size v' m ys) (hgrow9 : (w7.alloc tmp).grownBy w9 v.ownBlock) :
  Boxed w9 Bs tT v ∧ KeepsOthers W (w9.setCell ⟨Bs, 0, none⟩ v') ∧ KpB n0 Z W (w9.setCell ⟨Bs, 0, none⟩ v') ∧ Boxed (w9.setCell ⟨Bs, 0, none⟩ v') Bs tT v' ∧ (w9.setCell ⟨Bs, 0, none⟩ v').ownsRow n0 T size v' m ys ∧ Below n0 w (w9.setCell ⟨Bs, 0, none⟩ v') ∧ (w9.setCell ⟨Bs, 0, none⟩ v').heap[Z]? = some (.cells cz tz) := by
 have lb := ib.lt
 have ib7 : Boxed w7 Bs tT v := (BB.block _ lb).trans ib
 have r7 := aJ ir BB
 obtain ⟨q1, q2, q3, q4, q5⟩ := ib7.appended hte r7 (by have := BB.size; omega) hnB hown9 hgrow9
 have lZ := (q4A.1 iZ).1
 have z7 := (BB.block _ lZ).trans iZ
 have lZ7 := (q4A.1 z7).1
 have hne : some Z ≠ v.ownBlock := by
  intro e
  rcases r7.2 with ⟨rfl, _⟩ | ⟨g, cap, cur, rfl, _, hh, _⟩
  ·simp [Value.ownBlock] at e
  ·simp [Value.ownBlock] at e
   subst e
   rw [z7] at hh
   simp at hh
   exact hz hh.2
 have z9 : (w9.setCell ⟨Bs, 0, none⟩ v').heap[Z]? = some (.cells cz tz) := by
  rw [Below.heap_setCell _ _ _ _ hZB, hgrow9.block Z (by simp; omega) hne, Below.heap_alloc _ _ _ lZ7]; exact z7
 have bw : Below n0 W (w9.setCell ⟨Bs, 0, none⟩ v') := (BB.mono hn).trans q5
 exact ⟨q1, (dI BB).trans q4, ⟨bw, fun _ => z9.trans iZ.symm⟩, q2, q3, iB.trans bw, z9⟩
theorem rX {B : Nat} {g : Option Nat} {x : Sx.Er} {w w' : World} (h : mQ B x w) (hb : w.grownBy w' g) (hB : B < w.heap.size) (hn : some B ≠ g) : mQ B x w' := by
 obtain ⟨b0, b1, b2, b3, b4, b5, b6, b7, b8, b9⟩ := h
 have e : ∀ k, w'.cell? ⟨B, k, none⟩ = w.cell? ⟨B, k, none⟩ := fun k => World.cell?_of_block (w := w) (hb.block _ hB hn)
 exact ⟨(e 0).trans b0, (e 1).trans b1, (e 2).trans b2, (e 3).trans b3, (e 4).trans b4, (e 5).trans b5, (e 6).trans b6, (e 7).trans b7, (e 8).trans b8, (e 9).trans b9⟩
theorem yE {B g : Nat} {x : Sx.Er} {w : World} {v : Value} (h : mQ B x w) (hn : B ≠ g) : mQ B x (w.setCell ⟨g, 0, none⟩ v) := by
 obtain ⟨b0, b1, b2, b3, b4, b5, b6, b7, b8, b9⟩ := h
 have e : ∀ k, (w.setCell ⟨g, 0, none⟩ v).cell? ⟨B, k, none⟩ = w.cell? ⟨B, k, none⟩ := fun k => World.cell?_of_block (w := w) (Below.heap_setCell _ _ _ _ hn)
 exact ⟨(e 0).trans b0, (e 1).trans b1, (e 2).trans b2, (e 3).trans b3, (e 4).trans b4, (e 5).trans b5, (e 6).trans b6, (e 7).trans b7, (e 8).trans b8, (e 9).trans b9⟩
theorem Jw {base size k B : Nat} {T t : TypeId} {v : Value} {xs : List Value} {cs : Array Value} {o : Obj} {W0 : World} (hr : (W0.alloc o).ownsRow base T size v k xs) (h : W0.heap[B]? = some (.cells cs t)) (ht : t ≠ T) : some B ≠ v.ownBlock := by
 intro e
 rcases hr.2 with ⟨rfl, _⟩ | ⟨g, cap, cur, rfl, _, hh, _⟩
 ·simp [Value.ownBlock] at e
 ·simp [Value.ownBlock] at e
  subst e
  rw [Below.heap_alloc _ _ _ (q4A.1 h).1, h] at hh
  simp at hh
  exact ht hh.2
theorem Dq {W w7 : World} {B : Nat} {o : Obj} (h : W.heap[B]? = some o) (hb : Below W.heap.size W w7) : w7.heap[B]? = some o := (hb.block _ (q4A.1 h).1).trans h
theorem Fe (x : ZV) (w : World) (h : fA w (.slice x.a x.z.eras.length x.c) x.z.eras) (hl : x.z.eras.length ≤ 1000) (hcp : x.z.eras.length ≤ x.c) (hok : ∀ e ∈ x.z.eras, e.opn = true ∨ lC e) :
  Calls Tryz.prog 56 #[zvV x] w fun e w' => ∃ v, e = .returned v ∧ bK w' w.heap.size v (aT x.z.eras) ∧ Below w.heap.size w w' := by
 obtain ⟨i0, hi, hz0, hz1, hz2⟩ := info_parts Tryz.Dx
 have H := hid h
 have HL := hid hl
 have HOK := hid hok
 have HCP := hid hcp
 clear h hl hok hcp
 refine (callsIn_wide (n := 4)).1 ?_
 refine callsIn_of_wp_marks Tryz.func56 rfl trivial ?_ rfl
 simp only [Tryz.ntmps56, List.size_toArray, List.length_cons, List.length_nil, Nat.reduceAdd, Nat.reduceSub, Array.replicate_succ, Array.replicate_zero, List.push_toArray, List.append_toArray, List.nil_append, List.cons_append]
 gi_wp2_with fail
 refine ⟨trivial, (callsIn_wide.2 (yH _ _ _ _)).mono ?_⟩
 rintro e w6 ⟨rfl, rfl⟩
 obtain ⟨N, hN⟩ : ∃ N, w.heap.size = N := ⟨_, rfl⟩
 obtain ⟨V, hV⟩ : ∃ V, ((((w.alloc (.cells #[af x.z.name, .slice x.a x.z.eras.length x.c] 44)).alloc (.cells #[.slice none 0 0] 47)).alloc (.cells #[af x.z.name, .slice x.a x.z.eras.length x.c] 44)).alloc (.cells #[.slice (some ⟨N + 1 + 1, 0, none⟩) 1 1] 23)) = V := ⟨_, rfl⟩
 have hsz : (((w.alloc (.cells #[af x.z.name, .slice x.a x.z.eras.length x.c] 44)).alloc (.cells #[.slice none 0 0] 47)).alloc (.cells #[af x.z.name, .slice x.a x.z.eras.length x.c] 44)).heap.size = N + 1 + 1 + 1 := by simp [hN]
 rw [hN, hsz, hV]
 have vS : V.heap.size = N + 4 := by rw [← hV]; simp [hN]
 have vb : Boxed V (N + 1) 47 (.slice none 0 0) := by
  have := Boxed.new (w.alloc (.cells #[af x.z.name, .slice x.a x.z.eras.length x.c] 44)) 47 (.slice none 0 0)
  rw [World.size_alloc, hN] at this
  rw [← hV]; exact (this.alloc _).alloc _
 have vz : V.heap[N + 1 + 1]? = some (.cells #[af x.z.name, .slice x.a x.z.eras.length x.c] 44) := by
  rw [← hV, Below.heap_alloc _ _ _ (by simp; omega)]
  have := World.alloc_heap_new ((w.alloc (.cells #[af x.z.name, .slice x.a x.z.eras.length x.c] 44)).alloc (.cells #[.slice none 0 0] 47)) (.cells #[af x.z.name, .slice x.a x.z.eras.length x.c] 44)
  simp only [World.size_alloc, hN] at this
  exact this
 have vc : V.cell? ⟨N + 1 + 1 + 1, 0, none⟩ = some (.slice (some ⟨N + 1 + 1, 0, none⟩) 1 1) := by
  have := aa (aC (((w.alloc (.cells #[af x.z.name, .slice x.a x.z.eras.length x.c] 44)).alloc (.cells #[.slice none 0 0] 47)).alloc (.cells #[af x.z.name, .slice x.a x.z.eras.length x.c] 44)) [.slice (some ⟨N + 1 + 1, 0, none⟩) 1 1] 23) 0 rfl
  rw [hsz] at this
  rw [← hV]; exact this.1
 have vB : Below N w V := by rw [← hV]; exact ((((q4B N w).alloc (by omega) _).alloc (by simp; omega) _).alloc (by simp; omega) _).alloc (by simp; omega) _
 have HNN := hid hN
 have hread : ∀ W A, Below V.heap.size V W → KpB N (N + 1 + 1) W A → kC A (.slice (some ⟨N + 1 + 1, 0, none⟩) [x].length 1) [x.z] [x] := by
  intro W A h1 h2
  have lW : N + 1 + 1 < W.heap.size := by have := h1.size; omega
  have zA : A.heap[N + 1 + 1]? = some (.cells #[af x.z.name, .slice x.a x.z.eras.length x.c] 44) := (h2.2 lW).trans ((h1.block _ (by omega)).trans vz)
  have bA : Below N w A := vB.trans ((h1.mono (by omega)).trans h2.1)
  have CA := aj (vs := [af x.z.name, .slice x.a x.z.eras.length x.c]) zA
  refine ⟨rfl, ⟨some ⟨N + 1 + 1, 0, none⟩, 1, rfl, fun _ => ⟨N + 1 + 1, 0, rfl, CA.1, ?_⟩⟩, ?_, ?_⟩
  ·intro i y hy k u hu
   match i, hy with
   | 0, hy =>
     simp at hy; subst hy
     have := (aa CA k hu).1
     simpa using this
  ·intro p hp
   simp at hp; subst hp
   exact au H.out (by rw [HNN.out]; exact bA)
  ·intro p hp
   simp at hp; subst hp
   exact HCP.out
 clear hV hsz
 gi_wp2
 refine oP rfl (by omega) (gf := 110) (lb := #[.pointer (some ⟨N + 1 + 1 + 1, 0, none⟩)]) rfl trivial (enters_of Tryz.func110 (by kernel_rfl) rfl)
  (yJ (KpB N (N + 1 + 1)) 3 (N + 1 + 1 + 1) (by omega) [x] [x.z] _ 1 V hread (by simp) (fun p hp => by simp at hp; subst hp; have := HL.out; omega) vc (by omega) (fun W _ => ⟨q4B _ _, fun _ => rfl⟩) (fun _ _ _ a b => kpb_t a b) (fun W A o h1 h2 => ⟨(q4B _ _).alloc (Nat.le_trans (by omega) (Nat.le_trans h1.size h2.1.size)) _, fun q => Below.heap_alloc _ _ _ q⟩))
  kpb_t (PV (by omega) (by omega)) (q4B _ _) (fun _ => rfl)
  (fun (pre : List Sx.Er) W => (∃ v, Boxed W (N + 1) 47 v ∧ W.ownsRow N 3 1 v (aT pre).length ((aT pre).map (Value.int .i64)) ∧ True) ∧ Below N w W ∧ W.heap[N + 1 + 1]? = some (.cells #[af x.z.name, .slice x.a x.z.eras.length x.c] 44))
  (fun _ _ _ => False)
  (OwnFrom.and (Own.from (holdsRow_own N (N + 1) 47 3 1 (fun (pre : List Sx.Er) => (aT pre).length) (fun (pre : List Sx.Er) => (aT pre).map (Value.int .i64)) (fun (pre : List Sx.Er) v => True)) _) (OwnFrom.and (ownFrom_below (by omega) (by omega)) (dx.own (bu (by omega)))))
  (fun _ _ _ _ _ hs _ _ => hs)
  ⟨⟨_, vb, World.ownsRow_nil _ _ _ _, trivial⟩, vB, vz⟩
  (fun e a' W => ∃ Bx, N + 1 + 1 + 1 < Bx ∧ W.heap[Bx]? = some (.cells (ay e).toArray 67 (0, 0)) ∧ a' = { tmps := #[zvV x, .pointer (some ⟨N, 0, none⟩), .slice none 0 0, .pointer (some ⟨N + 1, 0, none⟩), .pointer (some ⟨Bx, 0, none⟩), .agg #[af x.z.name, .slice x.a x.z.eras.length x.c], .slice (some ⟨N + 1 + 1, 0, none⟩) 1 1, .func (.func 110) #[] #[.pointer (some ⟨N + 1 + 1 + 1, 0, none⟩)], iF e, undef, undef, undef, undef, undef, undef, undef, undef, undef], defers := [] })
  ?hAx ?assign ?body ?done ?stop
 case hAx =>
  rintro e a' _ X Y row ⟨Bx, q1, q2, q3⟩ hg hr
  refine ⟨Bx, q1, ?_, q3⟩
  rw [hg.block Bx (q4A.1 q2).1 (fun e => by obtain ⟨_, o, ho, hc⟩ := hr Bx e.symm; rw [q2] at ho; cases ho; simp [Obj.isCells] at hc)]
  exact q2
 case assign =>
  rintro l pre e W K ⟨⟨v, iv, ir, _⟩, iB, iZ⟩ sz hK
  rw [vS] at sz
  have KB := hid ((q4B W.heap.size W).alloc (Nat.le_refl _) (.cells (ay e).toArray 67))
  have lZ := (q4A.1 iZ).1
  have R := hid (hK { tmps := #[zvV x, .pointer (some ⟨N, 0, none⟩), .slice none 0 0, .pointer (some ⟨N + 1, 0, none⟩), .pointer (some ⟨W.heap.size, 0, none⟩), .agg #[af x.z.name, .slice x.a x.z.eras.length x.c], .slice (some ⟨N + 1 + 1, 0, none⟩) 1 1, .func (.func 110) #[] #[.pointer (some ⟨N + 1 + 1 + 1, 0, none⟩)], iF e, undef, undef, undef, undef, undef, undef, undef, undef, undef], defers := [] } (W.alloc (.cells (ay e).toArray 67)) ((KeepsOthers.alloc _ _).from _) ⟨KB.out.mono (by omega), fun q => KB.out.block _ q⟩
   ⟨⟨v, iv.alloc _, ir.alloc _, trivial⟩, iB.alloc (by omega) _, (KB.out.block _ lZ).trans iZ⟩ ⟨W.heap.size, by omega, World.alloc_heap_new W _, rfl⟩)
  clear hK iv ir iB iZ
  gi_wp2
  exact R.out
 case body =>
  rintro l pre e a' W hl ⟨r, hr⟩ ⟨⟨v, iv, ir, _⟩, iB, iZ⟩ ⟨Bx, hBx, hX, rfl⟩ hpx sz
  rw [vS] at sz
  have hmem : e ∈ x.z.eras := by have := iw hpx; simpa [aQ] using this
  have hok := HOK.out e hmem
  have hpl : (aT pre).length ≤ 1000 := by
   have h1 := hpx.length_le
   have h2 : (aT pre).length ≤ pre.length := by unfold aT; rw [List.length_map]; exact List.length_filter_le _ _
   have h3 : (aQ [x]).length = x.z.eras.length := by simp [aQ]
   have := HL.out
   rw [h3, List.length_append] at h1
   omega
  have EX := tQ (aj hX)
  have x4 := EX.2.2.2.2.1
  have sx := (q4A.1 hX).1
  have lb := iv.lt
  have cb := iv.cell
  have HE := hid (I4 pre e)
  have IV := hid iv
  have IR := hid ir
  have IB := hid iB
  have IZ := hid iZ
  have SZ := hid sz
  have HXX := hid hX
  clear iv ir iB iZ hr hX sz hmem hpx
  obtain ⟨q, hq⟩ : ∃ q, e.opn = q := ⟨_, rfl⟩
  rw [hq] at HE hok x4
  cases q
  case true =>
   clear hq hok
   gi_wp2
   have e3 : aT (pre ++ [e]) = aT pre := by rw [HE.out]; simp
   exact ⟨(KeepsOthers.refl _).from _, ⟨q4B _ _, fun _ => rfl⟩, ⟨v, IV.out, by rw [e3]; exact IR.out⟩, IB.out, IZ.out⟩
  case false =>
   have HOE : Hid (lC e) := by rcases hok with h | h; · cases h
                               ·exact h
   clear hq hok
   have HC2 := hid (Mc e W.drew HOE.out)
   gi_wp2_with fail
   have SS : Hid (mQ Bx e W.drew) := EX
   refine rG (S := fun w' => mQ Bx e w') (by kernel_rfl) (by kernel_rfl) (fun ⟨_, _, q⟩ => q) SS.out (fun hHeld => ?_)
   refine tkB 1 rfl ?_
   refine wpAnyH_ready (rs := [0,2]) (by kernel_rfl) (by simp) ?_
   refine AllReadyH.cons rfl (fun K hK => ?_) ?_
   ·have cbd : W.drew.cell? ⟨N + 1, 0, none⟩ = some v := cb
    go_simp
    refine hK.out _ _ (by assumption) (fun hHeldB => ?_)
    clear hK K
    try simp only [Act.put, j]
    refine rdH 2 rfl fun K hK => ?_
    go_simp
    refine HC2.out.mono ?_
    rintro e' w7 ⟨rfl, hb7⟩
    have BB : Hid (Below W.heap.size W w7) := bq hb7
    have ib7 : Boxed w7 (N + 1) 47 v := (BB.out.block _ lb).trans IV.out
    have cb7 := ib7.cell
    have row7 := aJ IR.out BB.out
    have S7 := d9 SS.out hb7 sx
    have L7 : Bx < w7.heap.size := q4N sx BB.out.size
    refine hK.out _ _ S7 (fun hHeld2 => ?_)
    clear hK K
    try simp only [Act.put, j]
    refine rdH 3 rfl fun K hK => ?_
    go_simp
    have S8 := d9 S7 ((q4B w7.heap.size w7).alloc (Nat.le_refl _) (.cells #[.int .i64 (dM e)] 3)) L7
    have cb8 := (ib7.alloc (.cells #[.int .i64 (dM e)] 3)).cell
    refine hK.out _ _ S8 (fun hHeld3 => ?_)
    clear hK K
    try simp only [Act.put, j]
    refine rdH 4 rfl fun K hK => ?_
    refine bC rfl _ _ 47 rfl N 3 i0 (.int .i64 0) 1 8 Tryz.underlying47 hi hz0 hz1 hz2 rfl (by decide) v _ _ rfl (row7.alloc _) ⟨w7.heap.size, 0, none⟩ 1 1 [.int .i64 (dM e)] rfl rfl (one_cell _ _) (by simp [Value.oneCell']) (by unfold maxLen; omega) (by omega) (by have := BB.out.size; have := SZ.out; simp; omega) ?_
    intro v' w9 hown9 hgrow9
    obtain ⟨g', cap', rfl⟩ := ownsRow_succ hown9
    obtain ⟨hv9, k9, kp9, b9, r9, bl9, z9⟩ := yc IV.out IR.out IZ.out (by decide) IB.out (by have := SZ.out; omega) BB.out (by omega) (by omega) (by decide) hown9 hgrow9
    have c9 := hv9.cell
    have f9 := hv9.frozen
    have l9 := hv9.lt
    have S9 := rX S8 hgrow9 (by simp; omega) (Jw (row7.alloc (.cells #[.int .i64 (dM e)] 3)) (Dq HXX.out BB.out) (by decide))
    refine hK.out _ _ S9 (fun hHeld4 => ?_)
    clear hK K
    try simp only [Act.put, j]
    refine rdH 5 rfl fun K hK => ?_
    go_simp
    refine hK.out _ _ (yE S9 (by omega)) (fun hHeld5 => ?_)
    clear hK K
    try simp only [Act.put, j]
    refine wpAnyH_done (by kernel_rfl) ?_ _
    exact ⟨k9.from _, kp9, ⟨_, b9, by show World.ownsRow _ _ _ _ _ _ _; rw [HE.out]; simpa using r9, trivial⟩, bl9, z9⟩
   refine AllReadyH.cons rfl (fun K hK => ?_) AllReadyH.nil
   go_simp
   refine HC2.out.mono ?_
   rintro e' w7 ⟨rfl, hb7⟩
   have BB : Hid (Below W.heap.size W w7) := bq hb7
   have ib7 : Boxed w7 (N + 1) 47 v := (BB.out.block _ lb).trans IV.out
   have cb7 := ib7.cell
   have row7 := aJ IR.out BB.out
   have S7 := d9 SS.out hb7 sx
   have L7 : Bx < w7.heap.size := q4N sx BB.out.size
   refine hK.out _ _ S7 (fun hHeld2 => ?_)
   clear hK K
   try simp only [Act.put, j]
   refine wpAnyH_ready (rs := [0,3]) (by kernel_rfl) (by simp) ?_
   refine AllReadyH.cons rfl (fun K hK => ?_) ?_
   ·go_simp
    refine hK.out _ _ (by assumption) (fun hHeldB => ?_)
    clear hK K
    try simp only [Act.put, j]
    refine rdH 3 rfl fun K hK => ?_
    go_simp
    have S8 := d9 S7 ((q4B w7.heap.size w7).alloc (Nat.le_refl _) (.cells #[.int .i64 (dM e)] 3)) L7
    have cb8 := (ib7.alloc (.cells #[.int .i64 (dM e)] 3)).cell
    refine hK.out _ _ S8 (fun hHeld3 => ?_)
    clear hK K
    try simp only [Act.put, j]
    refine rdH 4 rfl fun K hK => ?_
    refine bC rfl _ _ 47 rfl N 3 i0 (.int .i64 0) 1 8 Tryz.underlying47 hi hz0 hz1 hz2 rfl (by decide) v _ _ rfl (row7.alloc _) ⟨w7.heap.size, 0, none⟩ 1 1 [.int .i64 (dM e)] rfl rfl (one_cell _ _) (by simp [Value.oneCell']) (by unfold maxLen; omega) (by omega) (by have := BB.out.size; have := SZ.out; simp; omega) ?_
    intro v' w9 hown9 hgrow9
    obtain ⟨g', cap', rfl⟩ := ownsRow_succ hown9
    obtain ⟨hv9, k9, kp9, b9, r9, bl9, z9⟩ := yc IV.out IR.out IZ.out (by decide) IB.out (by have := SZ.out; omega) BB.out (by omega) (by omega) (by decide) hown9 hgrow9
    have c9 := hv9.cell
    have f9 := hv9.frozen
    have l9 := hv9.lt
    have S9 := rX S8 hgrow9 (by simp; omega) (Jw (row7.alloc (.cells #[.int .i64 (dM e)] 3)) (Dq HXX.out BB.out) (by decide))
    refine hK.out _ _ S9 (fun hHeld4 => ?_)
    clear hK K
    try simp only [Act.put, j]
    refine rdH 5 rfl fun K hK => ?_
    go_simp
    refine hK.out _ _ (yE S9 (by omega)) (fun hHeld5 => ?_)
    clear hK K
    try simp only [Act.put, j]
    refine wpAnyH_done (by kernel_rfl) ?_ _
    exact ⟨k9.from _, kp9, ⟨_, b9, by show World.ownsRow _ _ _ _ _ _ _; rw [HE.out]; simpa using r9, trivial⟩, bl9, z9⟩
   refine AllReadyH.cons rfl (fun K hK => ?_) AllReadyH.nil
   go_simp
   have S8 := d9 S7 ((q4B w7.heap.size w7).alloc (Nat.le_refl _) (.cells #[.int .i64 (dM e)] 3)) L7
   have cb8 := (ib7.alloc (.cells #[.int .i64 (dM e)] 3)).cell
   refine hK.out _ _ S8 (fun hHeld3 => ?_)
   clear hK K
   try simp only [Act.put, j]
   refine rdH 0 rfl fun K hK => ?_
   go_simp
   refine hK.out _ _ (by assumption) (fun hHeldB => ?_)
   clear hK K
   try simp only [Act.put, j]
   refine rdH 4 rfl fun K hK => ?_
   refine bC rfl _ _ 47 rfl N 3 i0 (.int .i64 0) 1 8 Tryz.underlying47 hi hz0 hz1 hz2 rfl (by decide) v _ _ rfl (row7.alloc _) ⟨w7.heap.size, 0, none⟩ 1 1 [.int .i64 (dM e)] rfl rfl (one_cell _ _) (by simp [Value.oneCell']) (by unfold maxLen; omega) (by omega) (by have := BB.out.size; have := SZ.out; simp; omega) ?_
   intro v' w9 hown9 hgrow9
   obtain ⟨g', cap', rfl⟩ := ownsRow_succ hown9
   obtain ⟨hv9, k9, kp9, b9, r9, bl9, z9⟩ := yc IV.out IR.out IZ.out (by decide) IB.out (by have := SZ.out; omega) BB.out (by omega) (by omega) (by decide) hown9 hgrow9
   have c9 := hv9.cell
   have f9 := hv9.frozen
   have l9 := hv9.lt
   have S9 := rX S8 hgrow9 (by simp; omega) (Jw (row7.alloc (.cells #[.int .i64 (dM e)] 3)) (Dq HXX.out BB.out) (by decide))
   refine hK.out _ _ S9 (fun hHeld4 => ?_)
   clear hK K
   try simp only [Act.put, j]
   refine rdH 5 rfl fun K hK => ?_
   go_simp
   refine hK.out _ _ (yE S9 (by omega)) (fun hHeld5 => ?_)
   clear hK K
   try simp only [Act.put, j]
   refine wpAnyH_done (by kernel_rfl) ?_ _
   exact ⟨k9.from _, kp9, ⟨_, b9, by show World.ownsRow _ _ _ _ _ _ _; rw [HE.out]; simpa using r9, trivial⟩, bl9, z9⟩
 case done =>
  rintro D ys W hD rfl ⟨⟨v, iv, ir, _⟩, iB, iZ⟩ hK
  rw [vS] at hD
  have cb := iv.cell
  have IB := hid iB
  have HK := hid hK
  have BK := hid (belowK_b (w := w) (n₀ := N) (by omega) W D _ (.deferred none) (by omega) hK rfl rfl)
  have RK := hid (ownsRow_putObj ir (.deferred none) hK rfl)
  clear iv ir iB iZ hK
  gi_wp2
  refine ⟨by simp, .inl ⟨_, _, rfl, run_takeDeferred HK.out, ?_⟩⟩
  refine ⟨v, by simp [results, Tryz.results56, go_sem], v, rfl, ?_, ?_⟩
  ·have e : aQ [x] = x.z.eras := by simp [aQ]
   have := RK.out
   rw [e] at this
   rw [HNN.out]
   exact this
  ·rw [HNN.out]; exact IB.out.trans BK.out
 case stop =>
  rintro D c pre W _ _ h _
  exact h.elim
end
section
open Go.RowKit Go.Shelf Go.Maps
attribute [local go_sem] Oper.semAt_some

def gD (l : List Tx.Bs) : DataW Unit := setOf (.agg []) (l.map Lit.string)
theorem xg (l : List Tx.Bs) (x : Tx.Bs) : gD (l ++ [x]) = (gD l).put (.string x) (.agg []) := by
 unfold gD; rw [List.map_append]; exact setOf_snoc _ _ _
theorem Ov (x : Tx.Bs) : ∀ l : List Tx.Bs, l.any ((fun y : Lit => y.sameKey (.string x)) ∘ Lit.string) = l.contains x
 | [] => rfl
 | a :: r => by
   rw [List.any_cons, List.contains_cons, Ov x r]
   congr 1
   show (a == x) = (x == a)
   by_cases e : a = x
   ·subst e; rfl
   ·have e' : ¬ x = a := fun h => e h.symm
    rw [beq_eq_false_iff_ne.2 e, beq_eq_false_iff_ne.2 e']
theorem yY (l : List Tx.Bs) (x : Tx.Bs) : Maps.has (gD l) (.string x) = l.contains x := by
 unfold gD
 rw [has_setOf _ _ _ (fun y hy => by obtain ⟨_, _, rfl⟩ := List.mem_map.1 hy; trivial), List.any_map]
 exact Ov x _
theorem sG : Keyed Tryz.prog 9 := string_keyed Tryz.underlying9
theorem Jj (x : Tx.Bs) (h : x.length ≤ maxLen) : keyOf Tryz.prog 9 (af x) = some (.string x) := Go.WideMaps.keyOf_string_mk Tryz.underlying9 (s := ⟨x.toArray⟩) (by simpa [ByteArray.size] using h)
def mP (l : List Tx.Bs) : Int := if l.Nodup then 0 else 6
theorem zu {l : List Tx.Bs} {x : Tx.Bs} (h : l.Nodup) (hx : l.contains x = false) : (l ++ [x]).Nodup := by
 rw [List.nodup_append]
 refine ⟨h, List.nodup_cons.2 ⟨by simp, List.nodup_nil⟩, ?_⟩
 intro a ha b hb e
 simp at hb
 subst hb; subst e
 have : l.contains a = true := List.contains_iff_mem.2 ha
 rw [hx] at this; cases this
theorem zw {l : List Tx.Bs} {x : Tx.Bs} (hx : l.contains x = true) : ¬ (l ++ [x]).Nodup := by
 intro h
 rw [List.nodup_append] at h
 exact h.2.2 x (List.contains_iff_mem.1 hx) x (by simp) rfl
theorem qX {l r : List Tx.Bs} (h : l <+: r) (hl : ¬ l.Nodup) : ¬ r.Nodup := fun hr => hl (hr.sublist h.sublist)
theorem Db {w W : World} {N D : Nat} {a : Act} {v : Int} {R : Ending → World → Prop} (h2 : a.tmps.getD 2 undef = .pointer (some ⟨N + 1, 0, none⟩)) (hd : a.defers = [{ target := .collected D, args := #[] }])
  (i1 : W.heap[N + 1]? = some (.cells #[.int .i64 v] 28)) (hD : N + 1 < D) (hN : w.heap.size ≤ N) (hK : W.heap[D]? = some (.deferred (some []))) (hB : Below w.heap.size w W) (hR : ∀ w', Below w.heap.size w w' → R (.returned (.int .i64 v)) w') :
  bodyPostM Fence.wide 4 Tryz.prog Tryz.f43 R .ret a W := by
 obtain ⟨tm, df⟩ := a
 dsimp only at h2 hd
 subst hd
 rw [Array.getD_eq_getD_getElem?] at h2
 have hX := belowK_b (w := w) (Nat.le_refl _) W D _ (.deferred none) (by omega) hK rfl rfl
 have j1 : (W.putObj D (.deferred none)).heap[N + 1]? = some (.cells #[.int .i64 v] 28) := (World.putObj_heap_other (by omega)).trans i1
 refine ⟨by simp, .inl ⟨_, _, rfl, run_takeDeferred hK, ?_⟩⟩
 have BX := hB.trans hX
 generalize W.putObj D (.deferred none) = X at j1 BX ⊢
 have y0 := (aa (aj (vs := [.int .i64 v]) j1) 0 rfl).1
 clear j1 i1 hK hB hX
 refine ⟨.int .i64 v, ?_, hR X BX⟩
 simp [results, Tryz.results43, go_sem, *]
theorem yu (zs : List Sx.Zn) (ls : List Sx.Lk) (xs : List ZV) (ra za la : Option Addr) (n1 rcap zcap lcap : Nat) (w : World) (h2 : kC w (.slice za xs.length zcap) zs xs) (h3 : fJ w (.slice la ls.length lcap) ls)
  (hx : xs.length ≤ 10000) (hl : ls.length ≤ 10000) (hs : ∀ s ∈ dL zs ls, s.length ≤ maxLen) :
  Calls Tryz.prog 43 #[.agg #[.slice ra n1 rcap, .slice za xs.length zcap, .slice la ls.length lcap]] w fun e w' => e = .returned (.int .i64 (mP (dL zs ls))) ∧ Below w.heap.size w w' := by
 have hmm := @run_makeMap Tryz.prog
 refine (callsIn_wide (n := 4)).1 ?_
 refine callsIn_of_wp_marks Tryz.func43 rfl trivial ?_ rfl
 simp only [Tryz.ntmps43, List.size_toArray, List.length_cons, List.length_nil, Nat.reduceAdd, Nat.reduceSub, Array.replicate_succ, Array.replicate_zero, List.push_toArray, List.append_toArray, List.nil_append, List.cons_append]
 gi_wp2_with fail
 refine ⟨trivial, (callsIn_wide.2 (MZ ra za la n1 xs.length ls.length rcap zcap lcap _)).mono ?_⟩
 rintro e w6 ⟨rfl, rfl⟩
 gi_wp2
 obtain ⟨N, hN⟩ : ∃ N, w.heap.size = N := ⟨_, rfl⟩
 obtain ⟨V, hV⟩ : ∃ V, (((((w.alloc (.cells #[.slice ra n1 rcap, .slice za xs.length zcap, .slice la ls.length lcap] 26)).alloc (.cells #[.int .i64 0] 28)).alloc (.map #[] 0)).alloc (.cells #[.map (some (w.heap.size + 1 + 1))] 154)).alloc (.cells #[.slice ra n1 rcap, .slice za xs.length zcap, .slice la ls.length lcap] 26)) = V := ⟨_, rfl⟩
 rw [hV]
 have vS : V.heap.size = N + 5 := by rw [← hV]; simp [hN]
 have vr : V.heap[N + 1]? = some (.cells #[.int .i64 0] 28) := by
  rw [← hV, Below.heap_alloc _ _ _ (by simp; omega), Below.heap_alloc _ _ _ (by simp; omega), Below.heap_alloc _ _ _ (by simp; omega)]
  have := World.alloc_heap_new (w.alloc (.cells #[.slice ra n1 rcap, .slice za xs.length zcap, .slice la ls.length lcap] 26)) (.cells #[.int .i64 0] 28)
  simp only [World.size_alloc, hN] at this
  exact this
 have vm : V.ownsMap Tryz.prog 9 (unitElem (H := Unit)) (N + 1 + 1) 0 (gD []) := by
  have := World.ownsMap_made ((w.alloc (.cells #[.slice ra n1 rcap, .slice za xs.length zcap, .slice la ls.length lcap] 26)).alloc (.cells #[.int .i64 0] 28)) Tryz.prog 9 (unitElem (H := Unit))
  simp only [World.size_alloc, hN] at this
  rw [← hV]
  exact (this.alloc _).alloc _
 have vb : V.heap[N + 1 + 1 + 1]? = some (.cells #[.map (some (N + 1 + 1))] 154) := by
  rw [← hV, Below.heap_alloc _ _ _ (by simp; omega)]
  have := World.alloc_heap_new (((w.alloc (.cells #[.slice ra n1 rcap, .slice za xs.length zcap, .slice la ls.length lcap] 26)).alloc (.cells #[.int .i64 0] 28)).alloc (.map #[] 0)) (.cells #[.map (some (w.heap.size + 1 + 1))] 154)
  simp only [World.size_alloc, hN] at this ⊢
  exact this
 have vB : Below w.heap.size w V := by
  rw [← hV]; exact (((((q4B _ w).alloc (Nat.le_refl _) _).alloc (by simp) _).alloc (by simp; omega) _).alloc (by simp; omega) _).alloc (by simp; omega) _
 have XV : ag V (N + 1 + 1 + 1 + 1) [.slice ra n1 rcap, .slice za xs.length zcap, .slice la ls.length lcap] := by
  have := aC ((((w.alloc (.cells #[.slice ra n1 rcap, .slice za xs.length zcap, .slice la ls.length lcap] 26)).alloc (.cells #[.int .i64 0] 28)).alloc (.map #[] 0)).alloc (.cells #[.map (some (w.heap.size + 1 + 1))] 154)) [.slice ra n1 rcap, .slice za xs.length zcap, .slice la ls.length lcap] 26
  simp only [World.size_alloc, hN] at this
  rw [← hV, hN]
  exact this
 have HS := hid hs
 have HNL : Hid ((dL zs ls).length ≤ 20000) := by
  show _ ≤ _
  have := lY h2
  unfold dL
  rw [List.length_append, List.length_map, List.length_map]
  omega
 have HNN := hid hN
 clear hV hs
 simp only [hN]
 refine oP rfl (by omega) (gf := 157) (lb := #[.pointer (some ⟨N + 1 + 1 + 1 + 1, 0, none⟩)]) rfl trivial (enters_of Tryz.func157 (by kernel_rfl) rfl)
  (M4 3 (N + 1 + 1 + 1 + 1) (by omega) xs zs ls za la zcap lcap w V h2 h3 hx hl (aa XV 1 rfl).1 (aa XV 2 rfl).1 XV.1 vB)
  kpb_t (PV (by omega) (by omega)) (q4B _ _) (fun _ => rfl)
  (fun (pre : List Tx.Bs) W => (W.heap[N + 1]? = some (.cells #[.int .i64 0] 28) ∧ W.heap[N + 1 + 1 + 1]? = some (.cells #[.map (some (N + 1 + 1))] 154)) ∧ W.ownsMap Tryz.prog 9 (unitElem (H := Unit)) (N + 1 + 1) pre.length (gD pre) ∧ Below w.heap.size w W ∧ pre.Nodup)
  (fun c (pre : List Tx.Bs) W => c = .ret ∧ W.heap[N + 1]? = some (.cells #[.int .i64 6] 28) ∧ Below w.heap.size w W ∧ ¬ pre.Nodup)
  (OwnFrom.and (OwnFrom.and (dx.own (bu (by omega))) (dx.own (bu (by omega)))) (OwnFrom.and (fun s W W' row hs hg hr => hs.kept hg (fun e => by have := (hr _ e.symm).1; omega)) (OwnFrom.and (ownFrom_below (Nat.le_refl _) (by omega)) (dx.own (bU _)))))
  (fun c => OwnFrom.and (dx.own (bU _)) (OwnFrom.and (dx.own (bu (by omega))) (OwnFrom.and (ownFrom_below (Nat.le_refl _) (by omega)) (dx.own (bU _)))))
  ⟨⟨vr, vb⟩, vm, vB, List.nodup_nil⟩
  (fun x a' W => a' = { tmps := #[.agg #[.slice ra n1 rcap, .slice za xs.length zcap, .slice la ls.length lcap], .pointer (some ⟨N, 0, none⟩), .pointer (some ⟨N + 1, 0, none⟩), .pointer (some ⟨N + 1 + 1 + 1, 0, none⟩), af x, undef, undef, .map (some (N + 1 + 1)), .agg #[.slice ra n1 rcap, .slice za xs.length zcap, .slice la ls.length lcap], .func (.func 157) #[] #[.pointer (some ⟨N + 1 + 1 + 1 + 1, 0, none⟩)], af x, undef, undef, undef, undef, undef, undef, undef, undef, undef, undef], defers := [] })
  ?hAx ?assign ?body ?done ?stop
 case hAx =>
  intro x a' _ X Y row q hg hr
  exact q
 case assign =>
  rintro l pre x W K hI sz hK
  have R := hid (hK { tmps := #[.agg #[.slice ra n1 rcap, .slice za xs.length zcap, .slice la ls.length lcap], .pointer (some ⟨N, 0, none⟩), .pointer (some ⟨N + 1, 0, none⟩), .pointer (some ⟨N + 1 + 1 + 1, 0, none⟩), af x, undef, undef, .map (some (N + 1 + 1)), .agg #[.slice ra n1 rcap, .slice za xs.length zcap, .slice la ls.length lcap], .func (.func 157) #[] #[.pointer (some ⟨N + 1 + 1 + 1 + 1, 0, none⟩)], af x, undef, undef, undef, undef, undef, undef, undef, undef, undef, undef], defers := [] } W ((KeepsOthers.refl _).from _) ⟨q4B _ _, fun _ => rfl⟩ hI rfl)
  clear hK hI
  gi_wp2
  exact R.out
 case body =>
  rintro l pre x a' W hl' ⟨r, hr⟩ ⟨⟨i0, i1⟩, im, iB, iP⟩ rfl hpx sz
  rw [vS] at sz
  have hxl := HS.out x (iw hpx)
  have HK := hid (Jj x hxl)
  have hpl : pre.length < 20000 := by have h1 := hpx.length_le; have := HNL.out; rw [List.length_append] at h1; simp at h1; omega
  obtain ⟨cb, fb⟩ := aa (aj (vs := [.map (some (N + 1 + 1))]) i1) 0 rfl
  have lb := (q4A.1 i1).1
  obtain ⟨cr, fr⟩ := aa (aj (vs := [.int .i64 0]) i0) 0 rfl
  have lr := (q4A.1 i0).1
  have HO := hid im
  have I0 := hid i0
  have I1 := hid i1
  have IB := hid iB
  have IP := hid iP
  have SZ := hid sz
  have HH := yY pre x
  obtain ⟨b, hb⟩ : ∃ b, pre.contains x = b := ⟨_, rfl⟩
  rw [hb] at HH
  have HBB := hid hb
  clear im i0 i1 iB iP hr sz hb hpx
  cases b
  case true =>
   gi_wp2_with (gi_at_lookup; refine wpListIn_lookup_own_unit _ rfl _ _ 154 rfl 9 158 sG Tryz.underlying154 (Tryz.zeroValue158 _) (N + 1 + 1) pre.length (gD pre) rfl HO.out _ _ rfl HK.out ?_; rw [HH])
   have P1 := xE (.int .i64 6) I0.out
   exact ⟨(KeepsOthers.trans (KeepsOthers.setCell _ _ _) (KeepsOthers.alloc _ _)).from _, rfl, (Below.heap_alloc _ _ _ (by have := SZ.out; simp; omega)).trans P1,
    (ax IB.out (by rw [HNN.out]; omega) 0 _).alloc (by have := IB.out.size; simp; omega) _, zw HBB.out⟩
  case false =>
   gi_wp2_with (first | (gi_at_lookup; refine wpListIn_lookup_own_unit _ rfl _ _ 154 rfl 9 158 sG Tryz.underlying154 (Tryz.zeroValue158 _) (N + 1 + 1) pre.length (gD pre) rfl HO.out _ _ rfl HK.out ?_; rw [HH]) | (gi_at_mapUpdate; refine wpListIn_mapUpdate_own _ rfl _ _ _ 154 rfl 9 158 sG Tryz.underlying154 (unitElem (H := Unit)) (N + 1 + 1) pre.length (gD pre) rfl (HO.out.alloc _) (by unfold maxLen; omega) _ _ _ rfl rfl HK.out _ [] unitElem_mk ?_; intro w9 hown9 hgrow9))
   have AB : Hid (Below w.heap.size w (W.alloc (.cells #[] 158))) := IB.out.alloc (Nat.le_trans IB.out.size (Nat.le_refl _)) _
   have gs := hgrow9.size
   simp only [World.size_alloc] at gs
   have sz' := SZ.out
   have a0 : (W.alloc (.cells #[] 158)).heap[N + 1]? = some (.cells #[.int .i64 0] 28) := (Below.heap_alloc _ _ _ (by omega)).trans I0.out
   have a1 : (W.alloc (.cells #[] 158)).heap[N + 1 + 1 + 1]? = some (.cells #[.map (some (N + 1 + 1))] 154) := (Below.heap_alloc _ _ _ (by omega)).trans I1.out
   have b9 : Below (N + 1 + 1) (W.alloc (.cells #[] 158)) w9 := ⟨hgrow9.os, hgrow9.tape, hgrow9.output, hgrow9.size, fun k hk => hgrow9.block k (by simp; omega) (by intro e; injection e with e; omega)⟩
   refine ⟨((KeepsOthers.alloc _ _).from _).trans (KeepsFrom.of_grownBy hgrow9 (by intro j e; injection e with e; rw [vS]; omega)), ⟨?_, ?_⟩, ⟨?_, ?_⟩, ?_, ?_, zu IP.out HBB.out⟩
   ·exact (((q4B W.heap.size W).alloc (Nat.le_refl _) _).mono (by rw [HNN.out]; omega)).trans (b9.mono (by rw [HNN.out]; omega))
   ·intro q
    exact (hgrow9.block _ (by simp; omega) (by intro e; injection e with e; omega)).trans (Below.heap_alloc _ _ _ q)
   ·exact (hgrow9.block _ (by simp; omega) (by intro e; injection e with e; omega)).trans a0
   ·exact (hgrow9.block _ (by simp; omega) (by intro e; injection e with e; omega)).trans a1
   ·rw [List.length_append, xg]; exact hown9
   ·exact AB.out.trans (b9.mono (by rw [HNN.out]; omega))
 case done =>
  rintro D ys W hD rfl ⟨⟨i0, i1⟩, im, iB, iP⟩ hK
  rw [vS] at hD
  obtain ⟨cr, fr⟩ := aa (aj (vs := [.int .i64 0]) i0) 0 rfl
  have E := hid (Db (w := w) (W := W.setCell ⟨N + 1, 0, none⟩ (.int .i64 0)) (N := N) (D := D) (v := 0) (R := fun e w' => e = .returned (.int .i64 (mP (dL zs ls))) ∧ Below w.heap.size w w') (a := { tmps := #[.agg #[.slice ra n1 rcap, .slice za xs.length zcap, .slice la ls.length lcap], .pointer (some ⟨N, 0, none⟩), .pointer (some ⟨N + 1, 0, none⟩), .pointer (some ⟨N + 1 + 1 + 1, 0, none⟩), undef, undef, undef, .map (some (N + 1 + 1)), .agg #[.slice ra n1 rcap, .slice za xs.length zcap, .slice la ls.length lcap], .func (.func 157) #[] #[.pointer (some ⟨N + 1 + 1 + 1 + 1, 0, none⟩)], undef, undef, undef, undef, undef, undef, undef, undef, undef, undef, undef], defers := [{ target := .collected D, args := #[] }] }) rfl rfl (xE _ i0) (by omega) (by omega) ((Below.heap_setCell _ _ _ _ (by simp; omega)).trans hK) (ax iB (by omega) 0 _) (fun w' hb => ⟨by unfold mP; rw [if_pos iP], hb⟩))
  clear vr vm vb vB vS XV i0 i1 im iB iP hK
  gi_wp2
  exact E.out
 case stop =>
  rintro D c pre W hD hpre ⟨rfl, i0, iB, iP⟩ hK
  rw [vS] at hD
  have E := hid (Db (w := w) (N := N) (D := D) (v := 6) (R := fun e w' => e = .returned (.int .i64 (mP (dL zs ls))) ∧ Below w.heap.size w w') (a := { tmps := #[.agg #[.slice ra n1 rcap, .slice za xs.length zcap, .slice la ls.length lcap], .pointer (some ⟨N, 0, none⟩), .pointer (some ⟨N + 1, 0, none⟩), .pointer (some ⟨N + 1 + 1 + 1, 0, none⟩), undef, undef, undef, .map (some (N + 1 + 1)), .agg #[.slice ra n1 rcap, .slice za xs.length zcap, .slice la ls.length lcap], .func (.func 157) #[] #[.pointer (some ⟨N + 1 + 1 + 1 + 1, 0, none⟩)], undef, undef, undef, undef, undef, undef, undef, undef, undef, undef, undef], defers := [{ target := .collected D, args := #[] }] }) rfl rfl i0 (by omega) (by omega) hK iB (fun w' hb => ⟨by unfold mP; rw [if_neg (qX hpre iP)], hb⟩))
  clear vr vm vb vB vS XV i0 iB iP hK
  gi_wp2
  exact E.out
end
section
open Go.RowKit Go.Shelf Go.Maps
attribute [local go_sem] Oper.semAt_some

theorem qZ {H : Type} {F : Fence} {nF : Nat} {P : Program} (w : World) {ops : Array Oper} {rest : List Oper} {o : Oper} {a : Act} {Q : Exit → Act → World → Prop}
  (hg : o.guard = none) (m x v : Operand) (t : TypeId) (hop : o.op = Op.insert t m x v)
  (k e : TypeId) (K : Keyed P k) (ht : P.underlying t = some (.map k e)) (R : Value → Option (DataW H × List MemPlace)) (b n : Nat) (D : DataW H)
  (hm : a.eval m = .map (some b)) (hown : w.ownsMap P k R b n D) (hn : n < maxLen) (key val : Value) (kl : Lit) (hx : a.eval x = key) (hv : a.eval v = val) (hkey : keyOf P k key = some kl)
  (d : DataW H) (ps : List MemPlace) (hval : R val = some (d, ps))
  (hK : ∀ w', w'.ownsMap P k R b (n + 1) (D.put kl d) → w.grownBy w' (some b) → wpListIn F nF P ops Q rest (a.put o.dst undef) w') :
  wpListIn F nF P ops Q (o :: rest) a w := by
 refine wpListIn_plain hg fun K' hK' => ?_
 obtain ⟨w', hrun, r1, r2⟩ := hown.update K ht hn hkey hval
 unfold Oper.wpIn
 refine ⟨by simp [Oper.about, hop], ?_⟩
 rw [Oper.semAt_plain F _ _ (by rw [hop]; intro c hc'; cases hc')]
 simp [execOp, hop, hm, hx, hv, hrun, Result.andThen]
 exact hK' _ _ (hK w' r1 r2)

/- what is wrong with the rules that eras name: the first of what rule.Times answers -/
def fP (rs : List Sx.Rl) : List Sx.Er → Int
 | [] => 0
 | e :: r => if e.rules = [] ∨ Sx.aY rs e.rules e.shift = 0 then fP rs r else Sx.aY rs e.rules e.shift
theorem iC {rs : List Sx.Rl} (e : Sx.Er) (r : List Sx.Er) : fP rs (e :: r) = if e.rules = [] ∨ Sx.aY rs e.rules e.shift = 0 then fP rs r else Sx.aY rs e.rules e.shift := rfl
theorem yf {rs : List Sx.Rl} : ∀ {l : List Sx.Er} (r : List Sx.Er), fP rs l = 0 → fP rs (l ++ r) = fP rs r
 | [], _, _ => rfl
 | e :: l, r, h => by
   rw [List.cons_append]
   rw [iC] at h ⊢
   split
   ·rename_i q; rw [if_pos q] at h; exact yf r h
   ·rename_i q; rw [if_neg q] at h; exact absurd (Or.inr h) q
theorem Ba {rs : List Sx.Rl} : ∀ {l : List Sx.Er} (r : List Sx.Er), fP rs l ≠ 0 → fP rs (l ++ r) = fP rs l
 | [], _, h => absurd rfl h
 | e :: l, r, h => by
   rw [List.cons_append]
   rw [iC] at h
   rw [iC, iC]
   split
   ·rename_i q; rw [if_pos q] at h; exact Ba r h
   ·rfl
theorem yg {rs : List Sx.Rl} : ∀ {l : List Sx.Er}, fP rs l = 0 → ∀ e ∈ l, e.rules = [] ∨ Sx.aY rs e.rules e.shift = 0
 | [], _, _, he => by cases he
 | a :: l, h, e, he => by
   rw [iC] at h
   split at h
   ·rename_i q
    rcases List.mem_cons.1 he with rfl | he
    ·exact q
    ·exact yg h e he
   ·rename_i q; exact absurd (Or.inr h) q
theorem pg {rs : List Sx.Rl} {pre : List Sx.Er} {e : Sx.Er} (h : fP rs pre = 0) (he : e.rules = [] ∨ Sx.aY rs e.rules e.shift = 0) : fP rs (pre ++ [e]) = 0 := by
 rw [yf _ h, iC]; rw [if_pos he]; rfl
theorem Au {rs : List Sx.Rl} {pre : List Sx.Er} {e : Sx.Er} (h : fP rs pre = 0) (he : e.rules ≠ []) (hE : Sx.aY rs e.rules e.shift ≠ 0) : fP rs (pre ++ [e]) = Sx.aY rs e.rules e.shift := by
 rw [yf _ h, iC]; rw [if_neg (by intro q; rcases q with q | q; exact he q; exact hE q)]
theorem EM {rs : List Sx.Rl} {pre l : List Sx.Er} (h : pre <+: l) (hp : fP rs pre ≠ 0) : fP rs l = fP rs pre := by
 obtain ⟨r, rfl⟩ := h; exact Ba r hp
/- the names seen: those of the eras before, and the empty one -/
def rQ (L : List Tx.Bs) (pre : List Sx.Er) : Prop := ∀ s, s ∈ L ↔ s = [] ∨ ∃ e ∈ pre, e.rules = s
theorem QF : rQ [[]] [] := by intro s; simp
theorem NG {L : List Tx.Bs} {pre : List Sx.Er} {e : Sx.Er} (h : rQ L pre) (he : e.rules ∈ L) : rQ L (pre ++ [e]) := by
 intro s
 rw [h s]
 constructor
 ·rintro (q | ⟨x, hx, q⟩)
  ·exact .inl q
  ·exact .inr ⟨x, List.mem_append_left _ hx, q⟩
 ·rintro (q | ⟨x, hx, q⟩)
  ·exact .inl q
  ·rcases List.mem_append.1 hx with hx | hx
   ·exact .inr ⟨x, hx, q⟩
   ·rw [List.mem_singleton] at hx
    subst hx; subst q
    exact (h _).1 he
theorem NH {L : List Tx.Bs} {pre : List Sx.Er} {e : Sx.Er} (h : rQ L pre) : rQ (L ++ [e.rules]) (pre ++ [e]) := by
 intro s
 rw [List.mem_append, h s, List.mem_singleton]
 constructor
 ·rintro ((q | ⟨x, hx, q⟩) | q)
  ·exact .inl q
  ·exact .inr ⟨x, List.mem_append_left _ hx, q⟩
  ·exact .inr ⟨e, by simp, q.symm⟩
 ·rintro (q | ⟨x, hx, q⟩)
  ·exact .inl (.inl q)
  ·rcases List.mem_append.1 hx with hx | hx
   ·exact .inl (.inr ⟨x, hx, q⟩)
   ·rw [List.mem_singleton] at hx
    subst hx
    exact .inr q.symm
theorem LJ {H : Type} {P : Program} {k : TypeId} {R : Value → Option (DataW H × List MemPlace)} {w w' : World} {b n : Nat} {D : DataW H} (h : w.ownsMap P k R b n D) (hb : Below w.heap.size w w') : w'.ownsMap P k R b n D :=
 h.kept (row := none) ⟨hb.os, hb.tape, hb.output, hb.size, fun j hj _ => hb.block j hj⟩ (by simp)
theorem KO {w W : World} {N D : Nat} {a : Act} {v : Int} {R : Ending → World → Prop} (h2 : a.tmps.getD 2 undef = .pointer (some ⟨N + 1, 0, none⟩)) (hd : a.defers = [{ target := .collected D, args := #[] }])
  (i1 : W.heap[N + 1]? = some (.cells #[.int .i64 v] 28)) (hD : N + 1 < D) (hN : w.heap.size ≤ N) (hK : W.heap[D]? = some (.deferred (some []))) (hB : Below w.heap.size w W) (hR : ∀ w', Below w.heap.size w w' → R (.returned (.int .i64 v)) w') :
  bodyPostM Fence.wide 4 Tryz.prog Tryz.f45 R .ret a W := by
 obtain ⟨tm, df⟩ := a
 dsimp only at h2 hd
 subst hd
 rw [Array.getD_eq_getD_getElem?] at h2
 have hX := belowK_b (w := w) (Nat.le_refl _) W D _ (.deferred none) (by omega) hK rfl rfl
 have j1 : (W.putObj D (.deferred none)).heap[N + 1]? = some (.cells #[.int .i64 v] 28) := (World.putObj_heap_other (by omega)).trans i1
 refine ⟨by simp, .inl ⟨_, _, rfl, run_takeDeferred hK, ?_⟩⟩
 have BX := hB.trans hX
 generalize W.putObj D (.deferred none) = X at j1 BX ⊢
 have y0 := (aa (aj (vs := [.int .i64 v]) j1) 0 rfl).1
 clear j1 i1 hK hB hX
 refine ⟨.int .i64 v, ?_, hR X BX⟩
 simp [results, Tryz.results45, go_sem, *]
theorem yt (zs : List Sx.Zn) (rs : List Sx.Rl) (xs : List ZV) (ra za la : Option Addr) (n3 rcap zcap lcap : Nat) (w : World) (h1 : bN w (.slice ra rs.length rcap) rs) (h2 : kC w (.slice za xs.length zcap) zs xs)
  (hx : xs.length ≤ 10000) (hes : ∀ p ∈ xs, p.z.eras.length ≤ 10000) (hn : (aQ xs).length ≤ 100000) (hs : ∀ r ∈ rs, r.name.length ≤ maxLen ∧ r.letter.length ≤ maxLen) (hr : ∀ e ∈ aQ xs, e.rules.length ≤ maxLen)
  (hz : ∀ e ∈ aQ xs, ∀ e' ∈ aQ xs, e.rules = e'.rules → Sx.aY rs e.rules e.shift = Sx.aY rs e'.rules e'.shift) :
  Calls Tryz.prog 45 #[.agg #[.slice ra rs.length rcap, .slice za xs.length zcap, .slice la n3 lcap]] w fun e w' => e = .returned (.int .i64 (fP rs (aQ xs))) ∧ Below w.heap.size w w' := by
 have hmm := @run_makeMap Tryz.prog
 have H1 := hid h1
 have H2 := hid h2
 have HS := hid hs
 have HR := hid hr
 have HZ := hid hz
 have HX := hid hx
 have HES := hid hes
 have HN := hid hn
 clear h1 h2 hs hr hz hx hes hn
 have HK0 := hid (Jj [] (by simp))
 have HO0 : Hid ((((w.alloc (.cells #[.slice ra rs.length rcap, .slice za xs.length zcap, .slice la n3 lcap] 26)).alloc (.cells #[.int .i64 0] 28)).alloc (.map #[] 0)).ownsMap Tryz.prog 9 (unitElem (H := Unit)) (w.heap.size + 1 + 1) 0 (gD [])) := by
  have := World.ownsMap_made ((w.alloc (.cells #[.slice ra rs.length rcap, .slice za xs.length zcap, .slice la n3 lcap] 26)).alloc (.cells #[.int .i64 0] 28)) Tryz.prog 9 (unitElem (H := Unit))
  simp only [World.size_alloc] at this
  exact this
 have X0 := hid (aH (aH (aC w [.slice ra rs.length rcap, .slice za xs.length zcap, .slice la n3 lcap] 26) (.cells #[.int .i64 0] 28)) (.map #[] 0))
 have E0 : Hid ((((w.alloc (.cells #[.slice ra rs.length rcap, .slice za xs.length zcap, .slice la n3 lcap] 26)).alloc (.cells #[.int .i64 0] 28)).alloc (.map #[] 0)).heap[w.heap.size + 1]? = some (.cells #[.int .i64 0] 28)) := by
  show _ = _
  rw [Below.heap_alloc _ _ _ (by simp)]
  have := World.alloc_heap_new (w.alloc (.cells #[.slice ra rs.length rcap, .slice za xs.length zcap, .slice la n3 lcap] 26)) (.cells #[.int .i64 0] 28)
  rwa [World.size_alloc] at this
 have S0 : Hid ((((w.alloc (.cells #[.slice ra rs.length rcap, .slice za xs.length zcap, .slice la n3 lcap] 26)).alloc (.cells #[.int .i64 0] 28)).alloc (.map #[] 0)).heap[w.heap.size]? = some (.cells #[.slice ra rs.length rcap, .slice za xs.length zcap, .slice la n3 lcap] 26)) := by
  show _ = _
  rw [Below.heap_alloc _ _ _ (by simp; omega), Below.heap_alloc _ _ _ (by simp)]
  exact World.alloc_heap_new w _
 have B0 : Hid (Below w.heap.size w (((w.alloc (.cells #[.slice ra rs.length rcap, .slice za xs.length zcap, .slice la n3 lcap] 26)).alloc (.cells #[.int .i64 0] 28)).alloc (.map #[] 0))) := ((((q4B _ w).alloc (Nat.le_refl _) _).alloc (by simp) _).alloc (by simp; omega) _)
 refine (callsIn_wide (n := 4)).1 ?_
 refine callsIn_of_wp_marks Tryz.func45 rfl trivial ?_ rfl
 simp only [Tryz.ntmps45, List.size_toArray, List.length_cons, List.length_nil, Nat.reduceAdd, Nat.reduceSub, Array.replicate_succ, Array.replicate_zero, List.push_toArray, List.append_toArray, List.nil_append, List.cons_append]
 gi_wp2_with (first
  | (refine qZ _ rfl _ _ _ 154 rfl 9 158 sG Tryz.underlying154 (unitElem (H := Unit)) (w.heap.size + 1 + 1) 0 (gD []) rfl HO0.out (by unfold maxLen; omega) _ _ _ rfl rfl HK0.out _ [] unitElem_mk ?_; intro w1 hown1 hgrow1; have X1 := hid (aK X0.out hgrow1 (by omega)); obtain ⟨x1, f1⟩ := aa X1.out 1 rfl; have sx := X1.out.1)
  | fail)
 refine ⟨trivial, (callsIn_wide.2 (yH za xs.length zcap _)).mono ?_⟩
 rintro e w6 ⟨rfl, rfl⟩
 obtain ⟨N, hN⟩ : ∃ N, w.heap.size = N := ⟨_, rfl⟩
 obtain ⟨N1, hN1⟩ : ∃ N1, w1.heap.size = N1 := ⟨_, rfl⟩
 rw [hN] at hown1 hgrow1 X1 x1 f1 sx
 rw [hN] at B0 E0 S0
 have gs := hgrow1.size
 simp only [World.size_alloc, hN, hN1] at gs
 obtain ⟨V, hV⟩ : ∃ V, (w1.alloc (.cells #[.map (some (N + 1 + 1))] 154)).alloc (.cells #[.slice za xs.length zcap] 23) = V := ⟨_, rfl⟩
 have hsz : (w1.alloc (.cells #[.map (some (N + 1 + 1))] 154)).heap.size = N1 + 1 := by simp [hN1]
 have vS : V.heap.size = N1 + 2 := by rw [← hV]; simp [hN1]
 have k1 : ∀ j, j < N1 → V.heap[j]? = w1.heap[j]? := fun j hj => by rw [← hV, Below.heap_alloc _ _ _ (by simp; omega), Below.heap_alloc _ _ _ (by omega)]
 have vr : V.heap[N + 1]? = some (.cells #[.int .i64 0] 28) := (k1 _ (by omega)).trans ((hgrow1.block _ (by simp; omega) (by intro e; injection e with e; omega)).trans E0.out)
 have vs : V.heap[N]? = some (.cells #[.slice ra rs.length rcap, .slice za xs.length zcap, .slice la n3 lcap] 26) := (k1 _ (by omega)).trans ((hgrow1.block _ (by simp; omega) (by intro e; injection e with e; omega)).trans S0.out)
 have vb : V.heap[N1]? = some (.cells #[.map (some (N + 1 + 1))] 154) := by
  rw [← hV, Below.heap_alloc _ _ _ (by simp; omega), ← hN1]
  exact World.alloc_heap_new w1 _
 have vm : V.ownsMap Tryz.prog 9 (unitElem (H := Unit)) (N + 1 + 1) 1 (gD [[]]) := by
  rw [← hV]
  exact (hown1.alloc _).alloc _
 have vc : V.cell? ⟨N1 + 1, 0, none⟩ = some (.slice za xs.length zcap) := by
  have := aa (aC (w1.alloc (.cells #[.map (some (N + 1 + 1))] 154)) [.slice za xs.length zcap] 23) 0 rfl
  rw [hsz] at this
  rw [← hV]; exact this.1
 have vB : Below N w V := by
  rw [← hV]
  exact ((B0.out.grown hgrow1 (by have := B0.out.size; omega) (fun j hj => by cases hj; omega)).alloc (by omega) _).alloc (by simp; omega) _
 have HNN := hid hN
 simp only [hN, hN1, hsz, hV]
 clear hown1 hgrow1 X1 x1 f1 sx B0 E0 S0 X0 HO0 k1 hV hsz
 gi_wp2
 refine oP rfl (by omega) (gf := 110) (lb := #[.pointer (some ⟨N1 + 1, 0, none⟩)]) rfl trivial (enters_of Tryz.func110 (by kernel_rfl) rfl)
  (yJ (KpB N (N1 + 1)) 3 (N1 + 1) (by omega) xs zs za zcap V (fun W A h1 h2 => dP H2.out (by rw [HNN.out]; exact vB.trans ((h1.mono (by omega)).trans h2.1))) HX.out HES.out vc (by omega) (fun W _ => ⟨q4B _ _, fun _ => rfl⟩) (fun _ _ _ a b => kpb_t a b) (fun W A o h1 h2 => ⟨(q4B _ _).alloc (Nat.le_trans (by omega) (Nat.le_trans h1.size h2.1.size)) _, fun q => Below.heap_alloc _ _ _ q⟩))
  kpb_t (PV (by omega) (by omega)) (q4B _ _) (fun _ => rfl)
  (fun (pre : List Sx.Er) W => (W.heap[N + 1]? = some (.cells #[.int .i64 0] 28) ∧ W.heap[N1]? = some (.cells #[.map (some (N + 1 + 1))] 154) ∧ W.heap[N]? = some (.cells #[.slice ra rs.length rcap, .slice za xs.length zcap, .slice la n3 lcap] 26)) ∧ (∃ L, W.ownsMap Tryz.prog 9 (unitElem (H := Unit)) (N + 1 + 1) (pre.length + 1) (gD L) ∧ rQ L pre) ∧ Below N w W ∧ fP rs pre = 0)
  (fun c (pre : List Sx.Er) W => c = .ret ∧ W.heap[N + 1]? = some (.cells #[.int .i64 (fP rs pre)] 28) ∧ Below N w W ∧ fP rs pre ≠ 0)
  (OwnFrom.and (OwnFrom.and (dx.own (bu (by omega))) (OwnFrom.and (dx.own (bu (by omega))) (dx.own (bu (by omega))))) (OwnFrom.and (fun s W W' row hs hg hr => by obtain ⟨L, hm, hL⟩ := hs; exact ⟨L, hm.kept hg (fun e => by have := (hr _ e.symm).1; omega), hL⟩) (OwnFrom.and (ownFrom_below (by omega) (by omega)) (dx.own (bU _)))))
  (fun c => OwnFrom.and (dx.own (bU _)) (OwnFrom.and (fun s W W' row hs hg hr => (grownBy_keeps_cells hg (fun r e => (hr r e).2) hs rfl).trans hs) (OwnFrom.and (ownFrom_below (by omega) (by omega)) (dx.own (bU _)))))
  ⟨⟨vr, vb, vs⟩, ⟨[[]], vm, QF⟩, vB, rfl⟩
  (fun e a' W => ∃ Bx, N1 + 1 < Bx ∧ W.heap[Bx]? = some (.cells (ay e).toArray 67 (0, 0)) ∧ a' = { tmps := #[.agg #[.slice ra rs.length rcap, .slice za xs.length zcap, .slice la n3 lcap], .pointer (some ⟨N, 0, none⟩), .pointer (some ⟨N + 1, 0, none⟩), .pointer (some ⟨N1, 0, none⟩), .pointer (some ⟨Bx, 0, none⟩), undef, undef, undef, undef, .map (some (N + 1 + 1)), .agg #[], .map (some (N + 1 + 1)), .pointer (some ⟨N, 1, none⟩), .slice za xs.length zcap, .func (.func 110) #[] #[.pointer (some ⟨N1 + 1, 0, none⟩)], iF e, undef, undef, undef, undef, undef, undef, undef, undef, undef, undef, undef, undef, undef, undef, undef, undef, undef, undef, undef, undef, undef, undef, undef, undef, undef], defers := [] })
  ?hAx ?assign ?body ?done ?stop
 case hAx =>
  rintro e a' _ X Y row ⟨Bx, q1, q2, q3⟩ hg hr
  refine ⟨Bx, q1, ?_, q3⟩
  rw [hg.block Bx (q4A.1 q2).1 (fun e => by obtain ⟨_, o, ho, hc⟩ := hr Bx e.symm; rw [q2] at ho; cases ho; simp [Obj.isCells] at hc)]
  exact q2
 case assign =>
  rintro l pre e W K ⟨⟨i0, i1, i2⟩, ⟨L, im, iL⟩, iB, iP⟩ sz hK
  rw [vS] at sz
  have KB := hid ((q4B W.heap.size W).alloc (Nat.le_refl _) (.cells (ay e).toArray 67))
  have R := hid (hK { tmps := #[.agg #[.slice ra rs.length rcap, .slice za xs.length zcap, .slice la n3 lcap], .pointer (some ⟨N, 0, none⟩), .pointer (some ⟨N + 1, 0, none⟩), .pointer (some ⟨N1, 0, none⟩), .pointer (some ⟨W.heap.size, 0, none⟩), undef, undef, undef, undef, .map (some (N + 1 + 1)), .agg #[], .map (some (N + 1 + 1)), .pointer (some ⟨N, 1, none⟩), .slice za xs.length zcap, .func (.func 110) #[] #[.pointer (some ⟨N1 + 1, 0, none⟩)], iF e, undef, undef, undef, undef, undef, undef, undef, undef, undef, undef, undef, undef, undef, undef, undef, undef, undef, undef, undef, undef, undef, undef, undef, undef, undef], defers := [] } (W.alloc (.cells (ay e).toArray 67)) ((KeepsOthers.alloc _ _).from _) ⟨KB.out.mono (by omega), fun q => KB.out.block _ q⟩
   ⟨⟨(KB.out.block _ (by omega)).trans i0, (KB.out.block _ (by omega)).trans i1, (KB.out.block _ (by omega)).trans i2⟩, ⟨L, im.alloc _, iL⟩, iB.alloc (by omega) _, iP⟩ ⟨W.heap.size, by omega, World.alloc_heap_new W _, rfl⟩)
  clear hK i0 i1 i2 im iL iB iP
  gi_wp2
  exact R.out
 case body =>
  rintro l pre e a' W hl ⟨r, hr⟩ ⟨⟨i0, i1, i2⟩, ⟨L, im, iL⟩, iB, iP⟩ ⟨Bx, hBx, hX, rfl⟩ hpx sz
  rw [vS] at sz
  have hmem : e ∈ aQ xs := iw hpx
  have hpl : pre.length < 100000 := by have h1 := hpx.length_le; have := HN.out; rw [List.length_append] at h1; simp at h1; omega
  have HK := hid (Jj e.rules (HR.out e hmem))
  have EX := tQ (aj hX)
  have EX0 := hid EX
  obtain ⟨x0, x1, x2, x3, x4, x5, x6, x7, x8, x9⟩ := EX
  have LX := hid (q4A.1 hX).1
  have lx := LX.out
  obtain ⟨cb, fb⟩ := aa (aj (vs := [.map (some (N + 1 + 1))]) i1) 0 rfl
  obtain ⟨cr, fr⟩ := aa (aj (vs := [.int .i64 0]) i0) 0 rfl
  obtain ⟨cs, fs⟩ := aa (aj (vs := [.slice ra rs.length rcap, .slice za xs.length zcap, .slice la n3 lcap]) i2) 0 rfl
  have HO := hid im
  have I0 := hid i0
  have I1 := hid i1
  have I2 := hid i2
  have IB := hid iB
  have IP := hid iP
  have IL := hid iL
  have SZ := hid sz
  have HM := hid hmem
  have HPX := hid hpx
  have HXX := hid hX
  have lw0 := (q4A.1 i0).1
  have lw1 := (q4A.1 i1).1
  have lw2 := (q4A.1 i2).1
  have CS9 : Hid (∀ w9, (W.alloc (.cells #[] 158)).grownBy w9 (some (N + 1 + 1)) → ag w9 N [.slice ra rs.length rcap, .slice za xs.length zcap, .slice la n3 lcap] ∧ W.heap.size + 1 ≤ w9.heap.size ∧ mQ Bx e w9 ∧ w9.heap[N + 1]? = some (.cells #[.int .i64 0] 28) ∧ w9.heap[N1]? = some (.cells #[.map (some (N + 1 + 1))] 154) ∧ w9.heap[N]? = some (.cells #[.slice ra rs.length rcap, .slice za xs.length zcap, .slice la n3 lcap] 26) ∧ w9.heap[N1 + 1]? = W.heap[N1 + 1]? ∧ Below N w w9 ∧ KeepsFrom V.heap.size W w9) := by
   intro w9 hg
   have gs9 := hg.size
   simp only [World.size_alloc] at gs9
   have kk : ∀ j, j < W.heap.size → j ≠ N + 1 + 1 → w9.heap[j]? = W.heap[j]? := fun j hj hn => (hg.block j (by simp; omega) (by intro e; injection e with e; omega)).trans (Below.heap_alloc _ _ _ hj)
   have b9 : Below N (W.alloc (.cells #[] 158)) w9 := ⟨hg.os, hg.tape, hg.output, hg.size, fun k hk => hg.block k (by simp; omega) (by intro e; injection e with e; omega)⟩
   refine ⟨aj (vs := [.slice ra rs.length rcap, .slice za xs.length zcap, .slice la n3 lcap]) ((kk N (by omega) (by omega)).trans i2), gs9, ?_, (kk _ (by omega) (by omega)).trans i0, (kk _ (by omega) (by omega)).trans i1, (kk _ (by omega) (by omega)).trans i2, kk _ (by omega) (by omega), (iB.alloc (by omega) _).trans b9, ((KeepsOthers.alloc _ _).from _).trans (KeepsFrom.of_grownBy hg (by intro j e; injection e with e; rw [vS]; omega))⟩
   exact tQ (aj ((kk Bx (by omega) (by omega)).trans hX))
  have CB9 : Hid (∀ w9, (W.alloc (.cells #[] 158)).grownBy w9 (some (N + 1 + 1)) → Below N W w9) := by
   intro w9 hg
   have b9 : Below N (W.alloc (.cells #[] 158)) w9 := ⟨hg.os, hg.tape, hg.output, hg.size, fun k hk => hg.block k (by simp; omega) (by intro e; injection e with e; omega)⟩
   exact (((q4B W.heap.size W).alloc (Nat.le_refl _) _).mono (by omega)).trans b9
  have HH := yY L e.rules
  obtain ⟨b, hb⟩ : ∃ b, L.contains e.rules = b := ⟨_, rfl⟩
  rw [hb] at HH
  have HBB := hid hb
  clear im i0 i1 i2 iB iP iL hr sz hb hmem hpx hX
  cases b
  case true =>
   gi_wp2_with (gi_at_lookup; refine wpListIn_lookup_own_unit _ rfl _ _ 154 rfl 9 158 sG Tryz.underlying154 (Tryz.zeroValue158 _) (N + 1 + 1) (pre.length + 1) (gD L) rfl HO.out _ _ rfl HK.out ?_; rw [HH])
   have hin : e.rules ∈ L := List.contains_iff_mem.1 HBB.out
   have hsk : e.rules = [] ∨ Sx.aY rs e.rules e.shift = 0 := by
    rcases (IL.out _).1 hin with q | ⟨e', he', q⟩
    ·exact .inl q
    ·have hm' : e' ∈ aQ xs := HPX.out.subset (List.mem_append_left _ he')
     rcases yg IP.out e' he' with q2 | q2
     ·exact .inl (by rw [← q, q2])
     ·exact .inr (by rw [HZ.out e HM.out e' hm' q.symm, q2])
   exact ⟨(KeepsOthers.alloc _ _).from _, ⟨((q4B W.heap.size W).alloc (Nat.le_refl _) _).mono (by omega), fun q => Below.heap_alloc _ _ _ q⟩,
    ⟨(Below.heap_alloc _ _ _ lw0).trans I0.out, (Below.heap_alloc _ _ _ lw1).trans I1.out, (Below.heap_alloc _ _ _ lw2).trans I2.out⟩,
    ⟨L, by rw [List.length_append]; exact (HO.out.alloc _).mono (by simp), NG IL.out hin⟩, IB.out.alloc (by omega) _, pg IP.out hsk⟩
  case false =>
   gi_wp2_with (first | (gi_at_lookup; refine wpListIn_lookup_own_unit _ rfl _ _ 154 rfl 9 158 sG Tryz.underlying154 (Tryz.zeroValue158 _) (N + 1 + 1) (pre.length + 1) (gD L) rfl HO.out _ _ rfl HK.out ?_; rw [HH]) | (gi_at_mapUpdate; refine wpListIn_mapUpdate_own _ rfl _ _ _ 154 rfl 9 158 sG Tryz.underlying154 (unitElem (H := Unit)) (N + 1 + 1) (pre.length + 1) (gD L) rfl (HO.out.alloc _) (by unfold maxLen; omega) _ _ _ rfl rfl HK.out _ [] unitElem_mk ?_; intro w9 hown9 hgrow9; have C9 := CS9.out w9 hgrow9; obtain ⟨rz, rf⟩ := aa C9.1 0 rfl; obtain ⟨u0, u1, u2, u3, u4, u5, u6, u7, u8, u9⟩ := C9.2.2.1; have sz9 := C9.2.1))
   obtain ⟨cS, sz9', E9, c90, c91, c92, c93, B9, K9⟩ := C9
   have hnin : e.rules ∉ L := fun q => by have := List.contains_iff_mem.2 q; rw [HBB.out] at this; cases this
   have hne : e.rules ≠ [] := fun q => hnin ((IL.out _).2 (.inl q))
   have O9 : Hid (w9.ownsMap Tryz.prog 9 (unitElem (H := Unit)) (N + 1 + 1) ((pre ++ [e]).length + 1) (gD (L ++ [e.rules]))) := by
    show World.ownsMap _ _ _ _ _ _ _
    rw [List.length_append, xg]; exact hown9
   have NE := hid hne
   have C90 := hid c90
   have C91 := hid c91
   have C92 := hid c92
   have C93 := hid c93
   have BB9 := hid B9
   have KK9 := hid K9
   have SZ9 := hid sz9'
   have CT := hid (CK rs (.slice ra rs.length rcap) e.rules e.shift w9 (au H1.out (by rw [HNN.out]; exact B9)) HS.out)
   obtain ⟨T, hT⟩ : ∃ T, Sx.aY rs e.rules e.shift = T := ⟨_, rfl⟩
   have HT := hid hT
   have BW9 : Hid (Below N W w9) := CB9.out w9 hgrow9
   have XE : Hid (∀ w'', Below w9.heap.size w9 w'' → mQ Bx e w'' ∧ ag w'' (N + 1) [.int .i64 0] ∧ N + 1 < w''.heap.size) := by
    intro w'' hb
    have := hb.size
    have q : w''.heap[N + 1]? = some (.cells #[.int .i64 0] 28) := (hb.block _ (by omega)).trans c90
    exact ⟨d9 E9 hb (by omega), aj (vs := [.int .i64 0]) q, by omega⟩
   clear hown9 hgrow9 c90 c91 c92 c93 B9 K9 E9 cS sz9' hT hnin hne rz rf u0 u1 u2 u3 u4 u5 u6 u7 u8 u9
   refine ⟨trivial, (CallsIn.inRound l (callsIn_wide.2 CT.out)).mono ?_⟩
   rintro e1 w10 ⟨v, rfl, hot, hb10⟩
   rw [HT.out]
   obtain ⟨⟨u0, u1, u2, u3, u4, u5, u6, u7, u8, u9⟩, cE, lE⟩ := XE.out w10 hb10
   obtain ⟨cr, fr⟩ := aa cE 0 rfl
   have HB10 := hid hb10
   have fin : Hid (T = 0 → KeepsFrom V.heap.size W w10 ∧ KpB N (N1 + 1) W w10 ∧ (w10.heap[N + 1]? = some (.cells #[.int .i64 0] 28) ∧ w10.heap[N1]? = some (.cells #[.map (some (N + 1 + 1))] 154) ∧ w10.heap[N]? = some (.cells #[.slice ra rs.length rcap, .slice za xs.length zcap, .slice la n3 lcap] 26)) ∧ (∃ L, w10.ownsMap Tryz.prog 9 (unitElem (H := Unit)) (N + 1 + 1) ((pre ++ [e]).length + 1) (gD L) ∧ rQ L (pre ++ [e])) ∧ Below N w w10 ∧ fP rs (pre ++ [e]) = 0) := by
    intro hT0
    have := SZ9.out
    have kb := hb10.block
    refine ⟨KK9.out.trans ((dI hb10).from _), ⟨?_, ?_⟩, ⟨(kb _ (by omega)).trans C90.out, (kb _ (by omega)).trans C91.out, (kb _ (by omega)).trans C92.out⟩, ⟨L ++ [e.rules], LJ O9.out hb10, NH IL.out⟩, BB9.out.trans (hb10.mono (by omega)), pg IP.out (.inr (by rw [HT.out, hT0]))⟩
    ·exact BW9.out.trans (hb10.mono (by omega))
    ·intro q
     exact (kb _ (by omega)).trans C93.out
   clear hot hb10 cE
   by_cases hT0 : T = 0
   ·subst hT0
    have F := hid (fin.out rfl)
    clear fin HT NE
    gi_wp2
    exact F.out
   ·have hc : (T == 0) = false := by simp [hT0]
    have hd : decide (T = 0) = false := by simp [hT0]
    gi_wp2
    have ea : fP rs (pre ++ [e]) = T := by rw [Au IP.out NE.out (by rw [HT.out]; exact hT0), HT.out]
    refine ⟨KK9.out.trans (((dI HB10.out).trans (KeepsOthers.setCell _ _ _)).from _), rfl, ?_, ?_, ?_⟩
    ·rw [ea]
     exact xE _ ((HB10.out.block _ (by have := SZ9.out; omega)).trans C90.out)
    ·exact ax (BB9.out.trans (HB10.out.mono (by have := SZ9.out; omega))) (by omega) 0 _
    ·rw [ea]; exact hT0
 case done =>
  rintro D ys W hD rfl ⟨⟨i0, i1, i2⟩, ⟨L, im, iL⟩, iB, iP⟩ hK
  rw [vS] at hD
  obtain ⟨cr, fr⟩ := aa (aj (vs := [.int .i64 0]) i0) 0 rfl
  have E := hid (KO (w := w) (W := W.setCell ⟨N + 1, 0, none⟩ (.int .i64 0)) (N := N) (D := D) (v := 0) (R := fun e w' => e = .returned (.int .i64 (fP rs (aQ xs))) ∧ Below N w w') (a := { tmps := #[.agg #[.slice ra rs.length rcap, .slice za xs.length zcap, .slice la n3 lcap], .pointer (some ⟨N, 0, none⟩), .pointer (some ⟨N + 1, 0, none⟩), .pointer (some ⟨N1, 0, none⟩), undef, undef, undef, undef, undef, .map (some (N + 1 + 1)), .agg #[], .map (some (N + 1 + 1)), .pointer (some ⟨N, 1, none⟩), .slice za xs.length zcap, .func (.func 110) #[] #[.pointer (some ⟨N1 + 1, 0, none⟩)], undef, undef, undef, undef, undef, undef, undef, undef, undef, undef, undef, undef, undef, undef, undef, undef, undef, undef, undef, undef, undef, undef, undef, undef, undef, undef], defers := [{ target := .collected D, args := #[] }] }) rfl rfl (xE _ i0) (by omega) (by omega) ((Below.heap_setCell _ _ _ _ (by simp; omega)).trans hK) (ax (by rw [HNN.out]; exact iB) (by omega) 0 _) (fun w' hb => ⟨by rw [iP], by have := hb; rw [HNN.out] at this; exact this⟩))
  clear vr vm vb vB vS vs vc i0 i1 i2 im iL iB iP hK
  gi_wp2
  exact E.out
 case stop =>
  rintro D c pre W hD hpre ⟨rfl, i0, iB, iP⟩ hK
  rw [vS] at hD
  have E := hid (KO (w := w) (N := N) (D := D) (v := fP rs pre) (R := fun e w' => e = .returned (.int .i64 (fP rs (aQ xs))) ∧ Below N w w') (a := { tmps := #[.agg #[.slice ra rs.length rcap, .slice za xs.length zcap, .slice la n3 lcap], .pointer (some ⟨N, 0, none⟩), .pointer (some ⟨N + 1, 0, none⟩), .pointer (some ⟨N1, 0, none⟩), undef, undef, undef, undef, undef, .map (some (N + 1 + 1)), .agg #[], .map (some (N + 1 + 1)), .pointer (some ⟨N, 1, none⟩), .slice za xs.length zcap, .func (.func 110) #[] #[.pointer (some ⟨N1 + 1, 0, none⟩)], undef, undef, undef, undef, undef, undef, undef, undef, undef, undef, undef, undef, undef, undef, undef, undef, undef, undef, undef, undef, undef, undef, undef, undef, undef, undef], defers := [{ target := .collected D, args := #[] }] }) rfl rfl i0 (by omega) (by omega) hK (by rw [HNN.out]; exact iB) (fun w' hb => ⟨by rw [EM hpre iP], by have := hb; rw [HNN.out] at this; exact this⟩))
  clear vr vm vb vB vS vs vc i0 iB iP hK
  gi_wp2
  exact E.out
end
section
open Go.RowKit Go.Shelf

def bX : List Int → Bool
 | [] => true
 | [_] => true
 | a :: b :: r => decide (a < b) && bX (b :: r)
theorem GL {l : List Int} {k : Nat} {a b : Int} (ha : l[k]? = some a) (hb : l[k + 1]? = some b) : bX (l.drop k) = (decide (a < b) && bX (l.drop (k + 1))) := by
 rw [Sx.eD ha, Sx.eD hb]; rfl
theorem JZ {l : List Int} {k : Nat} (h : l.length ≤ k + 1) : bX (l.drop k) = true := by
 have hl : (l.drop k).length ≤ 1 := by simp; omega
 match l.drop k, hl with
 | [], _ => rfl
 | [_], _ => rfl
 | _ :: _ :: _, h => simp at h
theorem DJ (l : List Int) (v : Value) (w : World) (h : jT w v l) (hl : l.length ≤ 10000) :
  Calls Tryz.prog 109 #[v] w fun e w' => e = .returned (.bool (bX l)) ∧ Below w.heap.size w w' := by
 obtain ⟨ra, rcap, rfl⟩ := bQ h
 have H := hid h
 obtain ⟨R, hR⟩ : ∃ R, bX l = R := ⟨_, rfl⟩
 rw [hR]
 have HR : Hid (R = bX (l.drop 0)) := hR.symm
 clear h hR
 go_enter Tryz.func109, Tryz.ntmps109
 go_wp2_with fail
 go_loopw [3] (fun a wr => ∃ k : Nat, k ≤ l.length ∧ a = .int .i64 (k + 1) ∧ Hid (Below w.heap.size w wr) ∧ Hid (R = bX (l.drop k))) (fun a _ => l.length + 1 - (intOf a).toNat)
 case atStart => exact ⟨0, Nat.zero_le _, rfl, q4B _ _, HR⟩
 case round =>
  clear HR
  obtain ⟨k, hk, rfl, B0, HR⟩ := hrel
  by_cases hlt : k + 1 < l.length
  case neg =>
   have HR2 : Hid (R = true) := by show _ = _; rw [HR.out]; exact JZ (by omega)
   have hn : ¬ ((k : Int) + 1 < (l.length : Int)) := by omega
   clear hlt
   go_wp2
   go_ret
   exact ⟨az (by rw [HR2.out]), B0.out⟩
  obtain ⟨a, ha⟩ : ∃ a, l[k]? = some a := ⟨_, q4G (by omega)⟩
  obtain ⟨b, hb⟩ : ∃ b, l[k + 1]? = some b := ⟨_, q4G hlt⟩
  have HS := hid (GL ha hb)
  have RW := au H.out B0.out
  obtain ⟨rb, ro, rfl, hrb, hc⟩ := aN RW ha
  obtain ⟨rb', ro', e2, _, hc'⟩ := aN RW hb
  simp only [Option.some.injEq, Addr.mk.injEq] at e2
  obtain ⟨rfl, rfl, _⟩ := e2
  have c0 : wr.cell? ⟨rb, ro + k, none⟩ = some (.int .i64 a) := by have := hc 0 _ rfl; simpa using this
  have c1 : wr.cell? ⟨rb, ro + (k + 1), none⟩ = some (.int .i64 b) := by have := hc' 0 _ rfl; simpa using this
  have hp : (k : Int) + 1 < (l.length : Int) := by omega
  have hp2 : (k : Int) < (l.length : Int) := by omega
  clear hc hc' ha hb RW
  by_cases hab : a < b
  ·have hnb : ¬ b ≤ a := by omega
   have HR2 : Hid (R = bX (l.drop (k + 1))) := by show _ = _; rw [HR.out, HS.out, decide_eq_true hab]; rfl
   clear HR HS
   go_wp2_with fail
   go_quiet (fail)
   go_wp2
   go_roundw
   case rel => exact ⟨k + 1, by omega, by go_num, below_drewN B0.out _, HR2⟩
   case measure => simp [intOf]; omega
  ·have hnb : b ≤ a := by omega
   have HR2 : Hid (R = false) := by show _ = _; rw [HR.out, HS.out, decide_eq_false hab]; rfl
   clear HR HS
   go_wp2_with fail
   go_quiet (fail)
   go_wp2
   go_ret
   exact ⟨az (by rw [HR2.out]), below_drewN B0.out _⟩
theorem Md (x : ZV) (w : World) (h : fA w (.slice x.a x.z.eras.length x.c) x.z.eras) (hl : x.z.eras.length ≤ 1000) (hcp : x.z.eras.length ≤ x.c) (hok : ∀ e ∈ x.z.eras, e.opn = true ∨ lC e) :
  Calls Tryz.prog 108 #[zvV x] w fun e w' => e = .returned (.bool (!bX (aT x.z.eras))) ∧ Below w.heap.size w w' := by
 have BV := hid ((q4B w.heap.size w).alloc (Nat.le_refl _) (.cells (bL x).toArray 44))
 have XV := aC w (bL x) 44
 have sx := XV.1
 have C := hid (Fe x (w.alloc (.cells (bL x).toArray 44)) (au h BV.out) hl hcp hok)
 have HL : Hid ((aT x.z.eras).length ≤ 10000) := by
  show _ ≤ _
  have h2 : (aT x.z.eras).length ≤ x.z.eras.length := by unfold aT; rw [List.length_map]; exact List.length_filter_le _ _
  omega
 clear XV h hl hcp hok
 go_enter Tryz.func108, Tryz.ntmps108
 go_wp2_with fail
 refine C.out.mono ?_
 rintro e w1 ⟨v, rfl, hown, hb⟩
 have B1 : Hid (Below w.heap.size w w1) := BV.out.trans (hb.mono BV.out.size)
 have R1 := hid (jY hown)
 obtain ⟨ra, rcap, rfl⟩ := bQ R1.out
 clear hown hb
 go_wp2_with fail
 refine (DJ _ _ _ R1.out HL.out).mono ?_
 rintro e w2 ⟨rfl, hb⟩
 have B2 : Hid (Below w.heap.size w w2) := B1.out.trans (hb.mono B1.out.size)
 clear hb
 go_wp2
 go_ret
 exact ⟨rfl, B2.out⟩
def kV (xs : List ZV) : Int := if (xs.any fun p => !bX (aT p.z.eras)) = true then 4 else 0
theorem Av (zs : List Sx.Zn) (xs : List ZV) (rv lv : Value) (ra za la : Option Addr) (n1 n3 rcap zcap lcap : Nat) (w : World) (h2 : kC w (.slice za xs.length zcap) zs xs) (hx : xs.length ≤ 10000) (he : ∀ p ∈ xs, p.z.eras.length ≤ 1000) (hok : ∀ p ∈ xs, ∀ e ∈ p.z.eras, e.opn = true ∨ lC e) :
  Calls Tryz.prog 46 #[.agg #[.slice ra n1 rcap, .slice za xs.length zcap, .slice la n3 lcap]] w fun e w' => e = .returned (.int .i64 (kV xs)) ∧ Below w.heap.size w w' := by
 have BV := hid ((q4B w.heap.size w).alloc (Nat.le_refl _) (.cells [.slice ra n1 rcap, .slice za xs.length zcap, .slice la n3 lcap].toArray 26))
 obtain ⟨V, hV⟩ : ∃ V, w.alloc (.cells #[.slice ra n1 rcap, .slice za xs.length zcap, .slice la n3 lcap] 26) = V := ⟨_, rfl⟩
 have hV' : w.alloc (.cells [.slice ra n1 rcap, .slice za xs.length zcap, .slice la n3 lcap].toArray 26) = V := hV
 have XV := aC w [.slice ra n1 rcap, .slice za xs.length zcap, .slice la n3 lcap] 26
 rw [hV'] at BV XV
 obtain ⟨x1, _⟩ := aa XV 1 rfl
 have sx := XV.1
 clear XV
 have R2 := dP h2 BV.out
 have e1 : ∀ args w, (callFunc 108 args).run Tryz.prog w = .ok (.enter 108 args) w := enters_of Tryz.func108 (by kernel_rfl) rfl
 have eZ : ∀ args w, (callFunc 161 args).run Tryz.prog w = .ok (.enter 161 args) w := enters_of Tryz.func161 (by kernel_rfl) rfl
 have hWL : Below V.heap.size V (V.alloc (.cells #[.slice za xs.length zcap] 23)) := (q4B V.heap.size V).alloc (Nat.le_refl _) _
 have C1 := hid (Py 161 108 #[.pointer (some ⟨V.heap.size, 0, none⟩)] #[] (fun p => !bX (aT p.z.eras)) xs (V.alloc (.cells #[.slice za xs.length zcap] 23)) eZ e1
   (fun w1 hw1 => Df 3 V.heap.size (by omega) xs za zcap (V.alloc (.cells #[.slice za xs.length zcap] 23)) w1 (au R2.rd hWL) hx ((hw1.cell (p := ⟨V.heap.size, 0, none⟩) (by simp)).trans (aa (aC V [.slice za xs.length zcap] 23) 0 rfl).1) (q4N (by simp) hw1.size) hw1)
   (fun x hxx W' hW' => by
    have hh := hWL.trans (hW'.mono hWL.size)
    exact Md x W' (au (R2.eras x hxx) hh) (he x hxx) (R2.cap x hxx) (hok x hxx)))
 have HTE : Hid (kV xs = if (xs.any fun p => !bX (aT p.z.eras)) = true then 4 else 0) := rfl
 obtain ⟨A, hA⟩ : ∃ A, (xs.any fun p => !bX (aT p.z.eras)) = A := ⟨_, rfl⟩
 rw [hA] at C1 HTE
 clear R2 h2 hx he e1 eZ hV' hok hA hWL
 go_enter Tryz.func46, Tryz.ntmps46
 go_wp2_with fail
 refine (wm _ _ _ _).mono ?_
 rintro e w1 ⟨rfl, rfl⟩
 go_wp2_with fail
 refine C1.out.mono ?_
 rintro e w2 ⟨rfl, hb⟩
 have HB2 : Hid (Below V.heap.size V w2) := ((q4B V.heap.size V).alloc (Nat.le_refl _) _).trans (hb.mono (by simp))
 clear hb C1
 cases A
 all_goals
  go_wp2
  go_ret
  exact ⟨ai (by rw [HTE.out]; rfl), BV.out.trans (HB2.out.mono BV.out.size)⟩
end
section
open Go.RowKit Go.Shelf
attribute [local go_sem] Oper.semAt_some

def iO (c : Nat → Int) : Int := if c 0 ≠ 0 then c 0 else if c 1 ≠ 0 then c 1 else if c 2 ≠ 0 then c 2 else if c 3 ≠ 0 then c 3 else c 4
theorem tX {c : Nat → Int} {k : Nat} (hk : k < 5) (h : ∀ i < k, c i = 0) (hc : c k ≠ 0) : iO c = c k := by
 unfold iO
 have d0 : k ≠ 0 → c 0 = 0 := fun q => h 0 (by omega)
 have d1 : 1 < k → c 1 = 0 := fun q => h 1 (by omega)
 have d2 : 2 < k → c 2 = 0 := fun q => h 2 (by omega)
 have d3 : 3 < k → c 3 = 0 := fun q => h 3 (by omega)
 match k, hk, hc with
 | 0, _, hc => rw [if_pos hc]
 | 1, _, hc => rw [if_neg (by simp [d0 (by omega)]), if_pos hc]
 | 2, _, hc => rw [if_neg (by simp [d0 (by omega)]), if_neg (by simp [d1 (by omega)]), if_pos hc]
 | 3, _, hc => rw [if_neg (by simp [d0 (by omega)]), if_neg (by simp [d1 (by omega)]), if_neg (by simp [d2 (by omega)]), if_pos hc]
 | 4, _, hc => rw [if_neg (by simp [d0 (by omega)]), if_neg (by simp [d1 (by omega)]), if_neg (by simp [d2 (by omega)]), if_neg (by simp [d3 (by omega)])]
theorem Pe {c : Nat → Int} (h : ∀ i < 5, c i = 0) : iO c = 0 := by
 unfold iO
 rw [h 0 (by omega), h 1 (by omega), h 2 (by omega), h 3 (by omega), h 4 (by omega)]; simp
theorem KH (c : Nat → Int) (ra za la : Option Addr) (n1 n2 n3 rcap zcap lcap : Nat) (w : World) (h0 : (∀ i < 0, c i = 0) → ∀ W, Below w.heap.size w W → Calls Tryz.prog 42 #[.agg #[.slice ra n1 rcap, .slice za n2 zcap, .slice la n3 lcap]] W fun e w' => e = .returned (.int .i64 (c 0)) ∧ Below W.heap.size W w') (h1 : (∀ i < 1, c i = 0) → ∀ W, Below w.heap.size w W → Calls Tryz.prog 43 #[.agg #[.slice ra n1 rcap, .slice za n2 zcap, .slice la n3 lcap]] W fun e w' => e = .returned (.int .i64 (c 1)) ∧ Below W.heap.size W w') (h2 : (∀ i < 2, c i = 0) → ∀ W, Below w.heap.size w W → Calls Tryz.prog 44 #[.agg #[.slice ra n1 rcap, .slice za n2 zcap, .slice la n3 lcap]] W fun e w' => e = .returned (.int .i64 (c 2)) ∧ Below W.heap.size W w') (h3 : (∀ i < 3, c i = 0) → ∀ W, Below w.heap.size w W → Calls Tryz.prog 45 #[.agg #[.slice ra n1 rcap, .slice za n2 zcap, .slice la n3 lcap]] W fun e w' => e = .returned (.int .i64 (c 3)) ∧ Below W.heap.size W w') (h4 : (∀ i < 4, c i = 0) → ∀ W, Below w.heap.size w W → Calls Tryz.prog 46 #[.agg #[.slice ra n1 rcap, .slice za n2 zcap, .slice la n3 lcap]] W fun e w' => e = .returned (.int .i64 (c 4)) ∧ Below W.heap.size W w') :
  Calls Tryz.prog 14 #[.agg #[.slice ra n1 rcap, .slice za n2 zcap, .slice la n3 lcap]] w fun e w' => e = .returned (.int .i64 (iO c)) ∧ Below w.heap.size w w' := by
 have H0 := hid h0
 have H1 := hid h1
 have H2 := hid h2
 have H3 := hid h3
 have H4 := hid h4
 clear h0 h1 h2 h3 h4
 have XS := hid (aH (aC w [.slice ra n1 rcap, .slice za n2 zcap, .slice la n3 lcap] 26) (.cells #[.func (.func 42) #[] #[], .func (.func 43) #[] #[], .func (.func 44) #[] #[], .func (.func 45) #[] #[], .func (.func 46) #[] #[]] 29))
 have XF := hid (aC (w.alloc (.cells #[.slice ra n1 rcap, .slice za n2 zcap, .slice la n3 lcap] 26)) [.func (.func 42) #[] #[], .func (.func 43) #[] #[], .func (.func 44) #[] #[], .func (.func 45) #[] #[], .func (.func 46) #[] #[]] 29)
 have B0 := hid (((q4B _ w).alloc (Nat.le_refl _) (.cells #[.slice ra n1 rcap, .slice za n2 zcap, .slice la n3 lcap] 26)).alloc (by simp) (.cells #[.func (.func 42) #[] #[], .func (.func 43) #[] #[], .func (.func 44) #[] #[], .func (.func 45) #[] #[], .func (.func 46) #[] #[]] 29))
 rw [World.size_alloc] at XF
 go_enter Tryz.func14, Tryz.ntmps14
 go_wp2_with fail
 go_loopw [10] (fun a wr => ∃ k : Nat, k ≤ 5 ∧ a = .int .i64 k ∧ Hid (Below w.heap.size w wr) ∧ Hid (ag wr w.heap.size [.slice ra n1 rcap, .slice za n2 zcap, .slice la n3 lcap]) ∧ Hid (ag wr (w.heap.size + 1) [.func (.func 42) #[] #[], .func (.func 43) #[] #[], .func (.func 44) #[] #[], .func (.func 45) #[] #[], .func (.func 46) #[] #[]]) ∧ Hid (∀ i < k, c i = 0)) (fun a _ => 5 - (intOf a).toNat)
 case atStart => exact ⟨0, by omega, rfl, B0, XS, XF, fun i hi => absurd hi (Nat.not_lt_zero _)⟩
 case round =>
  clear B0 XS XF
  obtain ⟨k, hk, rfl, B0, XS, XF, HC⟩ := hrel
  obtain ⟨⟨x0, f0⟩, ⟨x1, f1⟩, ⟨x2, f2⟩, sx⟩ := cp3 XS.out
  have sf := XF.out.1
  rcases (show k = 0 ∨ k = 1 ∨ k = 2 ∨ k = 3 ∨ k = 4 ∨ k = 5 by omega) with rfl | rfl | rfl | rfl | rfl | rfl
  ·have CC := hid (H0.out HC.out wr B0.out)
   have y := (aa XF.out 0 rfl).1
   clear H0 H1 H2 H3 H4
   obtain ⟨E, hE⟩ : ∃ E, c 0 = E := ⟨_, rfl⟩
   rw [hE] at CC
   have HE := hid hE
   clear hE
   go_wp2_with fail
   refine CC.out.mono ?_
   rintro e w1 ⟨rfl, hb⟩
   have B1 := hid (B0.out.trans (hb.mono B0.out.size))
   have X1 := hid (ah XS.out hb)
   have Y1 := hid (ah XF.out hb)
   clear CC hb B0 XS XF
   by_cases hq : E = 0
   ·subst hq
    have HC2 : Hid (∀ i < 1, c i = 0) := fun i hi => by
     by_cases e : i = 0
     ·rw [e]; exact HE.out
     ·exact HC.out i (by omega)
    clear HC HE
    go_wp2
    go_roundw
    case rel => exact ⟨1, by omega, by go_num, B1, X1, Y1, HC2⟩
    case measure => simp [intOf]
   ·have hq2 : (E == 0) = false := by simp [hq]
    have hq3 : decide (E = 0) = false := by simp [hq]
    go_wp2
    go_ret
    exact ⟨ai (by rw [tX (by omega) HC.out (by rw [HE.out]; exact hq), HE.out]), B1.out⟩
  ·have CC := hid (H1.out HC.out wr B0.out)
   have y := (aa XF.out 1 rfl).1
   clear H0 H1 H2 H3 H4
   obtain ⟨E, hE⟩ : ∃ E, c 1 = E := ⟨_, rfl⟩
   rw [hE] at CC
   have HE := hid hE
   clear hE
   go_wp2_with fail
   refine CC.out.mono ?_
   rintro e w1 ⟨rfl, hb⟩
   have B1 := hid (B0.out.trans (hb.mono B0.out.size))
   have X1 := hid (ah XS.out hb)
   have Y1 := hid (ah XF.out hb)
   clear CC hb B0 XS XF
   by_cases hq : E = 0
   ·subst hq
    have HC2 : Hid (∀ i < 2, c i = 0) := fun i hi => by
     by_cases e : i = 1
     ·rw [e]; exact HE.out
     ·exact HC.out i (by omega)
    clear HC HE
    go_wp2
    go_roundw
    case rel => exact ⟨2, by omega, by go_num, B1, X1, Y1, HC2⟩
    case measure => simp [intOf]
   ·have hq2 : (E == 0) = false := by simp [hq]
    have hq3 : decide (E = 0) = false := by simp [hq]
    go_wp2
    go_ret
    exact ⟨ai (by rw [tX (by omega) HC.out (by rw [HE.out]; exact hq), HE.out]), B1.out⟩
  ·have CC := hid (H2.out HC.out wr B0.out)
   have y := (aa XF.out 2 rfl).1
   clear H0 H1 H2 H3 H4
   obtain ⟨E, hE⟩ : ∃ E, c 2 = E := ⟨_, rfl⟩
   rw [hE] at CC
   have HE := hid hE
   clear hE
   go_wp2_with fail
   refine CC.out.mono ?_
   rintro e w1 ⟨rfl, hb⟩
   have B1 := hid (B0.out.trans (hb.mono B0.out.size))
   have X1 := hid (ah XS.out hb)
   have Y1 := hid (ah XF.out hb)
   clear CC hb B0 XS XF
   by_cases hq : E = 0
   ·subst hq
    have HC2 : Hid (∀ i < 3, c i = 0) := fun i hi => by
     by_cases e : i = 2
     ·rw [e]; exact HE.out
     ·exact HC.out i (by omega)
    clear HC HE
    go_wp2
    go_roundw
    case rel => exact ⟨3, by omega, by go_num, B1, X1, Y1, HC2⟩
    case measure => simp [intOf]
   ·have hq2 : (E == 0) = false := by simp [hq]
    have hq3 : decide (E = 0) = false := by simp [hq]
    go_wp2
    go_ret
    exact ⟨ai (by rw [tX (by omega) HC.out (by rw [HE.out]; exact hq), HE.out]), B1.out⟩
  ·have CC := hid (H3.out HC.out wr B0.out)
   have y := (aa XF.out 3 rfl).1
   clear H0 H1 H2 H3 H4
   obtain ⟨E, hE⟩ : ∃ E, c 3 = E := ⟨_, rfl⟩
   rw [hE] at CC
   have HE := hid hE
   clear hE
   go_wp2_with fail
   refine CC.out.mono ?_
   rintro e w1 ⟨rfl, hb⟩
   have B1 := hid (B0.out.trans (hb.mono B0.out.size))
   have X1 := hid (ah XS.out hb)
   have Y1 := hid (ah XF.out hb)
   clear CC hb B0 XS XF
   by_cases hq : E = 0
   ·subst hq
    have HC2 : Hid (∀ i < 4, c i = 0) := fun i hi => by
     by_cases e : i = 3
     ·rw [e]; exact HE.out
     ·exact HC.out i (by omega)
    clear HC HE
    go_wp2
    go_roundw
    case rel => exact ⟨4, by omega, by go_num, B1, X1, Y1, HC2⟩
    case measure => simp [intOf]
   ·have hq2 : (E == 0) = false := by simp [hq]
    have hq3 : decide (E = 0) = false := by simp [hq]
    go_wp2
    go_ret
    exact ⟨ai (by rw [tX (by omega) HC.out (by rw [HE.out]; exact hq), HE.out]), B1.out⟩
  ·have CC := hid (H4.out HC.out wr B0.out)
   have y := (aa XF.out 4 rfl).1
   clear H0 H1 H2 H3 H4
   obtain ⟨E, hE⟩ : ∃ E, c 4 = E := ⟨_, rfl⟩
   rw [hE] at CC
   have HE := hid hE
   clear hE
   go_wp2_with fail
   refine CC.out.mono ?_
   rintro e w1 ⟨rfl, hb⟩
   have B1 := hid (B0.out.trans (hb.mono B0.out.size))
   have X1 := hid (ah XS.out hb)
   have Y1 := hid (ah XF.out hb)
   clear CC hb B0 XS XF
   by_cases hq : E = 0
   ·subst hq
    have HC2 : Hid (∀ i < 5, c i = 0) := fun i hi => by
     by_cases e : i = 4
     ·rw [e]; exact HE.out
     ·exact HC.out i (by omega)
    clear HC HE
    go_wp2
    go_roundw
    case rel => exact ⟨5, by omega, by go_num, B1, X1, Y1, HC2⟩
    case measure => simp [intOf]
   ·have hq2 : (E == 0) = false := by simp [hq]
    have hq3 : decide (E = 0) = false := by simp [hq]
    go_wp2
    go_ret
    exact ⟨ai (by rw [tX (by omega) HC.out (by rw [HE.out]; exact hq), HE.out]), B1.out⟩
  ·clear H0 H1 H2 H3 H4
   go_wp2
   go_ret
   exact ⟨ai (by rw [Pe HC.out]), B0.out⟩
end
namespace Sx
theorem tV : ∀ {l : List Er}, iW l = 0 → ∀ x ∈ l, ∃ b, dS x b = 0
 | [], _, x, hx => by cases hx
 | [a], h, x, hx => by rw [List.mem_singleton] at hx; subst hx; exact ⟨true, h⟩
 | a :: b :: r, h, x, hx => by
   have h' : (if dS a false ≠ 0 then dS a false else iW (b :: r)) = 0 := h
   by_cases q : dS a false = 0
   ·rw [if_neg (by simp [q])] at h'
    rcases List.mem_cons.1 hx with rfl | hx
    ·exact ⟨false, q⟩
    ·exact tV h' x hx
   ·rw [if_pos q] at h'; exact absurd h' q
structure EA (x : Er) : Prop where
 name : x.rules = [] ∨ aW x.rules = true
 fmt : cZ x.format = true
 sh0 : -64800 ≤ x.shift
 sh1 : x.shift ≤ 64800
 sv0 : 0 ≤ x.save
 sv1 : x.save ≤ 10800
 till : x.opn = true ∨ lC x
theorem Ty {x : Er} {b : Bool} (h : dS x b = 0) : EA x := by
 unfold dS at h
 split at h
 ·cases h
 rename_i h1
 split at h
 ·cases h
 rename_i h2
 split at h
 ·cases h
 rename_i h3
 split at h
 ·cases h
 split at h
 ·cases h
 simp [inB] at h1 h2 h3
 have ht : x.opn = true ∨ lC x := by
  unfold rW at h
  by_cases q : x.opn = true
  ·exact .inl q
  ·rw [if_neg q] at h
   split at h
   ·cases h
   rename_i h4
   split at h
   ·cases h
   rename_i h5
   simp [inB] at h4 h5
   exact .inr ⟨h4, h5.1, h5.2, h2.1, h2.2⟩
 refine ⟨?_, h1.2, h2.1, h2.2, h3.1, h3.2, ht⟩
 rcases h1.1 with q | q
 ·exact .inl (by simpa using q)
 ·exact .inr q
structure EH (s : Sr) : Prop where
 many : fw s = false
 rule : ∀ r ∈ s.rules, dz r = 0
 zone : ∀ z ∈ s.zones, dm z = 0
 link : ∀ l ∈ s.links, eU l = 0
theorem ow {s : Sr} (h : eB s = 0) : EH s := by
 unfold eB at h
 split at h
 ·cases h
 rename_i h1
 unfold orE at h
 split at h
 ·rename_i q; exact absurd h q
 rename_i h2
 split at h
 ·rename_i q; exact absurd h q
 rename_i h3
 simp at h1 h2 h3
 exact ⟨by simpa using h1, jq _ h2, jq _ h3, jq _ h⟩
theorem qU {z : Zn} (h : dm z = 0) : ∀ x ∈ z.eras, EA x := by
 unfold dm at h
 split at h
 ·cases h
 ·intro x hx
  obtain ⟨b, hb⟩ := tV h x hx
  exact Ty hb
theorem Kq {rs : List Rl} {nm : Tx.Bs} {a b : Int} (ha : -64800 ≤ a ∧ a ≤ 64800) (hb : -64800 ≤ b ∧ b ≤ 64800) : aY rs nm a = aY rs nm b := by
 unfold aY
 rw [show inB a (-64800) 64800 = true by simp [inB]; omega, show inB b (-64800) 64800 = true by simp [inB]; omega]
end Sx
section
open Go.RowKit Go.Shelf
/- what zone.Check answers -/
def jK (s : Sx.Sr) (xs : List ZV) : Nat → Int
 | 0 => Sx.eB s
 | 1 => mP (dL s.zones s.links)
 | 2 => oH s.rules s.links xs
 | 3 => fP s.rules (aQ xs)
 | _ => kV xs
def jL (s : Sx.Sr) (xs : List ZV) : Int := iO (jK s xs)
theorem qy {w : World} {v : Value} {zs : List Sx.Zn} {xs : List ZV} (h : kC w v zs xs) {p : ZV} (hp : p ∈ xs) : p.z ∈ zs := by
 rw [← h.fst]; exact List.mem_map_of_mem hp
theorem KZ {w : World} {v : Value} {zs : List Sx.Zn} {xs : List ZV} (h : kC w v zs xs) {e : Sx.Er} (he : e ∈ aQ xs) : ∃ z ∈ zs, e ∈ z.eras := by
 obtain ⟨p, hp, q⟩ := List.mem_flatMap.1 he
 exact ⟨p.z, qy h hp, q⟩
/- a source as the call finds it -/
structure gG (s : Sx.Sr) (xs : List ZV) (ra za la : Option Addr) (rcap zcap lcap : Nat) (m : Int) (w : World) : Prop where
 rules : bN w (.slice ra s.rules.length rcap) s.rules
 zones : fU w (.slice za xs.length zcap) s.zones
 cap : rq w (.slice za xs.length zcap) s.zones
 zv : kC w (.slice za xs.length zcap) s.zones xs
 links : fJ w (.slice la s.links.length lcap) s.links
 size : rT s
 max : w.cell? ⟨0, 0, none⟩ = some (.int .i64 m)
 pos : 0 < w.heap.size
theorem aM {s : Sx.Sr} {xs : List ZV} {ra za la : Option Addr} {rcap zcap lcap : Nat} {m : Int} {w W : World} (h : gG s xs ra za la rcap zcap lcap m w) (hb : Below w.heap.size w W) : gG s xs ra za la rcap zcap lcap m W :=
 ⟨au h.rules hb, eH h.zones hb, pu h.cap h.zones hb, dP h.zv hb, au h.links hb, h.size, (hb.cell (p := ⟨0, 0, none⟩) h.pos).trans h.max, q4N h.pos hb.size⟩
theorem KG (s : Sx.Sr) (xs : List ZV) (ra za la : Option Addr) (rcap zcap lcap : Nat) (m : Int) (w : World) (h : gG s xs ra za la rcap zcap lcap m w) :
  Calls Tryz.prog 14 #[.agg #[.slice ra s.rules.length rcap, .slice za xs.length zcap, .slice la s.links.length lcap]] w fun e w' => e = .returned (.int .i64 (jL s xs)) ∧ Below w.heap.size w w' := by
 have hl := lY h.zv
 have facts : jK s xs 0 = 0 → s.rules.length ≤ 40 ∧ xs.length ≤ 20 ∧ s.links.length ≤ 20 ∧ (∀ p ∈ xs, p.z.eras.length ≤ 8) ∧ (∀ e ∈ aQ xs, Sx.EA e) ∧ (∀ p ∈ xs, ∀ e ∈ p.z.eras, e.opn = true ∨ lC e) ∧ (aQ xs).length ≤ 160 := by
  intro h0
  have ok := Sx.ow h0
  obtain ⟨f1, f2, f3, f4⟩ := nk ok.many
  have f5 : ∀ p ∈ xs, p.z.eras.length ≤ 8 := fun p hp => f4 p.z (qy h.zv hp)
  have hlen : ∀ l : List ZV, (∀ p ∈ l, p.z.eras.length ≤ 8) → (aQ l).length ≤ l.length * 8 := by
   intro l
   induction l with
   | nil => intro _; simp [aQ]
   | cons a r ih =>
     intro hh
     have h1 := hh a (by simp)
     have h2 := ih (fun p hp => hh p (List.mem_cons_of_mem _ hp))
     have e : (aQ (a :: r)).length = a.z.eras.length + (aQ r).length := by simp [aQ]
     rw [e, List.length_cons]; omega
  have hlen' := hlen xs f5
  refine ⟨f1, by omega, f3, f5, ?_, ?_, by omega⟩
  ·intro e he
   obtain ⟨z, hz, q⟩ := KZ h.zv he
   exact Sx.qU (ok.zone z hz) e q
  ·intro p hp e he
   exact (Sx.qU (ok.zone p.z (qy h.zv hp)) e he).till
 refine KH (jK s xs) ra za la s.rules.length xs.length s.links.length rcap zcap lcap w ?_ ?_ ?_ ?_ ?_
 ·intro _ W hW
  have g := aM h hW
  exact J7 s _ _ _ m W ⟨g.rules, g.zones, g.links⟩ g.cap g.size g.max g.pos
 ·intro hc W hW
  have g := aM h hW
  obtain ⟨f1, f2, f3, f4, f5, f6, f7⟩ := facts (hc 0 (by omega))
  refine yu s.zones s.links xs ra za la s.rules.length rcap zcap lcap W g.zv g.links (by omega) (by omega) ?_
  intro n hn
  unfold dL at hn
  rcases List.mem_append.1 hn with hn | hn
  ·obtain ⟨z, hz, rfl⟩ := List.mem_map.1 hn
   exact (h.size.zones z hz).1
  ·obtain ⟨l, hl, rfl⟩ := List.mem_map.1 hn
   exact (h.size.links l hl).2
 ·intro hc W hW
  have g := aM h hW
  obtain ⟨f1, f2, f3, f4, f5, f6, f7⟩ := facts (hc 0 (by omega))
  exact yo s.rules s.zones s.links xs ra za la rcap zcap lcap W g.rules g.zv g.links (by omega) (by omega) (by omega) (fun p hp => by have := f4 p hp; omega)
 ·intro hc W hW
  have g := aM h hW
  obtain ⟨f1, f2, f3, f4, f5, f6, f7⟩ := facts (hc 0 (by omega))
  refine yt s.zones s.rules xs ra za la s.links.length rcap zcap lcap W g.rules g.zv (by omega) (fun p hp => by have := f4 p hp; omega) (by omega) h.size.rules ?_ ?_
  ·intro e he
   obtain ⟨z, hz, q⟩ := KZ h.zv he
   exact ((h.size.zones z hz).2 e q).1
  ·intro e he e' he' q
   rw [q]
   exact Sx.Kq ⟨(f5 e he).sh0, (f5 e he).sh1⟩ ⟨(f5 e' he').sh0, (f5 e' he').sh1⟩
 ·intro hc W hW
  have g := aM h hW
  obtain ⟨f1, f2, f3, f4, f5, f6, f7⟩ := facts (hc 0 (by omega))
  exact Av s.zones xs (.slice ra s.rules.length rcap) (.slice la s.links.length lcap) ra za la s.rules.length s.links.length rcap zcap lcap W g.zv (by omega) (fun p hp => by have := f4 p hp; omega) f6
end
section
open Go.RowKit Go.Shelf
attribute [local go_sem] Oper.semAt_some

def LA : Sx.Tm := ⟨0, 0, []⟩
def lastT (p : Sx.Tm → Bool) (l : List Sx.Tm) : Sx.Tm := l.foldl (fun a x => if p x = true then x else a) LA
end
namespace Sx

structure Sz (s : Sr) : Prop where
 rules : ∀ r ∈ s.rules, r.name.length ≤ 24 ∧ r.letter.length ≤ 24
 zones : ∀ z ∈ s.zones, z.name.length ≤ 24 ∧ ∀ x ∈ z.eras, x.rules.length ≤ 24 ∧ x.format.length ≤ 24
 links : ∀ l ∈ s.links, l.to.length ≤ 24 ∧ l.name.length ≤ 24
structure LC (st : St) (i : Nat) : Prop where
 must : st.must = true → st.src.zones ≠ []
 rules : st.src.rules.length ≤ i
 zones : st.src.zones.length ≤ i
 links : st.src.links.length ≤ i
 eras : ∀ z ∈ st.src.zones, z.eras.length ≤ i
 sz : Sz st.src
theorem Ke : LC ⟨gQ, false⟩ 0 := ⟨fun h => (by cases h), Nat.le_refl _, Nat.le_refl _, Nat.le_refl _, by simp [gQ], ⟨by simp [gQ], by simp [gQ], by simp [gQ]⟩⟩
theorem Jn {s t : Tx.Bs} (h : kY s = some t) : t = [] ∨ t = s := by
 unfold kY at h
 split at h
 ·simp at h; exact .inl h
 ·split at h
  ·simp at h; exact .inr h.symm
  ·cases h
theorem uu {s t : Tx.Bs} (h : mr s = some t) : t = s := by
 unfold mr at h
 split at h
 ·simp at h; exact h.symm
 ·cases h
theorem Ja {s t : Tx.Bs} (h : nO s = some t) : t = s := by
 unfold nO at h
 split at h
 ·simp at h; exact h.symm
 ·cases h
theorem NC {s : Tx.Bs} {p : Tx.Bs × Int} (h : om s = some p) : p.1 = [] ∨ p.1 = s := by
 rw [oo] at h
 split at h
 ·simp at h; subst h; exact .inl rfl
 ·split at h
  ·split at h
   ·cases h
   ·simp [Option.map_eq_some_iff] at h; obtain ⟨_, _, rfl⟩ := h; exact .inl rfl
  ·split at h
   ·simp at h; subst h; exact .inr rfl
   ·cases h
theorem QD {fs : List Tx.Bs} {p : Rl × List Tx.Bs} (h : uI fs = some p) (hf : ∀ f ∈ fs, f.length ≤ 24) : p.1.name.length ≤ 24 ∧ p.1.letter.length ≤ 24 := by
 unfold uI at h
 split at h
 ·simp only [Option.bind_eq_some_iff, Option.map_eq_some_iff] at h
  obtain ⟨nm, h1, _, _, _, _, _, _, _, _, _, _, _, _, lt, h8, rfl⟩ := h
  have e1 := uu h1
  subst e1
  refine ⟨hf _ (by simp), ?_⟩
  rcases Jn h8 with rfl | rfl
  ·simp
  ·exact hf _ (by simp)
 ·cases h
theorem KV {fs : List Tx.Bs} {p : Er × List Tx.Bs} (h : rY fs = some p) (hf : ∀ f ∈ fs, f.length ≤ 24) : p.1.rules.length ≤ 24 ∧ p.1.format.length ≤ 24 := by
 unfold rY at h
 split at h
 ·rename_i a b c rest
  simp only [Option.bind_eq_some_iff] at h
  obtain ⟨_, _, rs, h2, fm, h3, h⟩ := h
  have e3 := Ja h3
  subst e3
  have hr : rs.1.length ≤ 24 := by
   rcases NC h2 with q | q <;> rw [q]
   ·simp
   ·exact hf _ (by simp)
  have hc : fm.length ≤ 24 := hf _ (by simp)
  split at h
  ·simp at h; subst h; exact ⟨hr, hc⟩
  ·simp only [Option.bind_eq_some_iff] at h
   obtain ⟨_, _, _, _, _, _, _, _, h⟩ := h
   split at h
   ·cases h
   ·simp at h; subst h; exact ⟨hr, hc⟩
  ·cases h
 ·cases h
theorem uV {α : Type} {o : Option (α × List Tx.Bs)} {a : α} (h : whole o = some a) : o = some (a, []) := by
 unfold whole at h
 split at h
 ·simp at h; subst h; rfl
 ·cases h
theorem ou {α : Type} : ∀ (l : List α), l ≠ [] → ∃ a x, l = a ++ [x]
 | [], h => absurd rfl h
 | [x], _ => ⟨[], x, rfl⟩
 | x :: y :: r, _ => by
   obtain ⟨a, z, e⟩ := ou (y :: r) (by simp)
   exact ⟨x :: a, z, by rw [e]; rfl⟩
theorem Cy {st st' : St} {l : Tx.Ln} {i : Nat} (h : jA st l = some st') (hf : ∀ f ∈ l.fields, f.length ≤ 24) (hk : LC st i) : LC st' (i + 1) := by
 obtain ⟨m1, k1, k2, k3, k4, ⟨s1, s2, s3⟩⟩ := hk
 unfold jA at h
 split at h
 ·cases h
 split at h
 ·rename_i hm
  simp only [Option.map_eq_some_iff] at h
  obtain ⟨x, hx, rfl⟩ := h
  have hs := KV (uV hx) hf
  obtain ⟨zs, z0, e⟩ := ou _ (m1 hm)
  rw [e] at k2 k4 s2
  have hz0 := k4 z0 (by simp)
  have ha : uZ x st.src.zones = zs ++ [⟨z0.name, z0.eras ++ [x]⟩] := by rw [e, o8]
  refine ⟨fun _ => by rw [ha]; simp, by simp; omega, by rw [ha]; simp at k2 ⊢; omega, by simp; omega, ?_, ⟨s1, ?_, s3⟩⟩
  ·rw [ha]
   intro y hy
   simp at hy
   rcases hy with hy | rfl
   ·have := k4 y (by simp [hy]); omega
   ·simp; omega
  ·rw [ha]
   intro y hy
   simp at hy
   rcases hy with hy | rfl
   ·exact s2 y (by simp [hy])
   ·refine ⟨(s2 z0 (by simp)).1, fun q hq => ?_⟩
    simp at hq
    rcases hq with hq | rfl
    ·exact (s2 z0 (by simp)).2 q hq
    ·exact hs
 ·unfold rO at h
  split at h
  ·cases h
  rename_i w fs hfs
  have hf' : ∀ f ∈ fs, f.length ≤ 24 := fun f q => hf f (by rw [hfs]; simp [q])
  have k4' : ∀ z ∈ st.src.zones, z.eras.length ≤ i + 1 := fun z hz => by have := k4 z hz; omega
  split at h
  ·simp only [Option.map_eq_some_iff] at h
   obtain ⟨x, hx, rfl⟩ := h
   have hs := QD (uV hx) hf'
   refine ⟨fun q => (by cases q), by simp; omega, by simp; omega, by simp; omega, k4', ⟨?_, s2, s3⟩⟩
   intro y hy
   simp at hy
   rcases hy with hy | rfl
   ·exact s1 y hy
   ·exact hs
  split at h
  ·simp only [Option.map_eq_some_iff] at h
   obtain ⟨x, hx, rfl⟩ := h
   have hz := uV hx
   unfold Ao at hz
   split at hz
   ·rename_i n fs2
    simp only [Option.bind_eq_some_iff, Option.map_eq_some_iff] at hz
    obtain ⟨nm, h1, p, h2, h3⟩ := hz
    have e1 := uu h1
    subst e1
    have hs := KV h2 (fun f q => hf' f (by simp [q]))
    simp at h3
    obtain ⟨rfl, _⟩ := h3
    have hn := hf' nm (by simp)
    refine ⟨fun _ => by simp, by simp; omega, by simp; omega, by simp; omega, ?_, ⟨s1, ?_, s3⟩⟩
    ·intro y hy
     simp at hy
     rcases hy with hy | rfl
     ·exact k4' y hy
     ·simp
    ·intro y hy
     simp at hy
     rcases hy with hy | rfl
     ·exact s2 y hy
     ·exact ⟨hn, fun q hq => by simp at hq; subst hq; exact hs⟩
   ·cases hz
  split at h
  ·simp only [Option.map_eq_some_iff] at h
   obtain ⟨x, hx, rfl⟩ := h
   have hz := uV hx
   unfold Cc at hz
   split at hz
   ·simp only [Option.bind_eq_some_iff, Option.map_eq_some_iff] at hz
    obtain ⟨nm, h1, p, h2, h3⟩ := hz
    have e1 := uu h1
    have e2 := uu h2
    subst e1 e2
    simp at h3
    obtain ⟨rfl, _⟩ := h3
    refine ⟨fun q => (by cases q), by simp; omega, by simp; omega, by simp; omega, k4', ⟨s1, s2, ?_⟩⟩
    intro y hy
    simp at hy
    rcases hy with hy | rfl
    ·exact s3 y hy
    ·exact ⟨hf' _ (by simp), hf' _ (by simp)⟩
   ·cases hz
  ·cases h
end Sx
end Go.Proofs.YtkhlkohlccndgaaGreat
