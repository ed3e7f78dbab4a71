/- What must be of delta in any case, is. -/
import Derived.Test.YtombhnjmelidcaaPdF
namespace Go.Proofs.Ytombhnjmelidcaa
open Go.RowKit Go.Lib
set_option linter.unusedVariables false
set_option linter.unusedSimpArgs false

/- a patch that comes, in a block of its own -/
structure PtFin (V : World) (q : Tb.Pt) (wc : World) (Z : Nat) (pv : Value) : Prop where
  lt : V.heap.size ≤ Z
  cells : CellsAt wc Z (ptC q.first q.head q.tail pv)
  own : OwnCh wc V.heap.size pv q.put
  bel : Below V.heap.size V wc
abbrev pat0 : Obj := .cells #[.int .i64 0, .int .i64 0, .string ⟨#[]⟩, .int .i64 0, .int .i64 0, .slice none 0 0] 42
theorem ptFin_new {V w6 : World} {q : Tb.Pt} {pv : Value} (ho : OwnCh w6 V.heap.size pv q.put) (hb : Below V.heap.size V w6) : PtFin V q (w6.alloc (.cells (ptC q.first q.head q.tail pv).toArray 42)) w6.heap.size pv :=
  ⟨hb.size, ca_new _ _ _, World.ownsRow.alloc ho _, hb.alloc hb.size _⟩
theorem ptFin_old {V w6 : World} {Z : Nat} {q : Tb.Pt} {pv : Value} (hZ : V.heap.size ≤ Z) (hc : CellsAt w6 Z (ptC ⟨0, 0, []⟩ 0 0 (.slice none 0 0))) (ho : OwnCh w6 (Z + 1) pv q.put) (hb : Below V.heap.size V w6) :
    PtFin V q ((((((w6.setCell ⟨Z, 0, none⟩ (.int .i64 q.first.shift)).setCell ⟨Z, 1, none⟩ (.int .i64 q.first.save)).setCell ⟨Z, 2, none⟩ (strV q.first.name)).setCell ⟨Z, 3, none⟩ (.int .i64 q.head)).setCell ⟨Z, 4, none⟩ (.int .i64 q.tail)).setCell ⟨Z, 5, none⟩ pv) Z pv := by
  have ne : ∀ o, pv.ownBlock ≠ some (⟨Z, o, none⟩ : Addr).block := fun o q => by have := (ho.lt _ q).1; simp only at this; omega
  refine ⟨by omega, ca_put (ca_put (ca_put (ca_put (ca_put (ca_put hc 0 _ (by simp)) 1 _ (by simp)) 2 _ (by simp)) 3 _ (by simp)) 4 _ (by simp)) 5 _ (by simp), ?_, ?_⟩
  · repeat (refine ownsRow_setCell_other ?_ (ne _) _)
    exact owns_base ho (by omega)
  · repeat (refine below_set ?_ hZ _)
    exact hb
abbrev Tb4 (X : Nat) (f : Tb.Lc) (v : Value) (w : World) : Prop :=
  w.cell? ⟨X, 0, none⟩ = some (.int .i64 f.shift) ∧ w.cell? ⟨X, 1, none⟩ = some (.int .i64 f.save) ∧ w.cell? ⟨X, 2, none⟩ = some (strV f.name) ∧ w.cell? ⟨X, 3, none⟩ = some v
theorem tb4_kept {X : Nat} {f : Tb.Lc} {v : Value} {w w' : World} (h : Tb4 X f v w) (e : ∀ o, w'.cell? ⟨X, o, none⟩ = w.cell? ⟨X, o, none⟩) : Tb4 X f v w' := ⟨(e _).trans h.1, (e _).trans h.2.1, (e _).trans h.2.2.1, (e _).trans h.2.2.2⟩
theorem tb4_alloc {X : Nat} {f : Tb.Lc} {v : Value} {w : World} (h : Tb4 X f v w) (hs : X < w.heap.size) (o : Obj) : Tb4 X f v (w.alloc o) := tb4_kept h fun _ => World.cell?_of_block (Below.heap_alloc _ _ _ hs)
theorem tb4_set {X q o : Nat} {f : Tb.Lc} {v u : Value} {w : World} (h : Tb4 X f v w) (hq : X < q) : Tb4 X f v (w.setCell ⟨q, o, none⟩ u) := tb4_kept h fun _ => World.cell?_of_block (Below.heap_setCell _ _ _ _ (by show X ≠ q; omega))
theorem tb4_of {X : Nat} {f : Tb.Lc} {v : Value} {w : World} (h : CellsAt w X (tbC f v)) : Tb4 X f v w := ⟨(ca_at h 0 rfl).1, (ca_at h 1 rfl).1, (ca_at h 2 rfl).1, (ca_at h 3 rfl).1⟩
abbrev Pt6 (X : Nat) (f : Tb.Lc) (h t : Int) (v : Value) (w : World) : Prop :=
  w.cell? ⟨X, 0, none⟩ = some (.int .i64 f.shift) ∧ w.cell? ⟨X, 1, none⟩ = some (.int .i64 f.save) ∧ w.cell? ⟨X, 2, none⟩ = some (strV f.name) ∧ w.cell? ⟨X, 3, none⟩ = some (.int .i64 h) ∧ w.cell? ⟨X, 4, none⟩ = some (.int .i64 t) ∧ w.cell? ⟨X, 5, none⟩ = some v
theorem pt6_kept {X : Nat} {f : Tb.Lc} {h t : Int} {v : Value} {w w' : World} (H : Pt6 X f h t v w) (e : ∀ o, w'.cell? ⟨X, o, none⟩ = w.cell? ⟨X, o, none⟩) : Pt6 X f h t v w' := by
  obtain ⟨a0, a1, a2, a3, a4, a5⟩ := H
  exact ⟨(e _).trans a0, (e _).trans a1, (e _).trans a2, (e _).trans a3, (e _).trans a4, (e _).trans a5⟩
theorem pt6_alloc {X : Nat} {f : Tb.Lc} {h t : Int} {v : Value} {w : World} (H : Pt6 X f h t v w) (hs : X < w.heap.size) (o : Obj) : Pt6 X f h t v (w.alloc o) := pt6_kept H fun _ => World.cell?_of_block (Below.heap_alloc _ _ _ hs)
theorem pt6_set {X q o : Nat} {f : Tb.Lc} {h t : Int} {v u : Value} {w : World} (H : Pt6 X f h t v w) (hq : X < q) : Pt6 X f h t v (w.setCell ⟨q, o, none⟩ u) := pt6_kept H fun _ => World.cell?_of_block (Below.heap_setCell _ _ _ _ (by show X ≠ q; omega))
theorem pt6_of {X : Nat} {f : Tb.Lc} {h t : Int} {v : Value} {w : World} (H : CellsAt w X (ptC f h t v)) : Pt6 X f h t v w := ⟨(ca_at H 0 rfl).1, (ca_at H 1 rfl).1, (ca_at H 2 rfl).1, (ca_at H 3 rfl).1, (ca_at H 4 rfl).1, (ca_at H 5 rfl).1⟩
theorem pt6_arm {X : Nat} {f : Tb.Lc} {h t : Int} {v : Value} {V W w3 : World} (hc : CellsAt V X (ptC f h t v)) (hV : Below V.heap.size V W) (hb : Below W.heap.size W w3) : Below V.heap.size V w3 ∧ Pt6 X f h t v w3 ∧ X < w3.heap.size :=
  ⟨hV.trans (hb.mono hV.size), pt6_of (ca_below hc (hV.trans (hb.mono hV.size))), (ca_below hc (hV.trans (hb.mono hV.size))).1⟩
/- behind a call from a world on -/
theorem tb4_arm {X : Nat} {f : Tb.Lc} {v : Value} {V W w3 : World} (hc : CellsAt V X (tbC f v)) (hV : Below V.heap.size V W) (hb : Below W.heap.size W w3) : Below V.heap.size V w3 ∧ Tb4 X f v w3 ∧ X < w3.heap.size :=
  ⟨hV.trans (hb.mono hV.size), tb4_of (ca_below hc (hV.trans (hb.mono hV.size))), (ca_below hc (hV.trans (hb.mono hV.size))).1⟩
theorem ownBase {V W w4 : World} {pv : Value} {l : List Tb.Cg} (ho : OwnCh w4 W.heap.size pv l) (hV : Below V.heap.size V W) : Hid (OwnCh w4 V.heap.size pv l) := owns_base ho hV.size

set_option maxRecDepth 100000 in
set_option maxHeartbeats 4000000 in
theorem deltaBegun_is (w : World) : Calls Try.prog 17 #[] w fun e w' => e = .returned (.bool true) ∧ Below w.heap.size w w' := by
  obtain ⟨T, hT⟩ : ∃ T, sm = T := ⟨_, rfl⟩
  obtain ⟨U, hU⟩ : ∃ U, smu = U := ⟨_, rfl⟩
  obtain ⟨A, hA⟩ : ∃ A, smA = A := ⟨_, rfl⟩
  have HF1 : Hid (T.first = A) := by show _ = _; rw [← hT, ← hA]; rfl
  have HF2 : Hid (U.first = A) := by show _ = _; rw [← hU, ← hA]; rfl
  have HSM : Hid (∀ W, Calls Try.prog 23 #[] W fun e w' => ∃ b, e = .returned (tbV A (.slice (some ⟨b, 0, none⟩) 2 2)) ∧ ArgT w' T (.slice (some ⟨b, 0, none⟩) 2 2) ∧ Below W.heap.size W w') := fun W => by
    have := small_arg W; rw [show sm.first = smA from rfl, hT, hA] at this; exact this
  have HU2 : Hid (∀ (W : World) (b : Nat), ArgT W T (.slice (some ⟨b, 0, none⟩) 2 2) → ArgT W U (.slice (some ⟨b, 0, none⟩) 1 2)) := fun W b h => by rw [← hU]; rw [← hT] at h; exact smu_arg h
  have HDF : Hid (∀ (W : World) (b c : Nat), ArgT W T (.slice (some ⟨b, 0, none⟩) 2 2) → ArgT W U (.slice (some ⟨c, 0, none⟩) 1 2) → Calls Try.prog 19 #[tbV A (.slice (some ⟨b, 0, none⟩) 2 2), tbV A (.slice (some ⟨c, 0, none⟩) 1 2)] W fun e w' => ∃ pv, e = .returned (.tuple #[ptV A 1 0 pv, .int .i64 0]) ∧ OwnCh w' W.heap.size pv [] ∧ Below W.heap.size W w') := fun W b c h1 h2 => by
    have := pDiff' h1 h2
    rw [HF1.out, HF2.out] at this
    refine this.mono ?_
    rintro e w' ⟨p, pv, he, hz, _, ho, hb⟩
    have e0 : Tb.diffE T U = 0 := by rw [Tb.diffE, ← hT, ← hU, sm_good]; simpa using smu_good
    have hd := hz e0
    rw [← hT, ← hU] at hd
    have := Tb.diff_unique hd sm_diff
    subst this
    rw [e0] at he
    rw [← hA]
    exact ⟨pv, he, ho, hb⟩
  have HAP : Hid (∀ (W : World) (b : Nat) (pv : Value), ArgT W T (.slice (some ⟨b, 0, none⟩) 2 2) → RdCh W pv [] → Calls Try.prog 18 #[tbV A (.slice (some ⟨b, 0, none⟩) 2 2), ptV A 1 0 pv] W fun e w' => ∃ ov, e = .returned (.tuple #[tbV A ov, .int .i64 0]) ∧ OwnCh w' W.heap.size ov U.ch ∧ Below W.heap.size W w') := fun W b pv h1 h2 => by
    have ap : ArgP W ⟨A, 1, 0, []⟩ pv := ⟨h2, Nat.zero_le _, by rw [← hA]; unfold maxLen; decide, by simp, fun k hk => by rcases hk with rfl | rfl <;> simp only <;> omega⟩
    have := pApply' h1 ap
    rw [HF1.out] at this
    refine this.mono ?_
    rintro e w' ⟨f, ov, l, he, hz, _, ho, hb⟩
    have e0 : Tb.pApplyE T ⟨A, 1, 0, []⟩ = 0 := by rw [← hT, ← hA]; decide
    obtain ⟨hf, hl⟩ := hz e0
    rw [e0, hf] at he
    rw [hl] at ho
    have e1 : (Tb.applied T ⟨A, 1, 0, []⟩).ch = U.ch := by rw [← hT, ← hA, ← hU]; rfl
    rw [e1] at ho
    exact ⟨ov, he, ho, hb⟩
  have HL : Hid (U.ch.length ≤ 1000000) := by show _ ≤ _; rw [← hU]; decide
  clear hT hU hA HF1 HF2
  go_enter Try.func17, Try.ntmps17
  go_wp2_with fail
  refine (HSM.out _).mono ?_
  rintro e w1 ⟨b1, rfl, r1, hb1⟩
  have R1 := hid r1
  have B1 := hid hb1
  clear r1 hb1
  go_wp2_with fail
  obtain ⟨V, hV⟩ : ∃ V, w1.alloc (.cells (tbC A (.slice (some ⟨b1, 0, none⟩) 1 2)).toArray 26) = V := ⟨_, rfl⟩
  obtain ⟨X, hX⟩ : ∃ X, w1.heap.size = X := ⟨_, rfl⟩
  have BV : Hid (Below w.heap.size w V) := by rw [← hV]; exact B1.out.alloc B1.out.size _
  have UV : Hid (CellsAt V X (tbC A (.slice (some ⟨b1, 0, none⟩) 1 2))) := by rw [← hV, ← hX]; exact ca_new _ _ _
  have RV : Hid (ArgT V U (.slice (some ⟨b1, 0, none⟩) 1 2)) := by rw [← hV]; exact argT_below (HU2.out _ _ R1.out) ((Below.refl _ _).alloc (Nat.le_refl _) _)
  rw [show w1.alloc (.cells #[.int .i64 A.shift, .int .i64 A.save, .string ⟨A.name.toArray⟩, .slice (some ⟨b1, 0, none⟩) 1 2] 26) = V from hV, hX]
  clear hV hX R1 B1 HU2
  go_cut [2, 3] from 11 to 16 (fun s2 s3 wc => ∃ Z pv, s2 = .pointer (some ⟨Z, 0, none⟩) ∧ s3 = .int .i64 0 ∧ Hid (PtFin V ⟨A, 1, 0, []⟩ wc Z pv))
  case first =>
    have T4 := tb4_of UV.out
    have sX := UV.out.1
    have UV' := UV.out
    have VA : Below V.heap.size V V.drew := below_drew _ _
    have VB : Below V.heap.size V (V.alloc pat0).drew := ((Below.refl V.heap.size V).alloc (Nat.le_refl _) _).trans (below_drew _ _)
    have T4A : Tb4 X A (.slice (some ⟨b1, 0, none⟩) 1 2) V.drew := T4
    have T4B : Tb4 X A (.slice (some ⟨b1, 0, none⟩) 1 2) (V.alloc pat0).drew := tb4_alloc T4 sX _
    obtain ⟨u0, u1, u2, u3⟩ := id T4
    have RV' := RV.out
    have ZB : CellsAt (V.alloc pat0).drew V.heap.size (ptC ⟨0, 0, []⟩ 0 0 (.slice none 0 0)) := ca_new V (ptC ⟨0, 0, []⟩ 0 0 (.slice none 0 0)) 42
    go_region_held3 (fun w' => w'.cell? ⟨X, 0, none⟩ = some (.int .i64 A.shift) ∧ w'.cell? ⟨X, 1, none⟩ = some (.int .i64 A.save) ∧ w'.cell? ⟨X, 2, none⟩ = some (strV A.name) ∧ w'.cell? ⟨X, 3, none⟩ = some (.slice (some ⟨b1, 0, none⟩) 1 2))
      (first | (with_reducible exact T4) | (with_reducible exact T4A) | (with_reducible exact T4B) | (with_reducible exact T43) | (with_reducible exact tb4_alloc T43 s3 _) | (with_reducible exact T44) | (with_reducible exact tb4_alloc T44 s4 _) | (with_reducible exact tb4_set (tb4_set (tb4_set (tb4_set (tb4_set (tb4_set (T44) zq) zq) zq) zq) zq) zq) | (with_reducible exact tb4_set (tb4_set (tb4_set (tb4_set (tb4_set (tb4_set (tb4_alloc T44 s4 _) s4) s4) s4) s4) s4) s4) | go_keep)
      (first | (go_at_call 23; (refine (HSM.out V.drew).mono ?_); rintro e w3 ⟨b3, rfl, r3, hb3⟩; obtain ⟨q3, T43, s3⟩ := tb4_arm UV' VA hb3) | (go_at_call 23; (refine (HSM.out (V.alloc pat0).drew).mono ?_); rintro e w3 ⟨b3, rfl, r3, hb3⟩; obtain ⟨q3, T43, s3⟩ := tb4_arm UV' VB hb3; have Z3 := ca_below ZB hb3) | (go_at_call 19; have D1 := HDF.out w3 b3 b1 r3 (argT_below RV' q3); have Z3' := Z3; (with_reducible refine D1.mono ?_); rintro e w4 ⟨pv, rfl, O4, hb4⟩; obtain ⟨q4, T44, s4⟩ := tb4_arm UV' q3 hb4; have O5 := ownBase O4 q3; obtain ⟨pa, pcap, rfl⟩ := owns_shape0 O4; obtain ⟨Z4, ⟨z0, z1, z2, z3, z4, z5⟩, ⟨y0, y1, y2, y3, y4, y5⟩, sz⟩ := res6 Z3 hb4; have zq : X < V.heap.size := sX; have FB := hid (ptFin_old (q := ⟨A, 1, 0, []⟩) (Nat.le_refl _) Z4 (owns_base O4 Z3.1) q4); clear D1 hb4 O4 Z4 Z3 Z3') | (go_at_call 19; have D1 := HDF.out w3 b3 b1 r3 (argT_below RV' q3); (with_reducible refine D1.mono ?_); rintro e w4 ⟨pv, rfl, O4, hb4⟩; obtain ⟨q4, T44, s4⟩ := tb4_arm UV' q3 hb4; have O5 := ownBase O4 q3; obtain ⟨pa, pcap, rfl⟩ := owns_shape0 O4; have FA := hid (ptFin_new (q := ⟨A, 1, 0, []⟩) O5.out q4); clear D1 hb4 O4) | (go_at_call 19; have qa := Below.alloc q3 q3.size pat0; have ra := (Below.refl w3.heap.size w3).alloc (Nat.le_refl _) pat0; have D1 := HDF.out (w3.alloc pat0) b3 b1 (argT_below r3 ra) (argT_below RV' qa); (with_reducible refine D1.mono ?_); rintro e w4 ⟨pv, rfl, O4, hb4⟩; obtain ⟨q4, T44, s4⟩ := tb4_arm UV' qa hb4; have O5 := ownBase O4 qa; obtain ⟨pa, pcap, rfl⟩ := owns_shape0 O4; have Z3 := ca_new w3 (ptC ⟨0, 0, []⟩ 0 0 (.slice none 0 0)) 42; obtain ⟨Z4, ⟨z0, z1, z2, z3, z4, z5⟩, ⟨y0, y1, y2, y3, y4, y5⟩, sz⟩ := res6 Z3 hb4; have zq : X < w3.heap.size := s3; have FB := hid (ptFin_old (q := ⟨A, 1, 0, []⟩) q3.size Z4 (owns_base O4 Z3.1) q4); clear D1 hb4 O4 Z4 Z3 qa ra))
    all_goals
      go_wp2_with fail
      go_meet
      first
        | exact ⟨_, _, rfl, rfl, FB⟩
        | exact ⟨_, _, rfl, rfl, FA⟩
  case rest =>
  obtain ⟨Z, pv0, rfl, rfl, F⟩ := hcut
  obtain ⟨V2, hV2⟩ : ∃ V2, wc = V2 := ⟨_, rfl⟩
  have PV : Hid (CellsAt V2 Z (ptC A 1 0 pv0)) := by rw [← hV2]; exact F.out.cells
  have UV2 : Hid (CellsAt V2 X (tbC A (.slice (some ⟨b1, 0, none⟩) 1 2))) := by rw [← hV2]; exact ca_below UV.out F.out.bel
  have RV2 : Hid (ArgT V2 U (.slice (some ⟨b1, 0, none⟩) 1 2)) := by rw [← hV2]; exact argT_below RV.out F.out.bel
  have RP2 : Hid (RdCh V2 pv0 []) := by rw [← hV2]; exact ownCh_rd F.out.own
  have BV2 : Hid (Below w.heap.size w V2) := by rw [← hV2]; exact BV.out.trans (F.out.bel.mono BV.out.size)
  rw [hV2]
  clear hV2 F UV RV BV
  obtain ⟨pa0, pcap0, epv, _⟩ := RP2.out
  subst epv
  obtain ⟨pv0, hp0⟩ : ∃ pv0, Value.slice pa0 ([] : List Tb.Cg).length pcap0 = pv0 := ⟨_, rfl⟩
  rw [hp0] at PV RP2
  have HP0 := hid hp0
  clear hp0
  go_wp2_with fail
  go_cut [4, 5] from 17 to 22 (fun s4 s5 wc => ∃ Y ov, s4 = .pointer (some ⟨Y, 0, none⟩) ∧ s5 = .int .i64 0 ∧ Hid (ApFin V2 V2.heap.size A U.ch wc Y ov))
  case first =>
    have T4 := pt6_of PV.out
    have sX := PV.out.1
    have PV' := PV.out
    have VA : Below V2.heap.size V2 V2.drew := below_drew _ _
    have VB : Below V2.heap.size V2 (V2.alloc tab0).drew := ((Below.refl V2.heap.size V2).alloc (Nat.le_refl _) _).trans (below_drew _ _)
    have T4A : Pt6 Z A 1 0 pv0 V2.drew := T4
    have T4B : Pt6 Z A 1 0 pv0 (V2.alloc tab0).drew := pt6_alloc T4 sX _
    obtain ⟨u0, u1, u2, u3, u4, u5⟩ := id T4
    have RV' := RP2.out
    have ZB : CellsAt (V2.alloc tab0).drew V2.heap.size (tbC ⟨0, 0, []⟩ (.slice none 0 0)) := ca_new V2 (tbC ⟨0, 0, []⟩ (.slice none 0 0)) 26
    go_region_held3 (fun w' => w'.cell? ⟨Z, 0, none⟩ = some (.int .i64 A.shift) ∧ w'.cell? ⟨Z, 1, none⟩ = some (.int .i64 A.save) ∧ w'.cell? ⟨Z, 2, none⟩ = some (strV A.name) ∧ w'.cell? ⟨Z, 3, none⟩ = some (.int .i64 1) ∧ w'.cell? ⟨Z, 4, none⟩ = some (.int .i64 0) ∧ w'.cell? ⟨Z, 5, none⟩ = some pv0)
      (first | (with_reducible exact T4) | (with_reducible exact T4A) | (with_reducible exact T4B) | (with_reducible exact T43) | (with_reducible exact pt6_alloc T43 s3 _) | (with_reducible exact T44) | (with_reducible exact pt6_alloc T44 s4 _) | (with_reducible exact pt6_set (pt6_set (pt6_set (pt6_set (T44) zq) zq) zq) zq) | (with_reducible exact pt6_set (pt6_set (pt6_set (pt6_set (pt6_alloc T44 s4 _) s4) s4) s4) s4) | go_keep)
      (first | (go_at_call 23; (refine (HSM.out V2.drew).mono ?_); rintro e w3 ⟨b3, rfl, r3, hb3⟩; obtain ⟨q3, T43, s3⟩ := pt6_arm PV' VA hb3) | (go_at_call 23; (refine (HSM.out (V2.alloc tab0).drew).mono ?_); rintro e w3 ⟨b3, rfl, r3, hb3⟩; obtain ⟨q3, T43, s3⟩ := pt6_arm PV' VB hb3; have Z3 := ca_below ZB hb3) | (go_at_call 18; have D1 := HAP.out w3 b3 pv0 r3 (rdCh_below RV' q3); have Z3' := Z3; (with_reducible refine D1.mono ?_); rintro e w4 ⟨pv, rfl, O4, hb4⟩; obtain ⟨q4, T44, s4⟩ := pt6_arm PV' q3 hb4; have O5 := ownBase O4 q3; obtain ⟨pa, pcap, rfl⟩ := owns_shape0 O4; obtain ⟨Z4, ⟨z0, z1, z2, z3⟩, ⟨y0, y1, y2, y3⟩, sz⟩ := res4 Z3 hb4; have zq : Z < V2.heap.size := sX; have FB := hid (apFin_old (g := A) (Nat.le_refl _) (Nat.le_refl _) Z4 (owns_base O4 Z3.1) q4); clear D1 hb4 O4 Z4 Z3 Z3') | (go_at_call 18; have D1 := HAP.out w3 b3 pv0 r3 (rdCh_below RV' q3); (with_reducible refine D1.mono ?_); rintro e w4 ⟨pv, rfl, O4, hb4⟩; obtain ⟨q4, T44, s4⟩ := pt6_arm PV' q3 hb4; have O5 := ownBase O4 q3; obtain ⟨pa, pcap, rfl⟩ := owns_shape0 O4; have FA := hid (apFin_new (g := A) (Nat.le_refl _) O5.out q4); clear D1 hb4 O4) | (go_at_call 18; have qa := Below.alloc q3 q3.size tab0; have ra := (Below.refl w3.heap.size w3).alloc (Nat.le_refl _) tab0; have D1 := HAP.out (w3.alloc tab0) b3 pv0 (argT_below r3 ra) (rdCh_below RV' qa); (with_reducible refine D1.mono ?_); rintro e w4 ⟨pv, rfl, O4, hb4⟩; obtain ⟨q4, T44, s4⟩ := pt6_arm PV' qa hb4; have O5 := ownBase O4 qa; obtain ⟨pa, pcap, rfl⟩ := owns_shape0 O4; have Z3 := ca_new w3 (tbC ⟨0, 0, []⟩ (.slice none 0 0)) 26; obtain ⟨Z4, ⟨z0, z1, z2, z3⟩, ⟨y0, y1, y2, y3⟩, sz⟩ := res4 Z3 hb4; have zq : Z < w3.heap.size := s3; have FB := hid (apFin_old (g := A) (Nat.le_refl _) q3.size Z4 (owns_base O4 Z3.1) q4); clear D1 hb4 O4 Z4 Z3 qa ra))
    all_goals
      go_wp2_with fail
      go_meet
      first
        | exact ⟨_, _, rfl, rfl, FB⟩
        | exact ⟨_, _, rfl, rfl, FA⟩
  case rest =>
  obtain ⟨Y, ov, rfl, rfl, F⟩ := hcut
  obtain ⟨oa, ocap, rfl⟩ := owns_shape0 F.out.own
  have PV3 := hid (ca_below PV.out F.out.bel)
  have UV3 := hid (ca_below UV2.out F.out.bel)
  have RV3 := hid (argT_below RV2.out F.out.bel).rd
  have RO3 := hid (ownCh_rd F.out.own)
  have YV3 := hid F.out.cells
  have BV3 : Hid (Below w.heap.size w wc) := BV2.out.trans (F.out.bel.mono BV2.out.size)
  clear F PV UV2 RV2 RP2 BV2
  obtain ⟨p0, _⟩ := ca_at PV3.out 0 rfl
  obtain ⟨p3, _⟩ := ca_at PV3.out 3 rfl
  obtain ⟨p4, _⟩ := ca_at PV3.out 4 rfl
  obtain ⟨p5, _⟩ := ca_at PV3.out 5 rfl
  rw [← HP0.out] at p5
  obtain ⟨-, ⟨x0, x1, x2, x3⟩, -, sx⟩ := res4 UV3.out (Below.refl _ _)
  obtain ⟨-, ⟨y0, y1, y2, y3⟩, -, sy⟩ := res4 YV3.out (Below.refl _ _)
  have sp := PV3.out.1
  go_wp2_with fail
  refine (sameTable_yes A _ _ U.ch _ RO3.out RV3.out HL.out).mono ?_
  rintro e w9 ⟨rfl, hb9⟩
  go_wp2
  go_ret
  exact ⟨rfl, BV3.out.trans (hb9.mono BV3.out.size)⟩
end Go.Proofs.Ytombhnjmelidcaa
