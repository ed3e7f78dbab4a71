/- The contract of the document's WhenOf. -/
import Derived.Test.YtnmdfbbfgiaijaaTbA
import Derived.Test.YtnmdfbbfgiaijaaTbT
namespace Go.Proofs.Ytnmdfbbfgiaijaa
open Go.RowKit
set_option linter.unusedVariables false
set_option linter.unusedSimpArgs false

theorem Try.infoInt : (Try.prog.info? 3).map (fun i => (i.zero, i.size, i.bytes)) = some (some (.int .i64 0), 1, 8) := by kernel_rfl
def intL (n : Int) : List Value := [.int .i64 n]
def OwnInts (w : World) (B : Nat) (v : Value) (l : List Int) : Prop := w.ownsRow B 3 1 v l.length (l.map (Value.int .i64))
theorem ownInts_below {W w' : World} {B : Nat} {v : Value} {l : List Int} (h : OwnInts W B v l) (hb : Below W.heap.size W w') : OwnInts w' B v l := owns_below h hb
theorem ownInts_nil (w : World) (B : Nat) : OwnInts w B (.slice none 0 0) [] := World.ownsRow_nil _ _ _ _
theorem ownInts_rd {w : World} {B : Nat} {v : Value} {l : List Int} (h : OwnInts w B v l) : RdInts w v l := by
  refine own_rd (fun _ => rfl) (B := B) (e := 3) ?_
  have : ∀ l : List Int, l.flatMap (fun n : Int => [Value.int .i64 n]) = l.map (Value.int .i64) := by
    intro l
    induction l with
    | nil => rfl
    | cons a r ih => rw [List.flatMap_cons, ih]; rfl
  rw [this]; exact h

set_option maxRecDepth 100000 in
set_option maxHeartbeats 4000000 in
theorem whenOf_any (t : Tb.Tbl) (v : Value) (y m d s : Int) (w : World) (h : RdCh w v t.ch) (hv : Cv.vldB y m d = true) (s1 : 0 ≤ s) (s2 : s < 86400) (hg : Tb.tableE t = 0) :
    Calls Try.prog 12 #[tbV t.first v, .agg #[.int .i64 y, .int .i64 m, .int .i64 d], .int .i64 s] w fun e w' => ∃ u, e = .returned u ∧ OwnInts w' w.heap.size u (Tb.spans (Cv.num y m d * 86400 + s) Tb.least t.first.shift t.ch) ∧ Below w.heap.size w w' := by
  obtain ⟨f, ch⟩ := t
  obtain ⟨g1, g2, g3⟩ := Tb.good_parts hg
  simp only at h g1 g2 g3 ⊢
  obtain ⟨r1, r2⟩ := Tb.good_spans g3 (Cv.num y m d * 86400 + s) f.shift
  have fb := Tb.goodL_bd g2
  obtain ⟨fb1, fb2, _⟩ := fb
  have cb : Hid (∀ c ∈ ch, Tb.least ≤ c.at_ ∧ c.at_ ≤ Tb.most ∧ -75600 ≤ c.lc.shift ∧ c.lc.shift ≤ 75600) := by
    intro c hc
    obtain ⟨_, q, _⟩ := Tb.goE_rise ch f none g3
    obtain ⟨q1, q2, q3⟩ := q c hc
    have := Tb.goodL_bd q3
    exact ⟨q1, q2, this.1, this.2.1⟩
  obtain ⟨v1, v2, v3, v4, v5, v6⟩ := Cv.vld_iff.1 hv
  have vb := Cv.num_bd hv
  obtain ⟨D, hD⟩ : ∃ D, Cv.num y m d = D := ⟨_, rfl⟩
  have DA := hid (fun W => rDays_any y m d W v1 (by omega) v3 v4 (by omega) (by have := Cv.dim_bd y m; omega))
  rw [hD] at DA vb r1 r2 ⊢
  clear hD hv v1 v2 v3 v4 v5 v6 hg g2 g3
  obtain ⟨n, hn⟩ : ∃ n, D * 86400 + s = n := ⟨_, rfl⟩
  have nb : -62135596800 ≤ n ∧ n ≤ 253402300799 := by omega
  rw [hn] at r1 r2 ⊢
  obtain ⟨R, hR⟩ : ∃ R, Tb.spans n Tb.least f.shift ch = R := ⟨_, rfl⟩
  have HR : Hid (R = [] ++ Tb.left n Tb.least f.shift ch 0) := by show _ = _; rw [← hR]; simp [Tb.left]
  have RL : R.length ≤ ch.length + 1 := by rw [← hR]; exact Tb.spans_len _ _ _ _
  rw [hR] at r1 r2 ⊢
  have R1 := hid r1
  have R2 := hid r2
  clear hR r1 r2
  have H := hid h
  obtain ⟨a, cap, rfl, _⟩ := h
  obtain ⟨i0, hi, hz0, hz1, hz2⟩ := info_parts Try.infoInt
  have X0 := hid (ca_alloc (ca_new w [.int .i64 f.shift, .int .i64 f.save, strV f.name, .slice a ch.length cap] 26) (.cells #[.int .i64 y, .int .i64 m, .int .i64 d] 28))
  have B0 : Hid (Below w.heap.size w ((w.alloc (.cells [Value.int .i64 f.shift, .int .i64 f.save, strV f.name, .slice a ch.length cap].toArray 26)).alloc (.cells #[.int .i64 y, .int .i64 m, .int .i64 d] 28))) := ((Below.refl _ _).alloc (Nat.le_refl _) _).alloc (by simp) _
  go_enter Try.func12, Try.ntmps12
  go_wp2_with fail
  refine (DA.out _).mono ?_
  rintro e w1 ⟨rfl, hb1⟩
  have X1 := hid (ca_below X0.out hb1)
  have B1 : Hid (Below w.heap.size w w1) := B0.out.trans (hb1.mono B0.out.size)
  have z1 : w.heap.size + 2 ≤ w1.heap.size := by have := hb1.size; simp at this; omega
  clear X0 B0 hb1
  go_wp2_with fail
  refine (least_any _).mono ?_
  rintro e w2 ⟨rfl, hb2⟩
  have X2 := hid (ca_below X1.out hb2)
  have B2 : Hid (Below w.heap.size w w2) := B1.out.trans (hb2.mono B1.out.size)
  have z2 : w.heap.size + 2 ≤ w2.heap.size := Nat.le_trans z1 hb2.size
  clear X1 B1 hb2 z1
  obtain ⟨x0, f0⟩ := ca_at X2.out 0 rfl
  have sx := X2.out.1
  go_wp2_with fail
  clear x0 f0 sx
  go_loopw [8, 9, 10, 11, 12] (fun o fr sh iv _ wr => ∃ (i : Nat) (out : List Int) (F S : Int), i ≤ ch.length + 1 ∧ iv = .int .i64 i ∧ fr = .int .i64 F ∧ sh = .int .i64 S ∧ -75600 ≤ S ∧ S ≤ 75600 ∧ -62135596800 ≤ F ∧ F ≤ 253402300800 ∧ out.length ≤ i ∧ Hid (R = out ++ Tb.left n F S ch i) ∧ Hid (OwnInts wr (w.heap.size + 2) o out) ∧ Hid (Below w.heap.size w wr) ∧ w.heap.size + 2 ≤ wr.heap.size ∧ Hid (CellsAt wr w.heap.size [.int .i64 f.shift, .int .i64 f.save, strV f.name, .slice a ch.length cap])) (fun _ _ _ iv _ _ => ch.length + 1 - (intOf iv).toNat)
  case atStart => exact ⟨0, [], -62135596800, f.shift, by omega, rfl, rfl, rfl, fb1, fb2, by omega, by omega, by simp, HR, ownInts_nil _ _, B2, z2, X2⟩
  case round =>
    clear HR B2 z2 X2
    obtain ⟨i, out, F, S, h1, rfl, rfl, rfl, S1, S2, F1, F2, ho, HR, HO, B0, z0, X0⟩ := hrel
    obtain ⟨va, vcap, rfl⟩ := owns_shape0 HO.out
    obtain ⟨x3, f3⟩ := ca_at X0.out 3 rfl
    have sx := X0.out.1
    by_cases hend : i = ch.length + 1
    · have HR2 : Hid (R = out) := by show _ = _; rw [HR.out, Tb.left_end (by omega)]; simp
      clear HR
      subst hend
      obtain rfl : R = out := HR2.out
      clear HR2 hn nb fb1 fb2 cb S1 S2 F1 F2 DA hi hz0 hz1 hz2 h1 ho
      go_wp2_with fail
      simp only [Int.natCast_add, Int.natCast_one]
      clear x3 f3 sx X0
      go_loopw [13] (fun av wr => ∃ i : Nat, i ≤ R.length ∧ av = .int .i64 (i + 1) ∧ Hid (OwnInts wr (w.heap.size + 2) (.slice va R.length vcap) R) ∧ Hid (Below w.heap.size w wr)) (fun av _ => R.length + 1 - (intOf av).toNat)
      case atStart => exact ⟨0, by omega, rfl, HO, B0⟩
      case round =>
        clear HO B0
        obtain ⟨i, hi, rfl, HO, B0⟩ := hrel
        by_cases hlt : i + 1 < R.length
        · go_wp2_with fail
          go_loopw [14] (fun bv wr => bv = .int .i64 (i + 1) ∧ Hid (OwnInts wr (w.heap.size + 2) (.slice va R.length vcap) R) ∧ Hid (Below w.heap.size w wr)) (fun _ _ => 0)
          case atStart => exact ⟨rfl, HO, B0⟩
          case round =>
            clear HO B0
            obtain ⟨rfl, HO, B0⟩ := hrel
            obtain ⟨p, hp⟩ : ∃ p, R[i]? = some p := ⟨_, List.getElem?_eq_getElem (by omega)⟩
            obtain ⟨q, hq⟩ : ∃ q, R[i + 1]? = some q := ⟨_, List.getElem?_eq_getElem hlt⟩
            obtain ⟨pb, po, _, e1, pl, pc⟩ := rdInts_at (ownInts_rd HO.out) hp
            simp only [Value.slice.injEq] at e1
            obtain ⟨rfl, _, rfl⟩ := e1
            obtain ⟨qb, qo, _, e2, ql, qc⟩ := rdInts_at (ownInts_rd HO.out) hq
            simp only [Value.slice.injEq, Option.some.injEq, Addr.mk.injEq] at e2
            obtain ⟨⟨rfl, rfl, _⟩, _, rfl⟩ := e2
            have hpq : ¬ q < p := by
              obtain ⟨i1, e1⟩ := List.getElem?_eq_some_iff.1 hp
              obtain ⟨i2, e2⟩ := List.getElem?_eq_some_iff.1 hq
              have := List.pairwise_iff_getElem.1 R2.out i (i + 1) i1 i2 (by omega)
              omega
            clear hp hq
            go_wp2_with fail
            go_quiet (fail)
            go_wp2
            go_roundw
            case rel => exact ⟨i + 1, by omega, by go_num, HO.out, below_drewN B0.out _⟩
            case measure => simp [intOf]; omega
        · go_wp2
          go_ret
          exact ⟨_, rfl, owns_base HO.out (by omega), B0.out⟩
    · have h1' : i ≤ ch.length := by omega
      clear h1 hend
      go_wp2_with fail
      refine (most_any _).mono ?_
      rintro e w3 ⟨rfl, hb3⟩
      have X3 := hid (ca_below X0.out hb3)
      have B3 : Hid (Below w.heap.size w w3) := B0.out.trans (hb3.mono B0.out.size)
      have z3 : w.heap.size + 2 ≤ w3.heap.size := Nat.le_trans z0 hb3.size
      have O3 := hid (ownInts_below HO.out hb3)
      clear X0 B0 hb3 z0 HO x3 f3 sx
      obtain ⟨x3, f3⟩ := ca_at X3.out 3 rfl
      have sx := X3.out.1
      by_cases hlt : i < ch.length
      · obtain ⟨c, hc⟩ : ∃ c, ch[i]? = some c := ⟨_, List.getElem?_eq_getElem hlt⟩
        obtain ⟨bb, bo, _, e1, ul, u0, u1, u2, u3⟩ := rdCh_at (rdCh_below H.out B3.out) hc
        simp only [Value.slice.injEq] at e1
        obtain ⟨rfl, _, rfl⟩ := e1
        obtain ⟨cb1, cb2, cb3, cb4⟩ := cb.out c (List.mem_of_getElem? hc)
        have cb1' : (-62135596800 : Int) ≤ c.at_ := cb1
        have cb2' : c.at_ ≤ (253402300799 : Int) := cb2
        have HC := hid hc
        have HR1 := HR.out
        rw [Tb.left_next hc] at HR1
        clear cb1 cb2 hc HR
        by_cases hq : F ≤ n - S ∧ n - S < c.at_
        · rw [if_pos hq] at HR1
          have HR2 := hid HR1
          obtain ⟨q1, q2⟩ := hq
          clear HR1
          go_wp2_with (at_builtin; refine wpList_append_own _ rfl _ _ 32 rfl (w.heap.size + 2) 3 i0 (.int .i64 0) 1 8 Try.underlying32 hi hz0 hz1 hz2 rfl (by decide) _ _ _ rfl (World.ownsRow.alloc O3.out _) _ 1 1 [.int .i64 (n - S)] rfl rfl (one_cell _ _) (by intro u hu; simp at hu; subst hu; rfl) (by unfold maxLen; omega) (by omega) (by simp; omega) ?_)
          intro v' w4 hown' hgrow _
          have B4 : Hid (Below w.heap.size w w4) := Below.grown (B3.out.alloc B3.out.size _) hgrow (by simp; omega) (fun k hk => by have := (O3.out.lt k hk).1; omega)
          have X4 := hid (ca_grownO (ca_alloc X3.out _) hgrow (fun k hk => by have := (O3.out.lt k hk).1; omega))
          have O4 : Hid (OwnInts w4 (w.heap.size + 2) v' (out ++ [n - S])) := by show World.ownsRow _ _ _ _ _ _ _; simpa using hown'
          have z4 : w.heap.size + 2 ≤ w4.heap.size := by have := hgrow.size; simp at this; omega
          clear hown' hgrow B3 O3 X3 z3 x3 f3 sx
          obtain ⟨x3, f3⟩ := ca_at X4.out 3 rfl
          have sx := X4.out.1
          obtain ⟨bb', bo', _, e1, ul', p0, p1, p2, p3⟩ := rdCh_at (rdCh_below H.out B4.out) HC.out
          simp only [Value.slice.injEq, Option.some.injEq, Addr.mk.injEq] at e1
          obtain ⟨⟨rfl, rfl, _⟩, _, rfl⟩ := e1
          clear u0 u1 u2 u3 ul
          go_wp2
          go_roundw
          case rel => exact ⟨i + 1, out ++ [n - S], c.at_, c.lc.shift, by omega, by go_num, rfl, rfl, cb3, cb4, cb1', by omega, by simp; omega, by show R = _; rw [HR2.out]; simp, O4, B4, z4, X4⟩
          case measure => simp [intOf]; omega
        · rw [if_neg hq] at HR1
          have HR2 := hid HR1
          clear HR1
          go_wp2_with fail
          all_goals
            go_roundw
            case rel => exact ⟨i + 1, out, c.at_, c.lc.shift, by omega, by go_num, rfl, rfl, cb3, cb4, cb1', by omega, by omega, by show R = _; rw [HR2.out]; simp, O3, B3, z3, X3⟩
            case measure => simp [intOf]; omega
      · have hil : i = ch.length := by omega
        have HR1 := HR.out
        rw [Tb.left_last (f' := 253402300800) (s' := S) hil, show Tb.most + 1 = 253402300800 from rfl] at HR1
        clear HR h1' hlt
        subst hil
        by_cases hq : F ≤ n - S ∧ n - S < 253402300800
        · rw [if_pos hq] at HR1
          have HR2 := hid HR1
          obtain ⟨q1, q2⟩ := hq
          clear HR1
          go_wp2_with (at_builtin; refine wpList_append_own _ rfl _ _ 32 rfl (w.heap.size + 2) 3 i0 (.int .i64 0) 1 8 Try.underlying32 hi hz0 hz1 hz2 rfl (by decide) _ _ _ rfl (World.ownsRow.alloc O3.out _) _ 1 1 [.int .i64 (n - S)] rfl rfl (one_cell _ _) (by intro u hu; simp at hu; subst hu; rfl) (by unfold maxLen; omega) (by omega) (by simp; omega) ?_)
          intro v' w4 hown' hgrow _
          have B4 : Hid (Below w.heap.size w w4) := Below.grown (B3.out.alloc B3.out.size _) hgrow (by simp; omega) (fun k hk => by have := (O3.out.lt k hk).1; omega)
          have X4 := hid (ca_grownO (ca_alloc X3.out _) hgrow (fun k hk => by have := (O3.out.lt k hk).1; omega))
          have O4 : Hid (OwnInts w4 (w.heap.size + 2) v' (out ++ [n - S])) := by show World.ownsRow _ _ _ _ _ _ _; simpa using hown'
          have z4 : w.heap.size + 2 ≤ w4.heap.size := by have := hgrow.size; simp at this; omega
          clear hown' hgrow B3 O3 X3 z3 x3 f3 sx
          obtain ⟨x3, f3⟩ := ca_at X4.out 3 rfl
          have sx := X4.out.1
          go_wp2
          go_roundw
          case rel => exact ⟨ch.length + 1, out ++ [n - S], 253402300800, S, by omega, by go_num, rfl, rfl, S1, S2, by omega, by omega, by simp; omega, by show R = _; rw [HR2.out]; simp, O4, B4, z4, X4⟩
          case measure => simp [intOf]
        · rw [if_neg hq] at HR1
          have HR2 := hid HR1
          clear HR1
          go_wp2_with fail
          all_goals
            go_roundw
            case rel => exact ⟨ch.length + 1, out, 253402300800, S, by omega, by go_num, rfl, rfl, S1, S2, by omega, by omega, by omega, by show R = _; rw [HR2.out]; simp, O3, B3, z3, X3⟩
            case measure => simp [intOf]
end Go.Proofs.Ytnmdfbbfgiaijaa
