/- The contract of the program's local.whenShown. -/
import Derived.Test.YtnmdfbbfgiaijaaPrH
import Derived.Test.YtnmdfbbfgiaijaaTbN
import Derived.Sort.OwnSortedInts
import Derived.Sort.OwnSorted
namespace Go.Proofs.Ytnmdfbbfgiaijaa
open Go.RowKit Go.Maps Go.Sort
set_option linter.unusedVariables false
set_option linter.unusedSimpArgs false

theorem shiftsTo_bd {t : Tb.Tbl} (hg : Tb.tableE t = 0) : (-75600 ≤ t.first.shift ∧ t.first.shift ≤ 75600) ∧ (∀ c ∈ t.ch, -75600 ≤ c.lc.shift ∧ c.lc.shift ≤ 75600) ∧ ∀ s ∈ shiftsTo t.first t.ch t.ch.length, -75600 ≤ s ∧ s ≤ 75600 := by
  obtain ⟨g1, g2, g3⟩ := Tb.good_parts hg
  obtain ⟨_, q2, _⟩ := Tb.goE_rise t.ch t.first none g3
  have a1 := Tb.goodL_bd g2
  have a2 : ∀ c ∈ t.ch, -75600 ≤ c.lc.shift ∧ c.lc.shift ≤ 75600 := fun c hc => by have := Tb.goodL_bd (q2 c hc).2.2; exact ⟨this.1, this.2.1⟩
  refine ⟨⟨a1.1, a1.2.1⟩, a2, fun s hs => ?_⟩
  unfold shiftsTo at hs
  rw [List.take_length] at hs
  simp at hs
  rcases hs with rfl | ⟨c, hc, rfl⟩
  · exact ⟨a1.1, a1.2.1⟩
  · exact a2 c hc
theorem rdInts_no (w : World) (a : Option Addr) (cap : Nat) : RdInts w (.slice a 0 cap) [] := ⟨a, cap, rfl, fun h => absurd rfl h⟩

set_option maxRecDepth 100000 in
set_option maxHeartbeats 4000000 in
theorem whenShown_any (t : Tb.Tbl) (v : Value) (N : Int) (w : World) (h : RdCh w v t.ch) (hg : Tb.tableE t = 0) (n1 : -100000000000 ≤ N) (n2 : N ≤ 1000000000000) :
    Calls Try.prog 20 #[tbV t.first v, .int .i64 N] w fun e w' => ∃ u, e = .returned u ∧ RdInts w' u (Tb.spans N Tb.least t.first.shift t.ch) ∧ Below w.heap.size w w' := by
  obtain ⟨sb1, sb2, sb3⟩ := shiftsTo_bd hg
  obtain ⟨gr, gl⟩ := rise_of_good hg
  have h' := h
  obtain ⟨a, cap, rfl, hc⟩ := h'
  clear hc
  obtain ⟨S, hS⟩ : ∃ S, shiftsTo t.first t.ch t.ch.length = S := ⟨_, rfl⟩
  obtain ⟨W0, hW⟩ : ∃ W0, w.alloc (.cells (tbL t.first (.slice a t.ch.length cap)).toArray 26) = W0 := ⟨_, rfl⟩
  have B0 : Below w.heap.size w W0 := by rw [← hW]; exact (Below.refl _ _).alloc (Nat.le_refl _) _
  have X0 : CellsAt W0 w.heap.size (tbL t.first (.slice a t.ch.length cap)) := by rw [← hW]; exact ca_new _ _ _
  have hC := shifts_any t.first t.ch a cap W0 (rdCh_below h B0) gl sb1 sb2
  rw [hS] at hC sb3
  obtain ⟨b, hb⟩ : ∃ b, W0.heap.size + 1 = b := ⟨_, rfl⟩
  have hbw : w.heap.size < b := by have := B0.size; omega
  rw [hb] at hC
  have HM : Hid (∀ n W, Below w.heap.size w W → Calls Try.prog 31 #[tbV t.first (.slice a t.ch.length cap), .int .i64 n] W fun e w' => e = .returned (lcV (Tb.look t n)) ∧ Below W.heap.size W w') := fun n W hW => momentLocal_any t _ n W (rdCh_below h hW) gr gl
  have HE : Hid (∀ left ts, Coll t N S left ts → (∀ kl, left kl = false) → ts.mergeSort (fun x y => decide (x ≤ y)) = Tb.spans N Tb.least t.first.shift t.ch) := fun left ts hc hl => coll_end (by rw [hS]; exact hc) hl hg
  have HT0 : Hid (Coll t N S (Maps.has (shiftSet S)) []) := coll_start
  have HY : Hid (∀ left ts s, Coll t N S left ts → s ∈ S → left (.int .i64 s) = true → Tb.inYears (N - s) = true → (Tb.look t (N - s)).shift = s → Coll t N S (fun z => left z && !z.sameKey (.int .i64 s)) (ts ++ [N - s])) := fun left ts s h0 h1 h2 h3 h4 => coll_yes h0 h1 h2 h3 h4
  have HNo : Hid (∀ left ts s, Coll t N S left ts → ¬ (Tb.inYears (N - s) = true ∧ (Tb.look t (N - s)).shift = s) → Coll t N S (fun z => left z && !z.sameKey (.int .i64 s)) ts) := fun left ts s h0 h1 => coll_no h0 h1
  have HS3 := hid sb3
  have hfd : ∀ (p q : Int) (s : Tx.Bs) (w : World), (Instr.field 23 (.agg #[.int .i64 p, .int .i64 q, strV s]) 0).run Try.prog w = .ok (.int .i64 p) w := fun _ _ _ _ => by kernel_rfl
  obtain ⟨R, hR⟩ : ∃ R, Tb.spans N Tb.least t.first.shift t.ch = R := ⟨_, rfl⟩
  rw [hR] at HE ⊢
  obtain ⟨Cl, hCl⟩ : ∃ Cl, Coll t N S = Cl := ⟨_, rfl⟩
  obtain ⟨lk, hlk⟩ : ∃ lk, Tb.look t = lk := ⟨_, rfl⟩
  rw [hCl] at HE HT0 HY HNo
  rw [hlk] at HM HY HNo
  obtain ⟨f, ch⟩ := t
  dsimp only at HM hC X0 hW ⊢
  dsimp only at gl
  have HX0 := hid X0
  have HB0 := hid B0
  have HW := hid hW
  rw [← hW] at hC
  have HC := hid hC
  clear hC hS hR hCl hlk sb1 sb2 sb3 gr h hg X0 B0 hW hb
  obtain ⟨i0, hi, hz0, hz1, hz2⟩ := info_parts Try.infoInt
  go_enter Try.func20, Try.ntmps20
  go_wp2_with fail
  refine HC.out.mono ?_
  rintro e w1 ⟨rfl, hown1, hb1⟩
  rw [HW.out] at hb1
  have X1 := hid (ca_below HX0.out hb1)
  have B1 : Hid (Below w.heap.size w w1) := HB0.out.trans (hb1.mono HB0.out.size)
  have hown1' : w1.ownsMap Try.prog 3 (unitElem (H := Unit)) b (ch.length + 1) (shiftSet S) := hown1
  have O1 := hid hown1'
  clear hown1 hown1' HC HX0 HB0 HW hb1
  go_wp2_with (first
    | (at_range; refine wpList_range_own _ rfl _ 64 rfl 3 69 lawInt Try.underlying64 _ b (ch.length + 1) _ rfl O1.out ?_; intro w0 hrg0 hg0 hs0)
    | go_in)
  go_frame
  have sbm := O1.out.lt
  have hlow : w.heap.size < w1.heap.size := by omega
  have hcnt0 : Maps.size (shiftSet S) ≤ 1001 := by have := O1.out.size_le; omega
  have R0 := hid hrg0
  have B9 : Hid (Below w.heap.size w w0) := B1.out.grown hg0 B1.out.size (fun j hj => by cases hj)
  have X9 := hid (ca_grownO X1.out hg0 (fun k hk => by cases hk))
  have hs0' : w1.heap.size < w0.heap.size := by omega
  clear hrg0 hg0 hs0 O1 B1 X1
  go_loopw [5] (fun v wr => ∃ (left : Lit → Bool) (cnt : Nat) (ts : List Int), Hid (wr.ranges Try.prog 3 (unitElem (H := Unit)) b w1.heap.size (ch.length + 1) (shiftSet S) left cnt) ∧ ts.length + cnt ≤ 1001 ∧ Hid (OwnInts wr w1.heap.size v ts) ∧ Hid (Cl left ts) ∧ Hid (Below w.heap.size w wr) ∧ Hid (CellsAt wr w.heap.size (tbL f (.slice a ch.length cap))) ∧ w1.heap.size < wr.heap.size) (fun _ wr => wr.rangeLeft b w1.heap.size)
  case atStart => exact ⟨_, _, [], R0, by simpa using hcnt0, ownInts_nil _ _, HT0, B9, X9, hs0'⟩
  case round =>
    clear R0 B9 X9 hs0' HT0 hcnt0
    obtain ⟨left, cnt, ts, RG, hcnt, HO, HCl, B2, X2, hsz⟩ := hrel
    go_wp2_with (first
      | (at_next; refine wpList_next_ranges _ rfl _ rfl 3 lawInt (unitElem (H := Unit)) (Value.int .i64) (fun _ : Unit => Value.agg #[]) (fun key kl hk => by obtain ⟨x, hx, _⟩ := Maps.keyOf_int_inv Try.underlying3 hk; exact ⟨x, hx⟩) (fun v y hv => ⟨(), (unitElem_inv hv).1⟩) b w1.heap.size (ch.length + 1) _ _ _ rfl RG.out ?_ ?_)
      | go_in)
    · intro hc0 hl0
      have hsorted := HE.out left ts HCl.out hl0
      have HSo := hid hsorted
      rcases HO.out.2 with ⟨hv, hlen⟩ | ⟨g, cap', cur, hv, hbase, hbk, h1, h2, h3, h4⟩
      · have hts : ts = [] := List.length_eq_zero_iff.1 hlen
        subst hv
        have HRn : Hid (R = []) := by show _ = _; rw [← HSo.out, hts]; simp
        have HC2 := hid (Try.slices_Sort_int_none none 0 wr)
        clear hsorted hlen hts HSo
        go_wp2_with (go_at_call 40; refine HC2.out.mono ?_; rintro e w' ⟨rfl, rfl⟩)
        go_ret
        exact ⟨_, rfl, by rw [HRn.out]; exact rdInts_no _ _ _, B2.out⟩
      · subst hv
        have hH : Holds (Value.int .i64) wr g 0 ts.toArray := holds_of_blockI hbk (by simpa using h4)
        have hgl : g < wr.heap.size := (Array.getElem?_eq_some_iff.1 hbk).1
        have HC2 := hid (Try.slices_Sort_int g 0 cap' ts wr hH hgl (by omega))
        have HRD : Hid (∀ nn os, RdInts (grow (putRow (Value.int .i64) (Sort.ahead wr nn) g 0 (ts.mergeSort fun x y => decide (x ≤ y)).toArray) os) (.slice (some ⟨g, 0, none⟩) ts.length cap') R ∧ Below w.heap.size w (grow (putRow (Value.int .i64) (Sort.ahead wr nn) g 0 (ts.mergeSort fun x y => decide (x ≤ y)).toArray) os)) := fun nn os => by
          refine ⟨?_, B2.out.grown (grownBy_sortedI _) B2.out.size (fun j hj => by cases hj; omega)⟩
          have hle : (ts.mergeSort fun x y => decide (x ≤ y)).length = ts.length := by simp
          have q := ownsRow_sortedI (n := nn) (os := os) (ts := ts.mergeSort fun x y => decide (x ≤ y)) hle hbase hbk h1 h2 h3
          have hRl : R.length = ts.length := by rw [← HSo.out, hle]
          refine ownInts_rd (B := w1.heap.size) ?_
          show World.ownsRow _ _ _ _ _ _ _
          rw [hRl, ← HSo.out]
          exact q
        clear hH hgl hsorted hbk h1 h2 h3 h4 hbase
        go_wp2_with (go_at_call 40; refine HC2.out.mono ?_; rintro e w' ⟨rfl, nn, os, rfl⟩)
        go_ret
        exact ⟨_, rfl, (HRD.out nn os).1, (HRD.out nn os).2⟩
    · intro x u kl y w2 cnt2 hkey hlk hv hat hrg2 hlt hg2 hs2 hen
      obtain ⟨x', ex, rfl, _⟩ := Maps.keyOf_int_inv Try.underlying3 hkey
      obtain rfl : x = x' := by simpa using ex
      try dsimp only at hen
      have hin : x ∈ S := by have := has_true_of_atKey hat; rw [has_shiftSet] at this; simpa using this
      obtain ⟨xb1, xb2⟩ := HS3.out x hin
      have O2 : Hid (OwnInts w2 w1.heap.size _ ts) := World.ownsRow.kept HO.out hg2 (Or.inr (row_ne_iter HO.out RG.out).symm)
      have B3 : Hid (Below w.heap.size w w2) := B2.out.grown hg2 B2.out.size (fun j hj => by cases hj; omega)
      have X3 := hid (ca_grownO X2.out hg2 (fun k hk => by cases hk; omega))
      have hsz2 : w1.heap.size < w2.heap.size := by omega
      have RG2 := hid hrg2
      have HLK := hid hlk
      have HIN := hid hin
      have hm1 : wr.rangeLeft b w1.heap.size = cnt := RG.out.left_eq
      have HM1 := hid hm1
      have hcl := HCl
      clear hkey hlk hv hat hrg2 hg2 hs2 hin HO B2 X2 RG hm1 ex hsz
      obtain ⟨T, hT⟩ : ∃ T, Tb.inYears (N - x) = T := ⟨_, rfl⟩
      have HT := hid hT
      clear hT
      cases T
      case false =>
        have HN2 := hid (HNo.out left ts x HCl.out (by rw [HT.out]; simp))
        go_wp2_with (go_at_call 30; refine (pInYears_is _ _ HT.out).mono ?_; rintro e w3 ⟨rfl, rfl⟩)
        go_roundw
        case rel => exact ⟨_, cnt2, ts, RG2, by omega, O2, HN2, B3, X3, hsz2⟩
        case measure => rw [RG2.out.left_eq, HM1.out]; exact hlt
      case true =>
        obtain ⟨L, hL⟩ : ∃ L, lk (N - x) = L := ⟨_, rfl⟩
        have HMC := hid (HM.out (N - x) w2 B3.out)
        rw [hL] at HMC
        obtain ⟨x0, f0⟩ := ca_at X3.out 0 rfl
        obtain ⟨x1, f1⟩ := ca_at X3.out 1 rfl
        obtain ⟨x2, f2⟩ := ca_at X3.out 2 rfl
        obtain ⟨x3, f3⟩ := ca_at X3.out 3 rfl
        have sx := X3.out.1
        have HLe := hid hL
        clear hL
        go_wp2_with (go_at_call 30; refine (pInYears_is _ _ HT.out).mono ?_; rintro e w3 ⟨rfl, rfl⟩)
        refine HMC.out.mono ?_
        rintro e w4 ⟨rfl, hb4⟩
        dsimp only [lcV]
        have RG4 := hid (RG2.out.kept (below_grown hb4) (by simp) (by simp))
        have O4 := hid (ownInts_below O2.out hb4)
        have B4 : Hid (Below w.heap.size w w4) := B3.out.trans (hb4.mono B3.out.size)
        have X4 := hid (ca_below X3.out hb4)
        have hsz4 : w1.heap.size < w4.heap.size := Nat.lt_of_lt_of_le hsz2 hb4.size
        clear HMC RG2 O2 B3 X3 hb4 hsz2 hen x0 f0 x1 f1 x2 f2 x3 f3 sx
        by_cases hq : L.shift = x
        · have HY2 := hid (HY.out left ts x HCl.out HIN.out HLK.out HT.out (by rw [HLe.out]; exact hq))
          go_wp2_with (at_builtin; refine wpList_append_own _ rfl _ _ 32 rfl w1.heap.size 3 i0 (.int .i64 0) 1 8 Try.underlying32 hi hz0 hz1 hz2 rfl (by decide) _ _ _ rfl (World.ownsRow.alloc O4.out _) _ 1 1 [.int .i64 (N - x)] rfl rfl (one_cell _ _) (by intro u hu; simp at hu; subst hu; rfl) (by unfold maxLen; omega) (by omega) (by simp; omega) ?_)
          intro v' w5 hown' hgrow _
          go_wp2
          have RG5 := hid ((RG4.out.alloc (.cells #[.int .i64 (N - x)] 3)).kept hgrow (row_ne_low O4.out sbm) (row_ne_iter O4.out RG4.out))
          go_roundw
          case rel =>
            refine ⟨_, cnt2, ts ++ [N - x], RG5, by simp; omega, ?_, HY2, ?_, ?_, ?_⟩
            · show World.ownsRow _ _ _ _ _ _ _
              simpa using hown'
            · exact Below.grown (B4.out.alloc B4.out.size _) hgrow (by simp; omega) (fun k hk => by have := (O4.out.lt k hk).1; omega)
            · exact ca_grownO (ca_alloc X4.out _) hgrow (fun k hk => by have := (O4.out.lt k hk).1; omega)
            · have := hgrow.size; simp at this; omega
          case measure => rw [RG5.out.left_eq, HM1.out]; exact hlt
        · have HN2 := hid (HNo.out left ts x HCl.out (by rw [HLe.out]; intro q; exact hq q.2))
          go_wp2
          go_roundw
          case rel => exact ⟨_, cnt2, ts, RG4, by omega, O4, HN2, B4, X4, hsz4⟩
          case measure => rw [RG4.out.left_eq, HM1.out]; exact hlt
end Go.Proofs.Ytnmdfbbfgiaijaa
