/- The walk of the law LocalBack. -/
import Derived.Test.YtnmdfbbfgiaijaaLcC
import Derived.Test.YtnmdfbbfgiaijaaLcE
import Derived.Test.YtnmdfbbfgiaijaaTbC
import Derived.Test.YtnmdfbbfgiaijaaTbW
import Derived.Test.YtnmdfbbfgiaijaaTbN
import Derived.Test.YtnmdfbbfgiaijaaBaA
import Derived.OneCell
import Derived.Deep.DeepMust
import Derived.Deep.Cut
import Derived.Deep.CutRange
import Derived.Deep.RegionHeld3
namespace Go.Proofs.Ytnmdfbbfgiaijaa
open Go.RowKit
set_option linter.unusedVariables false
set_option linter.unusedSimpArgs false

theorem keep5 {V w2 : World} {N U o : Nat} {x0 x1 x2 x3 x4 : Value} (hb : Below V.heap.size V w2) (hN : N < V.heap.size) (hU : U < V.heap.size) (h : V.cell? ⟨N, 0, none⟩ = some x0 ∧ V.cell? ⟨N, 1, none⟩ = some x1 ∧ V.cell? ⟨N, 2, none⟩ = some x2 ∧ V.cell? ⟨N, 3, none⟩ = some x3 ∧ V.cell? ⟨U, o, none⟩ = some x4) : w2.cell? ⟨N, 0, none⟩ = some x0 ∧ w2.cell? ⟨N, 1, none⟩ = some x1 ∧ w2.cell? ⟨N, 2, none⟩ = some x2 ∧ w2.cell? ⟨N, 3, none⟩ = some x3 ∧ w2.cell? ⟨U, o, none⟩ = some x4 :=
  ⟨(hb.cell (p := ⟨N, 0, none⟩) hN).trans h.1, (hb.cell (p := ⟨N, 1, none⟩) hN).trans h.2.1, (hb.cell (p := ⟨N, 2, none⟩) hN).trans h.2.2.1, (hb.cell (p := ⟨N, 3, none⟩) hN).trans h.2.2.2.1, (hb.cell (p := ⟨U, o, none⟩) hU).trans h.2.2.2.2⟩
theorem alloc5 {V : World} (ob : Obj) {N U o : Nat} {x0 x1 x2 x3 x4 : Value} (hN : N < V.heap.size) (hU : U < V.heap.size) (h : V.cell? ⟨N, 0, none⟩ = some x0 ∧ V.cell? ⟨N, 1, none⟩ = some x1 ∧ V.cell? ⟨N, 2, none⟩ = some x2 ∧ V.cell? ⟨N, 3, none⟩ = some x3 ∧ V.cell? ⟨U, o, none⟩ = some x4) : (V.alloc ob).cell? ⟨N, 0, none⟩ = some x0 ∧ (V.alloc ob).cell? ⟨N, 1, none⟩ = some x1 ∧ (V.alloc ob).cell? ⟨N, 2, none⟩ = some x2 ∧ (V.alloc ob).cell? ⟨N, 3, none⟩ = some x3 ∧ (V.alloc ob).cell? ⟨U, o, none⟩ = some x4 :=
  keep5 ((Below.refl V.heap.size V).alloc (Nat.le_refl _) ob) hN hU h
theorem set5 {V : World} {N U o : Nat} {x0 x1 x2 x3 x4 : Value} {Y k : Nat} {u : Value} (hN : N ≠ Y) (hU : U ≠ Y) (h : V.cell? ⟨N, 0, none⟩ = some x0 ∧ V.cell? ⟨N, 1, none⟩ = some x1 ∧ V.cell? ⟨N, 2, none⟩ = some x2 ∧ V.cell? ⟨N, 3, none⟩ = some x3 ∧ V.cell? ⟨U, o, none⟩ = some x4) : (V.setCell ⟨Y, k, none⟩ u).cell? ⟨N, 0, none⟩ = some x0 ∧ (V.setCell ⟨Y, k, none⟩ u).cell? ⟨N, 1, none⟩ = some x1 ∧ (V.setCell ⟨Y, k, none⟩ u).cell? ⟨N, 2, none⟩ = some x2 ∧ (V.setCell ⟨Y, k, none⟩ u).cell? ⟨N, 3, none⟩ = some x3 ∧ (V.setCell ⟨Y, k, none⟩ u).cell? ⟨U, o, none⟩ = some x4 := by
  obtain ⟨h0, h1, h2, h3, h4⟩ := h
  have e : ∀ X : Nat, X ≠ Y → ∀ p, (V.setCell ⟨Y, k, none⟩ u).cell? ⟨X, p, none⟩ = V.cell? ⟨X, p, none⟩ := fun X hX p => World.cell?_of_block (w := V) (Below.heap_setCell _ _ _ _ hX)
  exact ⟨(e N hN 0).trans h0, (e N hN 1).trans h1, (e N hN 2).trans h2, (e N hN 3).trans h3, (e U hU o).trans h4⟩

theorem arm1 {V w2 : World} {N U o : Nat} {x0 x1 x2 x3 x4 : Value} (hb : Below V.heap.size V w2) (hN : N < V.heap.size) (hU : U < V.heap.size) (h : V.cell? ⟨N, 0, none⟩ = some x0 ∧ V.cell? ⟨N, 1, none⟩ = some x1 ∧ V.cell? ⟨N, 2, none⟩ = some x2 ∧ V.cell? ⟨N, 3, none⟩ = some x3 ∧ V.cell? ⟨U, o, none⟩ = some x4) : (w2.cell? ⟨N, 0, none⟩ = some x0 ∧ w2.cell? ⟨N, 1, none⟩ = some x1 ∧ w2.cell? ⟨N, 2, none⟩ = some x2 ∧ w2.cell? ⟨N, 3, none⟩ = some x3 ∧ w2.cell? ⟨U, o, none⟩ = some x4) ∧ N < w2.heap.size ∧ U < w2.heap.size ∧ N ≠ w2.heap.size ∧ U ≠ w2.heap.size :=
  ⟨keep5 hb hN hU h, Nat.lt_of_lt_of_le hN hb.size, Nat.lt_of_lt_of_le hU hb.size, Nat.ne_of_lt (Nat.lt_of_lt_of_le hN hb.size), Nat.ne_of_lt (Nat.lt_of_lt_of_le hU hb.size)⟩
theorem arm2 {V w2 : World} {Y : Nat} {a b c : Value} (hb : Below V.heap.size V w2) (h : CellsAt V Y [a, b, c]) : CellsAt w2 Y [a, b, c] ∧ w2.cell? ⟨Y, 0, none⟩ = some a ∧ w2.cell? ⟨Y, 1, none⟩ = some b ∧ w2.cell? ⟨Y, 2, none⟩ = some c ∧ w2.frozen? ⟨Y, 0, none⟩ = false ∧ w2.frozen? ⟨Y, 1, none⟩ = false ∧ w2.frozen? ⟨Y, 2, none⟩ = false ∧ Y < w2.heap.size := by
  have H := ca_below h hb
  exact ⟨H, (ca_at H 0 rfl).1, (ca_at H 1 rfl).1, (ca_at H 2 rfl).1, (ca_at H 0 rfl).2, (ca_at H 1 rfl).2, (ca_at H 2 rfl).2, H.1⟩

set_option maxRecDepth 100000 in
set_option maxHeartbeats 8000000 in
theorem localBack_is (t : Tb.Tbl) (v : Value) (at_ y m d s : Int) (w : World) (h : RdCh w v t.ch) (hs : Tb.Sized t) :
    Calls Try.prog 4 #[tbV t.first v, .int .i64 at_, .agg #[.int .i64 y, .int .i64 m, .int .i64 d], .int .i64 s] w fun e w' => e = .returned (.bool true) ∧ Below w.heap.size w w' := by
  obtain ⟨f, ch⟩ := t
  have HS := hid hs
  have H := hid h
  clear hs
  simp only at h
  obtain ⟨a, cap, rfl, _⟩ := h
  have B0 : Hid (Below w.heap.size w ((w.alloc (.cells (tbL f (.slice a ch.length cap)).toArray 26)).alloc (.cells [Value.int .i64 y, .int .i64 m, .int .i64 d].toArray 28))) := ((Below.refl _ _).alloc (Nat.le_refl _) _).alloc (by simp) _
  have T0 := hid (ca_alloc (ca_new w (tbL f (.slice a ch.length cap)) 26) (.cells [Value.int .i64 y, .int .i64 m, .int .i64 d].toArray 28))
  have D0 : Hid (CellsAt ((w.alloc (.cells (tbL f (.slice a ch.length cap)).toArray 26)).alloc (.cells [Value.int .i64 y, .int .i64 m, .int .i64 d].toArray 28)) (w.heap.size + 1) [.int .i64 y, .int .i64 m, .int .i64 d]) := by
    have := ca_new (w.alloc (.cells (tbL f (.slice a ch.length cap)).toArray 26)) [.int .i64 y, .int .i64 m, .int .i64 d] 28
    show CellsAt _ _ _
    simpa using this
  obtain ⟨N, hN⟩ : ∃ N, w.heap.size = N := ⟨_, rfl⟩
  rw [hN] at T0 D0 B0
  have HR : Hid (∀ wx, Below N w wx → RdCh wx (.slice a ch.length cap) ch) := fun wx hb => rdCh_below H.out (by rw [hN]; exact hb)
  have HNN := hid hN
  clear H
  go_enter Try.func4, Try.ntmps4
  go_wp2_with fail
  clear hN
  refine (localBegun_is _).mono ?_
  rintro e w1 ⟨rfl, hb1⟩
  have B1 : Hid (Below N w w1) := B0.out.trans (hb1.mono (Nat.le_of_lt (Nat.lt_trans (Nat.lt_succ_self N) D0.out.1)))
  have T1 := hid (ca_below T0.out hb1)
  have D1 := hid (ca_below D0.out hb1)
  clear B0 T0 D0 hb1
  obtain ⟨t0, _⟩ := ca_at T1.out 0 rfl
  obtain ⟨t1, _⟩ := ca_at T1.out 1 rfl
  obtain ⟨t2, _⟩ := ca_at T1.out 2 rfl
  obtain ⟨t3, _⟩ := ca_at T1.out 3 rfl
  have sT := T1.out.1
  go_wp2_with fail
  clear t0 t1 t2 t3
  refine (wall_any ⟨f, ch⟩ _ at_ _ (HR.out _ B1.out) HS.out).mono ?_
  rintro e w2 ⟨hb2, xa, xb, xc, xs, rfl, WY, WN⟩
  obtain ⟨EW, hEW⟩ : ∃ EW, Tb.wallErr ⟨f, ch⟩ at_ = EW := ⟨_, rfl⟩
  rw [hEW] at WY ⊢
  have HEW := hid hEW
  have HWY := hid WY
  clear hEW WY WN
  have B2 : Hid (Below N w w2) := B1.out.trans (hb2.mono (Nat.le_of_lt sT))
  have T2 := hid (ca_below T1.out hb2)
  have D2 := hid (ca_below D1.out hb2)
  clear B1 T1 D1 hb2 sT
  have sT := T2.out.1
  have B3 := hid (Below.alloc B2.out (Nat.le_of_lt sT) (.cells #[.int .i64 xa, .int .i64 xb, .int .i64 xc] 28))
  have T3 := hid (ca_alloc T2.out (.cells #[.int .i64 xa, .int .i64 xb, .int .i64 xc] 28))
  have D3 := hid (ca_alloc D2.out (.cells #[.int .i64 xa, .int .i64 xb, .int .i64 xc] 28))
  have X3 := hid (ca_new w2 [.int .i64 xa, .int .i64 xb, .int .i64 xc] 28)
  go_upto_if 31 with fail
  obtain ⟨V, hV⟩ : ∃ V, w2.alloc (.cells #[.int .i64 xa, .int .i64 xb, .int .i64 xc] 28) = V := ⟨_, rfl⟩
  rw [hV]
  rw [hV] at B3 T3 D3
  have X4 : Hid (CellsAt V w2.heap.size [.int .i64 xa, .int .i64 xb, .int .i64 xc]) := by rw [← hV]; exact X3
  clear hV X3 B2 T2 D2 sT
  go_cut [12, 13, 14, 15] from 32 to 59 (fun _ _ _ _ wc => Hid (Below N w wc) ∧ Hid (CellsAt wc N (tbL f (.slice a ch.length cap))) ∧ Hid (CellsAt wc (N + 1) [.int .i64 y, .int .i64 m, .int .i64 d]))
  case first =>
    by_cases hE : EW = 0
    case neg =>
      have hE' : (EW == 0) = false := by simp [hE]
      clear hE
      go_wp2_with fail
      go_meet
      exact ⟨B3, T3, D3⟩
    obtain ⟨hv, hn, hsx⟩ := HWY.out hE
    obtain ⟨bk1, bk2⟩ := Tb.back_to (by rw [HEW.out]; exact hE) hv hn hsx
    have BK1 := hid bk1
    have BK2 := hid bk2
    subst hE
    clear hv hn hsx bk1 bk2
    obtain ⟨t0, _⟩ := ca_at T3.out 0 rfl
    obtain ⟨t1, _⟩ := ca_at T3.out 1 rfl
    obtain ⟨t2, _⟩ := ca_at T3.out 2 rfl
    obtain ⟨t3, _⟩ := ca_at T3.out 3 rfl
    obtain ⟨x0, _⟩ := ca_at X4.out 0 rfl
    obtain ⟨x1, _⟩ := ca_at X4.out 1 rfl
    obtain ⟨x2, _⟩ := ca_at X4.out 2 rfl
    have sT := T3.out.1
    have sX := X4.out.1
    go_wp2_with fail
    clear t0 t1 t2 t3 x0 x1 x2
    refine (when_any ⟨f, ch⟩ _ xa xb xc xs _ (HR.out _ B3.out) HS.out).mono ?_
    rintro e w5 ⟨hb5, u, rfl, ru⟩
    have lr := (Tb.when_rise BK1.out).2
    rw [BK1.out]
    obtain ⟨L, hL⟩ : ∃ L, Tb.whenL ⟨f, ch⟩ xa xb xc xs = L := ⟨_, rfl⟩
    rw [hL] at ru lr BK2
    clear hL
    have RU := hid ru
    have B5 : Hid (Below N w w5) := B3.out.trans (hb5.mono (Nat.le_of_lt sT))
    have T5 := hid (ca_below T3.out hb5)
    have D5 := hid (ca_below D3.out hb5)
    clear B3 T3 D3 X4 hb5 sT sX
    obtain ⟨ua, ucap, rfl, _⟩ := ru
    go_wp2_with fail
    go_loopw [14, 15] (fun bv iv wr => ∃ (i : Nat) (b : Bool), i ≤ L.length ∧ iv = .int .i64 i ∧ bv = .bool b ∧ Hid (b = decide (at_ ∈ L.take i)) ∧ wr = w5) (fun _ iv _ => L.length - (intOf iv).toNat)
    case atStart => exact ⟨0, false, by omega, rfl, rfl, by show _ = _; simp, rfl⟩
    case round =>
      obtain ⟨i, b, i1, rfl, rfl, HBB, rfl⟩ := hrel
      by_cases hlt : i < L.length
      · obtain ⟨n, hn⟩ : ∃ n, L[i]? = some n := ⟨_, List.getElem?_eq_getElem hlt⟩
        obtain ⟨ub, uo, _, e1, ul, uc⟩ := rdInts_at RU.out hn
        simp only [Value.slice.injEq] at e1
        obtain ⟨rfl, _, rfl⟩ := e1
        have HB2 : Hid ((b || (n == at_)) = decide (at_ ∈ L.take (i + 1))) := by
          show _ = _
          obtain ⟨h1, h2⟩ := List.getElem?_eq_some_iff.1 hn
          rw [HBB.out, List.take_succ_eq_append_getElem h1, h2, Bool.eq_iff_iff]
          simp only [Bool.or_eq_true, decide_eq_true_eq, beq_iff_eq, List.mem_append, List.mem_singleton]
          constructor
          · rintro (q | q)
            · exact .inl q
            · exact .inr q.symm
          · rintro (q | q)
            · exact .inl q
            · exact .inr q.symm
        clear hn HBB
        cases b
        · obtain ⟨z, hz⟩ : ∃ z, (n == at_) = z := ⟨_, rfl⟩
          rw [hz] at HB2
          have HB3 : Hid (z = decide (at_ ∈ L.take (i + 1))) := by have := HB2.out; simpa using hid this
          clear HB2
          go_wp2
          go_roundw
          case rel => exact ⟨i + 1, z, by omega, by go_num, rfl, HB3, by first | rfl | trivial⟩
          case measure => simp [intOf]; omega
        · have HB3 : Hid (true = decide (at_ ∈ L.take (i + 1))) := by have := HB2.out; rw [Bool.true_or] at this; exact hid this
          clear HB2
          go_wp2
          go_roundw
          case rel => exact ⟨i + 1, true, by omega, by go_num, rfl, HB3, by first | rfl | trivial⟩
          case measure => simp [intOf]; omega
      · have hb : b = true := by
          rw [HBB.out, List.take_of_length_le (by omega)]
          simpa using BK2.out
        subst hb
        go_wp2_with fail
        go_meet
        exact ⟨B5, T5, D5⟩
  case rest =>
  clear B3 T3 D3 X4
  obtain ⟨B3, T3, D3⟩ := hcut
  clear HEW HWY
  obtain ⟨t0, _⟩ := ca_at T3.out 0 rfl
  obtain ⟨t1, _⟩ := ca_at T3.out 1 rfl
  obtain ⟨t2, _⟩ := ca_at T3.out 2 rfl
  obtain ⟨t3, _⟩ := ca_at T3.out 3 rfl
  obtain ⟨d0, _⟩ := ca_at D3.out 0 rfl
  obtain ⟨d1, _⟩ := ca_at D3.out 1 rfl
  obtain ⟨d2, _⟩ := ca_at D3.out 2 rfl
  have sT := T3.out.1
  have sD := D3.out.1
  go_wp2_with fail
  clear t0 t1 t2 t3 d0 d1 d2
  refine (when_any ⟨f, ch⟩ _ y m d s _ (HR.out _ B3.out) HS.out).mono ?_
  rintro e w6 ⟨hb6, u, rfl, ru⟩
  obtain ⟨EH, hEH⟩ : ∃ EH, Tb.whenErr ⟨f, ch⟩ y m d s = EH := ⟨_, rfl⟩
  rw [hEH]
  have HEH := hid hEH
  clear hEH
  have B6 : Hid (Below N w w6) := B3.out.trans (hb6.mono (Nat.le_of_lt sT))
  have T6 := hid (ca_below T3.out hb6)
  have D6 := hid (ca_below D3.out hb6)
  clear B3 T3 D3 hb6 sT sD
  by_cases hE : EH = 0
  case neg =>
    have hL : Tb.whenL ⟨f, ch⟩ y m d s = [] := if_neg (by rw [HEH.out]; exact hE)
    rw [hL] at ru
    obtain ⟨ua, ucap, rfl, _⟩ := ru
    have hE' : (EH != 0) = true := by simp [hE]
    go_wp2
    go_ret
    rw [HNN.out]
    exact ⟨rfl, B6.out⟩
  subst hE
  obtain ⟨rise, lr⟩ := Tb.when_rise HEH.out
  have RISE := hid rise
  have FRO : Hid (∀ n ∈ Tb.whenL ⟨f, ch⟩ y m d s, Tb.wallErr ⟨f, ch⟩ n = 0 ∧ Tb.wallD ⟨f, ch⟩ n = Cv.num y m d ∧ Tb.wallN ⟨f, ch⟩ n - 86400 * Tb.wallD ⟨f, ch⟩ n = s) := fun n hn => Tb.back_fro HEH.out hn
  obtain ⟨_, vday, _⟩ := Tb.whenErr_parts HEH.out
  have VD := hid vday
  obtain ⟨L, hL⟩ : ∃ L, Tb.whenL ⟨f, ch⟩ y m d s = L := ⟨_, rfl⟩
  rw [hL] at ru lr RISE FRO
  have RU := hid ru
  clear hL rise vday
  obtain ⟨ua, ucap, rfl, _⟩ := ru
  go_wp2_with fail
  go_loopw [17] (fun iv wr => ∃ i : Nat, i ≤ L.length ∧ iv = .int .i64 i ∧ Hid (RdInts wr (.slice ua L.length ucap) L) ∧ Hid (Below N w wr) ∧ Hid (CellsAt wr N (tbL f (.slice a ch.length cap))) ∧ Hid (CellsAt wr (N + 1) [.int .i64 y, .int .i64 m, .int .i64 d])) (fun iv _ => L.length - (intOf iv).toNat)
  case atStart => exact ⟨0, by omega, rfl, RU, B6, T6, D6⟩
  case round =>
    clear RU B6 T6 D6
    obtain ⟨i, i1, rfl, RU, B6, T6, D6⟩ := hrel
    by_cases hlt : i < L.length
    case neg =>
      go_wp2
      go_ret
      rw [HNN.out]
      exact ⟨rfl, B6.out⟩
    obtain ⟨n, hn⟩ : ∃ n, L[i]? = some n := ⟨_, List.getElem?_eq_getElem hlt⟩
    obtain ⟨ub, uo, _, e1, ul, uc⟩ := rdInts_at RU.out hn
    simp only [Value.slice.injEq] at e1
    obtain ⟨rfl, _, rfl⟩ := e1
    have FR := hid (FRO.out n (List.mem_of_getElem? hn))
    have HNn := hid hn
    clear hn
    obtain ⟨t0, _⟩ := ca_at T6.out 0 rfl
    obtain ⟨t1, _⟩ := ca_at T6.out 1 rfl
    obtain ⟨t2, _⟩ := ca_at T6.out 2 rfl
    obtain ⟨t3, _⟩ := ca_at T6.out 3 rfl
    have sT := T6.out.1
    have BW : Below N w wr.drew := B6.out.trans ⟨rfl, rfl, rfl, Nat.le_refl _, fun _ _ => rfl⟩
    have RW := HR.out _ BW
    have HS' := HS.out
    have TT : wr.cell? ⟨N, 0, none⟩ = some (.int .i64 f.shift) ∧ wr.cell? ⟨N, 1, none⟩ = some (.int .i64 f.save) ∧ wr.cell? ⟨N, 2, none⟩ = some (strV f.name) ∧ wr.cell? ⟨N, 3, none⟩ = some (.slice a ch.length cap) ∧ wr.cell? ⟨ub, uo + i, none⟩ = some (.int .i64 n) := ⟨t0, t1, t2, t3, uc⟩
    go_wp2_with fail
    have BW2 : Below N w (wr.alloc (.cells #[.int .i64 0, .int .i64 0, .int .i64 0] 28)).drew := (Below.alloc B6.out (Nat.le_of_lt sT) (.cells #[.int .i64 0, .int .i64 0, .int .i64 0] 28)).trans ⟨rfl, rfl, rfl, Nat.le_refl _, fun _ _ => rfl⟩
    have RW2 := HR.out _ BW2
    have TTa := alloc5 (.cells #[.int .i64 0, .int .i64 0, .int .i64 0] 28) sT ul TT
    have sTa : N < (wr.alloc (.cells #[.int .i64 0, .int .i64 0, .int .i64 0] 28)).drew.heap.size := by show N < (wr.alloc (.cells #[.int .i64 0, .int .i64 0, .int .i64 0] 28)).heap.size; simp; omega
    have sUa : ub < (wr.alloc (.cells #[.int .i64 0, .int .i64 0, .int .i64 0] 28)).drew.heap.size := by show ub < (wr.alloc (.cells #[.int .i64 0, .int .i64 0, .int .i64 0] 28)).heap.size; simp; omega
    have TTd : wr.drew.cell? ⟨N, 0, none⟩ = some (.int .i64 f.shift) ∧ wr.drew.cell? ⟨N, 1, none⟩ = some (.int .i64 f.save) ∧ wr.drew.cell? ⟨N, 2, none⟩ = some (strV f.name) ∧ wr.drew.cell? ⟨N, 3, none⟩ = some (.slice a ch.length cap) ∧ wr.drew.cell? ⟨ub, uo + i, none⟩ = some (.int .i64 n) := TT
    have TTe : (wr.alloc (.cells #[.int .i64 0, .int .i64 0, .int .i64 0] 28)).drew.cell? ⟨N, 0, none⟩ = some (.int .i64 f.shift) ∧ (wr.alloc (.cells #[.int .i64 0, .int .i64 0, .int .i64 0] 28)).drew.cell? ⟨N, 1, none⟩ = some (.int .i64 f.save) ∧ (wr.alloc (.cells #[.int .i64 0, .int .i64 0, .int .i64 0] 28)).drew.cell? ⟨N, 2, none⟩ = some (strV f.name) ∧ (wr.alloc (.cells #[.int .i64 0, .int .i64 0, .int .i64 0] 28)).drew.cell? ⟨N, 3, none⟩ = some (.slice a ch.length cap) ∧ (wr.alloc (.cells #[.int .i64 0, .int .i64 0, .int .i64 0] 28)).drew.cell? ⟨ub, uo + i, none⟩ = some (.int .i64 n) := TTa
    have sTd : N < wr.drew.heap.size := sT
    have sUd : ub < wr.drew.heap.size := ul
    have YE : CellsAt (wr.alloc (.cells #[.int .i64 0, .int .i64 0, .int .i64 0] 28)).drew wr.heap.size [.int .i64 0, .int .i64 0, .int .i64 0] := ca_new wr [.int .i64 0, .int .i64 0, .int .i64 0] 28
    have YA := ca_new wr [.int .i64 0, .int .i64 0, .int .i64 0] 28
    have WA1 : Calls Try.prog 5 #[.agg #[.int .i64 f.shift, .int .i64 f.save, strV f.name, .slice a ch.length cap], .int .i64 n] wr.drew (WallEnd ⟨f, ch⟩ n wr.drew) := wall_any ⟨f, ch⟩ _ n _ RW HS'
    have WA2 : Calls Try.prog 5 #[.agg #[.int .i64 f.shift, .int .i64 f.save, strV f.name, .slice a ch.length cap], .int .i64 n] (wr.alloc (.cells #[.int .i64 0, .int .i64 0, .int .i64 0] 28)).drew (WallEnd ⟨f, ch⟩ n (wr.alloc (.cells #[.int .i64 0, .int .i64 0, .int .i64 0] 28)).drew) := wall_any ⟨f, ch⟩ _ n _ RW2 HS'
    have neN : N ≠ wr.heap.size := by omega
    have neU : ub ≠ wr.heap.size := by omega
    go_region_held3 (fun w' => w'.cell? ⟨N, 0, none⟩ = some (.int .i64 f.shift) ∧ w'.cell? ⟨N, 1, none⟩ = some (.int .i64 f.save) ∧ w'.cell? ⟨N, 2, none⟩ = some (strV f.name) ∧ w'.cell? ⟨N, 3, none⟩ = some (.slice a ch.length cap) ∧ w'.cell? ⟨ub, uo + i, none⟩ = some (.int .i64 n))
      (first | exact TT | exact TTa | exact TT7 | exact alloc5 _ sT7 sU7 TT7 | exact set5 neN neU (set5 neN neU (set5 neN neU TT7)) | exact set5 neN7 neU7 (set5 neN7 neU7 (set5 neN7 neU7 (alloc5 _ sT7 sU7 TT7))) | go_keep)
      (first | (go_at_call 5; (with_reducible refine WA1.mono ?_); rintro e w7 ⟨hb7, ya, yb, yc, ys, rfl, YY, YN⟩; obtain ⟨TT7, sT7, sU7, neN7, neU7⟩ := arm1 hb7 sTd sUd TTd) | (go_at_call 5; (with_reducible refine WA2.mono ?_); rintro e w7 ⟨hb7, ya, yb, yc, ys, rfl, YY, YN⟩; obtain ⟨TT7, sT7, sU7, neN7, neU7⟩ := arm1 hb7 sTa sUa TTe; obtain ⟨Y7, y0, y1, y2, g0, g1, g2, sY7⟩ := arm2 hb7 YE))
    all_goals
      obtain ⟨hv, hn, hsv⟩ := YY FR.out.1
      obtain ⟨q1, q2, q3⟩ := Cv.num_inj hv VD.out (hn.trans FR.out.2.1)
      obtain rfl : y = ya := q1.symm
      obtain rfl : m = yb := q2.symm
      obtain rfl : d = yc := q3.symm
      obtain rfl : s = ys := (hsv.trans FR.out.2.2).symm
      rw [FR.out.1]
      clear YY YN hv hn hsv q1 q2 q3 TT7 TT TTa TTd TTe YE YA WA1 WA2 RW RW2 t0 t1 t2 t3 uc
      first
        | (have B7 : Below wr.heap.size wr w7 := (⟨rfl, rfl, rfl, Nat.le_refl _, fun _ _ => rfl⟩ : Below wr.heap.size wr wr.drew).trans hb7
           have BB : Below wr.heap.size wr (w7.alloc (.cells #[.int .i64 y, .int .i64 m, .int .i64 d] 28)) := B7.alloc B7.size _
           obtain ⟨W8, hW8⟩ : ∃ W8, w7.alloc (.cells #[.int .i64 y, .int .i64 m, .int .i64 d] 28) = W8 := ⟨_, rfl⟩
           rw [hW8] at BB ⊢
           have Z8 : Hid (CellsAt W8 w7.heap.size [.int .i64 y, .int .i64 m, .int .i64 d]) := by rw [← hW8]; exact ca_new _ _ _
           clear hW8 B7 hb7
           have T8 := hid (ca_below T6.out BB)
           have D8 := hid (ca_below D6.out BB)
           have U8 := hid (rd_below RU.out BB)
           have B8 : Hid (Below N w W8) := B6.out.trans (BB.mono (Nat.le_of_lt sT))
           clear BB T6 D6 RU B6)
        | (have BA0 : Below wr.heap.size wr (wr.alloc (.cells #[.int .i64 0, .int .i64 0, .int .i64 0] 28)).drew := ((Below.refl wr.heap.size wr).alloc (Nat.le_refl _) (.cells #[.int .i64 0, .int .i64 0, .int .i64 0] 28)).trans (show Below wr.heap.size (wr.alloc (.cells #[.int .i64 0, .int .i64 0, .int .i64 0] 28)) (wr.alloc (.cells #[.int .i64 0, .int .i64 0, .int .i64 0] 28)).drew from ⟨rfl, rfl, rfl, Nat.le_refl _, fun _ _ => rfl⟩)
           have B7 : Below wr.heap.size wr w7 := BA0.trans (hb7.mono (by show wr.heap.size ≤ (wr.alloc _).heap.size; simp))
           have BB : Below wr.heap.size wr (((w7.setCell ⟨wr.heap.size, 0, none⟩ (.int .i64 y)).setCell ⟨wr.heap.size, 1, none⟩ (.int .i64 m)).setCell ⟨wr.heap.size, 2, none⟩ (.int .i64 d)) := below_set (below_set (below_set B7 (Nat.le_refl _) _) (Nat.le_refl _) _) (Nat.le_refl _) _
           obtain ⟨W8, hW8⟩ : ∃ W8, ((w7.setCell ⟨wr.heap.size, 0, none⟩ (.int .i64 y)).setCell ⟨wr.heap.size, 1, none⟩ (.int .i64 m)).setCell ⟨wr.heap.size, 2, none⟩ (.int .i64 d) = W8 := ⟨_, rfl⟩
           rw [hW8] at BB ⊢
           have Z8 : Hid (CellsAt W8 wr.heap.size [.int .i64 y, .int .i64 m, .int .i64 d]) := by rw [← hW8]; exact ca_put (ca_put (ca_put Y7 0 _ (by simp)) 1 _ (by simp)) 2 _ (by simp)
           clear hW8 B7 BA0 hb7 Y7 y0 y1 y2 g0 g1 g2 sY7
           have T8 := hid (ca_below T6.out BB)
           have D8 := hid (ca_below D6.out BB)
           have U8 := hid (rd_below RU.out BB)
           have B8 : Hid (Below N w W8) := B6.out.trans (BB.mono (Nat.le_of_lt sT))
           clear BB T6 D6 RU B6)
      have sz8 := Z8.out.1
      obtain ⟨z0, _⟩ := ca_at Z8.out 0 rfl
      obtain ⟨z1, _⟩ := ca_at Z8.out 1 rfl
      obtain ⟨z2, _⟩ := ca_at Z8.out 2 rfl
      obtain ⟨d0, _⟩ := ca_at D8.out 0 rfl
      obtain ⟨d1, _⟩ := ca_at D8.out 1 rfl
      obtain ⟨d2, _⟩ := ca_at D8.out 2 rfl
      have sD8 := D8.out.1
      obtain ⟨ub2, uo2, _, e2, ul2, uc2⟩ := rdInts_at U8.out HNn.out
      simp only [Value.slice.injEq, Option.some.injEq, Addr.mk.injEq] at e2
      obtain ⟨⟨rfl, rfl, _⟩, _, rfl⟩ := e2
      cases i with
      | zero =>
        go_wp2_with fail
        go_quiet (fail)
        go_wp2
        go_roundw
        case rel => exact ⟨0 + 1, by omega, by go_num, U8.out, below_drewN B8.out _, T8.out, D8.out⟩
        case measure => simp [intOf]; omega
      | succ k =>
        obtain ⟨q, hq⟩ : ∃ q, L[k]? = some q := ⟨_, List.getElem?_eq_getElem (by omega)⟩
        obtain ⟨ub3, uo3, _, e3, ul3, uc3⟩ := rdInts_at U8.out hq
        simp only [Value.slice.injEq, Option.some.injEq, Addr.mk.injEq] at e3
        obtain ⟨⟨rfl, rfl, _⟩, _, rfl⟩ := e3
        have hqn : ¬ n ≤ q := by
          obtain ⟨j1, j2⟩ := List.getElem?_eq_some_iff.1 hq
          obtain ⟨j3, j4⟩ := List.getElem?_eq_some_iff.1 HNn.out
          have := List.pairwise_iff_getElem.1 RISE.out k (k + 1) j1 j3 (by omega)
          omega
        clear hq
        go_wp2_with fail
        go_quiet (fail)
        go_wp2
        go_roundw
        case rel => exact ⟨k + 1 + 1, by omega, by go_num, U8.out, below_drewN B8.out _, T8.out, D8.out⟩
        case measure => simp [intOf]; omega
end Go.Proofs.Ytnmdfbbfgiaijaa
