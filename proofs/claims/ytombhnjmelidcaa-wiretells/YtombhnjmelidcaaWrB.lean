/- The contract of the document's EncodeOf. -/
import Derived.Test.YtombhnjmelidcaaWrA
import Derived.Test.YtombhnjmelidcaaTbE
import Derived.Deep.RegionHeld3
namespace Go.Proofs.Ytombhnjmelidcaa
open Go.RowKit
set_option linter.unusedVariables false
set_option linter.unusedSimpArgs false

theorem Try.infoLc : (Try.prog.info? 23).map (fun i => (i.zero, i.size, i.bytes)) = some (some (.agg #[.int .i64 0, .int .i64 0, .string ⟨#[]⟩]), 3, 32) := by kernel_rfl
def lcCells (l : Tb.Lc) : List Value := [.int .i64 l.shift, .int .i64 l.save, strV l.name]
theorem lcCells_len (l : Tb.Lc) : (lcCells l).length = 3 := rfl
def OwnLc (w : World) (B : Nat) (v : Value) (l : List Tb.Lc) : Prop := w.ownsRow B 23 3 v l.length (l.flatMap lcCells)
def RdLc := Rd 3 lcCells
theorem ownLc_rd {w : World} {B : Nat} {v : Value} {l : List Tb.Lc} (h : OwnLc w B v l) : RdLc w v l := own_rd lcCells_len h
theorem rdLc_at {w : World} {v : Value} {l : List Tb.Lc} {i : Nat} {c : Tb.Lc} (h : RdLc w v l) (hi : l[i]? = some c) : ∃ b o cap, v = .slice (some ⟨b, o, none⟩) l.length cap ∧ b < w.heap.size ∧
    w.cell? ⟨b, o + i * 3, none⟩ = some (.int .i64 c.shift) ∧ w.cell? ⟨b, o + i * 3 + 1, none⟩ = some (.int .i64 c.save) ∧ w.cell? ⟨b, o + i * 3 + 2, none⟩ = some (strV c.name) := by
  obtain ⟨a, cap, rfl, h⟩ := h
  obtain ⟨b, o, rfl, hb, hc⟩ := h (by intro q; subst q; simp at hi)
  have := hc i c hi
  exact ⟨b, o, cap, rfl, hb, this 0 _ rfl, this 1 _ rfl, this 2 _ rfl⟩
theorem three_cells' (w : World) (a b c : Value) {e : TypeId} : ∀ (j : Nat) (x : Value), [a, b, c][j]? = some x → (w.alloc (.cells #[a, b, c] e)).cell? ((⟨w.heap.size, 0, none⟩ : Addr).add j) = some x := by
  intro j x hj
  match j, hj with
  | 0, hj => simp at hj; subst hj; simp [Addr.add]
  | 1, hj => simp at hj; subst hj; simp [Addr.add]
  | 2, hj => simp at hj; subst hj; simp [Addr.add]
theorem lc_one (c : Tb.Lc) : ∀ u ∈ lcCells c, u.oneCell' = true := by
  intro u hu
  simp [lcCells] at hu
  rcases hu with rfl | rfl | rfl <;> rfl
theorem lc_cases {c d : Tb.Lc} (h : ¬ c = d) : ¬ c.shift = d.shift ∨ (c.shift = d.shift ∧ ¬ c.save = d.save) ∨ (c.shift = d.shift ∧ c.save = d.save ∧ ¬ c.name = d.name) := by
  obtain ⟨a2, a3, a4⟩ := c
  obtain ⟨b2, b3, b4⟩ := d
  by_cases q2 : a2 = b2 <;> by_cases q3 : a3 = b3 <;> by_cases q4 : a4 = b4 <;> simp_all

theorem cells_keep {V w2 : World} {b p q r : Nat} {x y z : Value} (hb : Below V.heap.size V w2) (hs : b < V.heap.size) (h : V.cell? ⟨b, p, none⟩ = some x ∧ V.cell? ⟨b, q, none⟩ = some y ∧ V.cell? ⟨b, r, none⟩ = some z) : w2.cell? ⟨b, p, none⟩ = some x ∧ w2.cell? ⟨b, q, none⟩ = some y ∧ w2.cell? ⟨b, r, none⟩ = some z :=
  ⟨(hb.cell (p := ⟨b, p, none⟩) hs).trans h.1, (hb.cell (p := ⟨b, q, none⟩) hs).trans h.2.1, (hb.cell (p := ⟨b, r, none⟩) hs).trans h.2.2⟩
theorem below_drew1 (w : World) : Below w.heap.size w w.drew := ⟨rfl, rfl, rfl, Nat.le_refl _, fun _ _ => rfl⟩

set_option maxRecDepth 100000 in
set_option maxHeartbeats 8000000 in
theorem encodeOf_any (t : Tb.Tbl) (v : Value) (w : World) (h : RdCh w v t.ch) (hg : Tb.tableE t = 0) :
    Calls Try.prog 13 #[tbV t.first v] w fun e w' => e = .returned (strV (Wr.encode t)) ∧ Below w.heap.size w w' := by
  obtain ⟨f, ch⟩ := t
  obtain ⟨g1, g2, g3⟩ := Tb.good_parts hg
  simp only at h g1 g2 g3 ⊢
  have cb : Hid (∀ c ∈ ch, Tb.least ≤ c.at_ ∧ c.at_ ≤ Tb.most ∧ Tb.localE c.lc = 0) := (Tb.goE_rise ch f none g3).2.1
  have G2 := hid g2
  obtain ⟨KS, hKS⟩ : ∃ KS, Wr.kinds [f] ch = KS := ⟨_, rfl⟩
  obtain ⟨BD, hBD⟩ : ∃ BD, Wr.body [f] ch = BD := ⟨_, rfl⟩
  have HE : Hid (Wr.encode ⟨f, ch⟩ = Wr.num 2 (KS.length : Int) ++ Wr.kindsB KS ++ Wr.num 2 0 ++ Wr.num 2 (ch.length : Int) ++ BD) := by show _ = _; rw [← hKS, ← hBD]; rfl
  have HK : Hid (KS = Wr.kinds [f] (ch.drop 0)) := by show _ = _; rw [← hKS]; rfl
  have HBD : Hid (BD = [] ++ Wr.body [f] (ch.drop 0)) := by show _ = _; rw [← hBD]; rfl
  have kb : Hid (∀ l ∈ KS, Tb.localE l = 0) := by
    intro l hl
    rw [← hKS] at hl
    rcases Wr.kinds_mem ch [f] l hl with q | ⟨c, hc, rfl⟩
    · simp at q; subst q; exact G2.out
    · exact (cb.out c hc).2.2
  have kl : KS.length ≤ 1001 := by have := Wr.kinds_len ch [f]; rw [hKS] at this; simp at this; omega
  clear hKS hBD g2 g3 hg
  have H := hid h
  obtain ⟨a, cap, rfl, _⟩ := h
  obtain ⟨i0, hi, hz0, hz1, hz2⟩ := info_parts Try.infoLc
  obtain ⟨N, hN⟩ : ∃ N, w.heap.size = N := ⟨_, rfl⟩
  have HA : Hid (∀ wx, Below N w wx → RdCh wx (.slice a ch.length cap) ch) := fun wx hb => rdCh_below H.out (by rw [hN]; exact hb)
  clear H
  have B1 : Hid (Below N w ((w.alloc (.cells (tbC f (.slice a ch.length cap)).toArray 26)).alloc (.cells (lcCells f).toArray 23))) := by
    rw [← hN]; exact ((Below.refl _ _).alloc (Nat.le_refl _) _).alloc (by simp) _
  have T1 : Hid (CellsAt ((w.alloc (.cells (tbC f (.slice a ch.length cap)).toArray 26)).alloc (.cells (lcCells f).toArray 23)) N (tbC f (.slice a ch.length cap))) := by
    rw [← hN]; exact ca_alloc (ca_new _ _ _) _
  have O1 : Hid (OwnLc ((w.alloc (.cells (tbC f (.slice a ch.length cap)).toArray 26)).alloc (.cells (lcCells f).toArray 23)) (N + 1) (.slice (some ⟨N + 1, 0, none⟩) 1 1) [f]) := by
    have := World.ownsRow_lit (base := N + 1) (e := 23) (size := 3) (w.alloc (.cells (tbC f (.slice a ch.length cap)).toArray 26)) (lcCells f).toArray 1 (by simp; omega) (by unfold maxLen; omega) rfl
    simp only [World.size_alloc, hN] at this
    exact this
  have HNN := hid hN
  go_enter Try.func13, Try.ntmps13
  go_wp2_with fail
  clear hN
  go_loopw [3, 4, 5] (fun kv bv iv wr => ∃ (i : Nat) (ks : List Tb.Lc) (acc : Tx.Bs), i ≤ ch.length ∧ iv = .int .i64 i ∧ bv = strV acc ∧ acc.length ≤ 7 * i ∧ ks.length ≤ i + 1 ∧ Hid (OwnLc wr (N + 1) kv ks) ∧ Hid (Below N w wr) ∧ N + 1 ≤ wr.heap.size ∧ Hid (CellsAt wr N (tbC f (.slice a ch.length cap))) ∧ Hid (KS = Wr.kinds ks (ch.drop i)) ∧ Hid (BD = acc ++ Wr.body ks (ch.drop i))) (fun _ _ iv _ => ch.length - (intOf iv).toNat)
  case atStart => exact ⟨0, [f], [], by omega, rfl, rfl, by simp, by simp, O1, B1, T1.out.1, T1, HK, HBD⟩
  case round =>
    clear O1 B1 T1 HK HBD
    obtain ⟨i, ks, acc, h1, rfl, rfl, ha, hk, O0, B0, z0, T0, HK, HBD⟩ := hrel
    obtain ⟨va, vcap, rfl⟩ := owns_shape0 O0.out
    obtain ⟨x3, f3⟩ := ca_at T0.out 3 rfl
    have sx := T0.out.1
    by_cases hlt : i < ch.length
    case neg =>
      have HK2 : Hid (KS = ks) := by show _ = _; rw [HK.out, List.drop_eq_nil_of_le (by omega)]; rfl
      have HB2 : Hid (BD = acc) := by show _ = _; rw [HBD.out, List.drop_eq_nil_of_le (by omega)]; simp [Wr.body]
      obtain rfl : KS = ks := HK2.out
      clear HK HBD HK2 hk
      have HBn := hid (fun W => bytes_any (KS.length : Int) 2 W (by omega) (by omega) (by omega))
      go_wp2_with fail
      refine (HBn.out _).mono ?_
      rintro e w2 ⟨rfl, hb2⟩
      have B1 : Hid (Below N w w2) := B0.out.trans (hb2.mono (by omega))
      have T1 := hid (ca_below T0.out hb2)
      have O1 := hid (owns_below O0.out hb2)
      clear B0 T0 O0 hb2 x3 f3 sx HBn
      have S0 : Hid (Wr.num 2 (KS.length : Int) ++ Wr.kindsB KS = Wr.num 2 (KS.length : Int) ++ Wr.kindsB (KS.drop 0)) := rfl
      have hn2 := Wr.num_len 2 (KS.length : Int)
      obtain ⟨M0, hM0⟩ : ∃ M0, Wr.num 2 (KS.length : Int) = M0 := ⟨_, rfl⟩
      rw [hM0] at HE S0 hn2 ⊢
      clear hM0
      obtain ⟨SS, hSS⟩ : ∃ SS, M0 ++ Wr.kindsB KS = SS := ⟨_, rfl⟩
      rw [hSS] at HE S0
      clear hSS
      go_wp2_with fail
      go_loopw [7, 8] (fun sv iv wr => ∃ (j : Nat) (ac : Tx.Bs), j ≤ KS.length ∧ iv = .int .i64 j ∧ sv = strV ac ∧ ac.length ≤ 2 + 30 * j ∧ Hid (SS = ac ++ Wr.kindsB (KS.drop j)) ∧ Hid (OwnLc wr (N + 1) (.slice va KS.length vcap) KS) ∧ Hid (Below N w wr) ∧ Hid (CellsAt wr N (tbC f (.slice a ch.length cap)))) (fun _ iv _ => KS.length - (intOf iv).toNat)
      case atStart => exact ⟨0, M0, by omega, rfl, rfl, by omega, S0, O1, B1, T1⟩
      case round =>
        clear S0 O1 B1 T1
        obtain ⟨j, ac, j1, rfl, rfl, ja, S0, O0, B0, T0⟩ := hrel
        by_cases hj : j < KS.length
        · obtain ⟨l, hl⟩ : ∃ l, KS[j]? = some l := ⟨_, List.getElem?_eq_getElem hj⟩
          obtain ⟨lb, lo, _, e2, ll, l0, l1, l2⟩ := rdLc_at (ownLc_rd O0.out) hl
          simp only [Value.slice.injEq] at e2
          obtain ⟨rfl, _, rfl⟩ := e2
          have lbd := Tb.goodL_bd (kb.out l (List.mem_of_getElem? hl))
          obtain ⟨y1, y2, y3, y4, _, y6, _⟩ := lbd
          have S1 := hid (Wr.kindsB_next hl S0.out)
          clear hl S0
          obtain ⟨M3, hM3⟩ : ∃ M3, Wr.num 3 (l.shift + 100000) = M3 := ⟨_, rfl⟩
          obtain ⟨M2, hM2⟩ : ∃ M2, Wr.num 2 l.save = M2 := ⟨_, rfl⟩
          obtain ⟨M1, hM1⟩ : ∃ M1, Wr.num 1 (l.name.length : Int) = M1 := ⟨_, rfl⟩
          have H3 : Hid (∀ W, Calls Try.prog 34 #[.int .i64 (l.shift + 100000), .int .i64 3] W fun e w' => e = .returned (strV M3) ∧ Below W.heap.size W w') := fun W => by rw [← hM3]; exact bytes_any (l.shift + 100000) 3 W (by omega) (by omega) (by omega)
          have H2 : Hid (∀ W, Calls Try.prog 34 #[.int .i64 l.save, .int .i64 2] W fun e w' => e = .returned (strV M2) ∧ Below W.heap.size W w') := fun W => by rw [← hM2]; exact bytes_any l.save 2 W (by omega) (by omega) (by omega)
          have H1 : Hid (∀ W, Calls Try.prog 34 #[.int .i64 (l.name.length : Int), .int .i64 1] W fun e w' => e = .returned (strV M1) ∧ Below W.heap.size W w') := fun W => by rw [← hM1]; exact bytes_any (l.name.length : Int) 1 W (by omega) (by omega) (by omega)
          have ln3 : M3.length = 3 := by rw [← hM3]; exact Wr.num_len 3 _
          have ln2 : M2.length = 2 := by rw [← hM2]; exact Wr.num_len 2 _
          have ln1 : M1.length = 1 := by rw [← hM1]; exact Wr.num_len 1 _
          have HKB : Hid (Wr.kindB l = ((M3 ++ M2) ++ M1) ++ l.name) := by show _ = _; rw [← hM3, ← hM2, ← hM1]; rfl
          clear hM3 hM2 hM1
          have LL : wr.cell? ⟨lb, lo + j * 3, none⟩ = some (.int .i64 l.shift) ∧ wr.cell? ⟨lb, lo + j * 3 + 1, none⟩ = some (.int .i64 l.save) ∧ wr.cell? ⟨lb, lo + j * 3 + 2, none⟩ = some (strV l.name) := ⟨l0, l1, l2⟩
          have sz := T0.out.1
          have hwr : IntKind.i64.wrap (l.shift + 100000) = l.shift + 100000 := by rw [IntKind.wrap_i64]; omega
          go_wp2_with fail
          have hz1 : ¬ 9223372036854775801 < l.name.length := by omega
          have hz2 : ¬ 9223372036854775807 < ac.length + (6 + l.name.length) := by omega
          have hz3 : ¬ 9223372036854775807 < 6 + l.name.length := by omega
          go_region_held3 (fun w' => w'.cell? ⟨lb, lo + j * 3, none⟩ = some (.int .i64 l.shift) ∧ w'.cell? ⟨lb, lo + j * 3 + 1, none⟩ = some (.int .i64 l.save) ∧ w'.cell? ⟨lb, lo + j * 3 + 2, none⟩ = some (strV l.name))
            (first | go_keep | exact LL | exact cells_keep hb4 hs4 (cells_keep hb3 hs3 (cells_keep hb2 hs2 LL)) | exact cells_keep hb3 hs3 (cells_keep hb2 hs2 LL) | exact cells_keep hb2 hs2 LL)
            (first | (go_at_call 34; first | ((with_reducible refine (H3.out _).mono ?_); first | (rintro e w4 ⟨rfl, hb4⟩; have hs4 : lb < w3.heap.size := Nat.lt_of_lt_of_le hs3 hb3.size) | (rintro e w3 ⟨rfl, hb3⟩; have hs3 : lb < w2'.heap.size := Nat.lt_of_lt_of_le hs2 hb2.size) | (rintro e w2' ⟨rfl, hb2⟩; have hs2 : lb < wr.drew.heap.size := ll)) | ((with_reducible refine (H2.out _).mono ?_); first | (rintro e w4 ⟨rfl, hb4⟩; have hs4 : lb < w3.heap.size := Nat.lt_of_lt_of_le hs3 hb3.size) | (rintro e w3 ⟨rfl, hb3⟩; have hs3 : lb < w2'.heap.size := Nat.lt_of_lt_of_le hs2 hb2.size) | (rintro e w2' ⟨rfl, hb2⟩; have hs2 : lb < wr.drew.heap.size := ll)) | ((with_reducible refine (H1.out _).mono ?_); first | (rintro e w4 ⟨rfl, hb4⟩; have hs4 : lb < w3.heap.size := Nat.lt_of_lt_of_le hs3 hb3.size) | (rintro e w3 ⟨rfl, hb3⟩; have hs3 : lb < w2'.heap.size := Nat.lt_of_lt_of_le hs2 hb2.size) | (rintro e w2' ⟨rfl, hb2⟩; have hs2 : lb < wr.drew.heap.size := ll))))
          all_goals
            have BB : Below wr.heap.size wr w4 := ((below_drew1 wr).trans hb2).trans (hb3.mono hb2.size) |>.trans (hb4.mono (Nat.le_trans hb2.size hb3.size))
            have B6 : Hid (Below N w w4) := B0.out.trans (BB.mono (Nat.le_of_lt sz))
            have T6 := hid (ca_below T0.out BB)
            have O6 := hid (owns_below O0.out BB)
            clear hb2 hb3 hb4 hs2 hs3 hs4 BB B0 T0 O0 l0 l1 l2 LL
            go_wp2
            refine ⟨⟨j + 1, ac ++ (((M3 ++ M2) ++ M1) ++ l.name), by omega, by go_num, congrArg Value.string (bytes_ext (by simp)), by simp only [List.length_append]; omega, by rw [HKB.out] at S1; exact S1, O6, B6, T6⟩, by simp [intOf]; omega⟩
        · have S1 : Hid (SS = ac) := by show _ = _; rw [S0.out, List.drop_eq_nil_of_le (by omega)]; simp [Wr.kindsB]
          obtain rfl : SS = ac := S1.out
          clear S0 S1
          obtain ⟨x3, f3⟩ := ca_at T0.out 3 rfl
          have sx := T0.out.1
          obtain ⟨P0, hP0⟩ : ∃ P0, Wr.num 2 0 = P0 := ⟨_, rfl⟩
          obtain ⟨P1, hP1⟩ : ∃ P1, Wr.num 2 (ch.length : Int) = P1 := ⟨_, rfl⟩
          have H0 : Hid (∀ W, Calls Try.prog 34 #[.int .i64 0, .int .i64 2] W fun e w' => e = .returned (strV P0) ∧ Below W.heap.size W w') := fun W => by rw [← hP0]; exact bytes_any 0 2 W (by omega) (by omega) (by omega)
          have H1 : Hid (∀ W, Calls Try.prog 34 #[.int .i64 (ch.length : Int), .int .i64 2] W fun e w' => e = .returned (strV P1) ∧ Below W.heap.size W w') := fun W => by rw [← hP1]; exact bytes_any (ch.length : Int) 2 W (by omega) (by omega) (by omega)
          have lp0 : P0.length = 2 := by rw [← hP0]; exact Wr.num_len 2 _
          have lp1 : P1.length = 2 := by rw [← hP1]; exact Wr.num_len 2 _
          rw [hP0, hP1, HB2.out] at HE
          clear hP0 hP1
          have hz1 : ¬ 9223372036854775805 < SS.length := by omega
          have hz2 : ¬ 9223372036854775803 < SS.length := by omega
          have hz3 : ¬ 9223372036854775807 < SS.length + 2 := by omega
          have hz4 : ¬ 9223372036854775807 < SS.length + 2 + 2 := by omega
          have hz5 : ¬ 9223372036854775807 < SS.length + 4 := by omega
          have hz6 : ¬ 9223372036854775807 < SS.length + 2 + 2 + acc.length := by omega
          have hz7 : ¬ 9223372036854775807 < SS.length + 4 + acc.length := by omega
          go_wp2_with fail
          go_region_held3 (fun w' => w'.cell? ⟨N, 3, none⟩ = some (.slice a ch.length cap))
            (first | go_keep | exact x3 | exact (hb4.cell (p := ⟨N, 3, none⟩) hs4).trans ((hb3.cell (p := ⟨N, 3, none⟩) hs3).trans x3) | exact (hb3.cell (p := ⟨N, 3, none⟩) hs3).trans x3)
            (first | (go_at_call 34; first | ((with_reducible refine (H0.out _).mono ?_); first | (rintro e w4 ⟨rfl, hb4⟩; have hs4 : N < w3.heap.size := Nat.lt_of_lt_of_le hs3 hb3.size) | (rintro e w3 ⟨rfl, hb3⟩; have hs3 : N < wr.drew.heap.size := sx)) | ((with_reducible refine (H1.out _).mono ?_); first | (rintro e w4 ⟨rfl, hb4⟩; have hs4 : N < w3.heap.size := Nat.lt_of_lt_of_le hs3 hb3.size) | (rintro e w3 ⟨rfl, hb3⟩; have hs3 : N < wr.drew.heap.size := sx))))
          all_goals
            have BB : Below wr.heap.size wr w4 := ((below_drew1 wr).trans hb3).trans (hb4.mono hb3.size)
            have B6 : Hid (Below N w w4) := B0.out.trans (BB.mono (Nat.le_of_lt sx))
            clear hb3 hb4 hs3 hs4 BB B0 T0 O0
            go_wp2
            refine bodyPost_ret (v := strV (SS ++ P0 ++ P1 ++ acc)) (by simp [results, Try.results13, go_sem, *] <;> exact bytes_ext (by simp)) rfl ⟨by rw [HE.out], ?_⟩
            rw [HNN.out]
            exact B6.out
    obtain ⟨c, hc⟩ : ∃ c, ch[i]? = some c := ⟨_, List.getElem?_eq_getElem hlt⟩
    have HC := hid hc
    obtain ⟨cb1, cb2, _⟩ := cb.out c (List.mem_of_getElem? hc)
    have cb1' : (-62135596800 : Int) ≤ c.at_ := cb1
    have cb2' : c.at_ ≤ (253402300799 : Int) := cb2
    have HK2 := hid (Wr.kinds_next hc HK.out)
    have HBD2 := hid (Wr.body_next hc HBD.out)
    clear hc cb1 cb2 HK HBD
    go_wp2_with fail
    clear x3 f3 sx
    go_loopw [6] (fun kv wr => ∃ k : Nat, k ≤ ks.length ∧ kv = .int .i64 k ∧ Hid (Wr.place c.lc ks = k + Wr.place c.lc (ks.drop k)) ∧ Hid (OwnLc wr (N + 1) (.slice va ks.length vcap) ks) ∧ Hid (Below N w wr) ∧ N + 1 ≤ wr.heap.size ∧ Hid (CellsAt wr N (tbC f (.slice a ch.length cap)))) (fun kv _ => ks.length - (intOf kv).toNat)
    case atStart => exact ⟨0, by omega, rfl, by show _ = _; simp, O0, B0, z0, T0⟩
    case round =>
      clear O0 B0 z0 T0
      obtain ⟨k, hk1, rfl, HP, O0, B0, z0, T0⟩ := hrel
      obtain ⟨x3, f3⟩ := ca_at T0.out 3 rfl
      have sx := T0.out.1
      obtain ⟨cb', co, _, e1, cl, c0, c1, c2, c3⟩ := rdCh_at (HA.out _ B0.out) HC.out
      simp only [Value.slice.injEq] at e1
      obtain ⟨rfl, _, rfl⟩ := e1
      obtain ⟨Z, hZ⟩ : ∃ Z, (decide (k < ks.length) && !decide (ks[k]? = some c.lc)) = Z := ⟨_, rfl⟩
      have HZ := hid hZ
      clear hZ
      go_upto_region 7 with fail
      go_cut [35] from 19 to 35 (fun s wc => s = .bool Z ∧ ∃ n, wc = wr.drewN n)
      case first =>
        by_cases q1 : k < ks.length
        case neg =>
          have hz : Z = false := by rw [← HZ.out, decide_eq_false q1]; rfl
          subst hz
          go_quiet (fail)
          go_wp2_with fail
          go_meet
          exact ⟨rfl, _, rfl⟩
        obtain ⟨l, hl⟩ : ∃ l, ks[k]? = some l := ⟨_, List.getElem?_eq_getElem q1⟩
        obtain ⟨lb, lo, _, e2, ll, l0, l1, l2⟩ := rdLc_at (ownLc_rd O0.out) hl
        simp only [Value.slice.injEq] at e2
        obtain ⟨rfl, _, rfl⟩ := e2
        by_cases hcd : l = c.lc
        · have hz : Z = false := by rw [← HZ.out, hl, hcd]; simp
          subst hz hcd
          clear hl
          go_quiet (fail)
          go_wp2_with fail
          go_meet
          exact ⟨rfl, _, rfl⟩
        · have hz : Z = true := by rw [← HZ.out, hl, decide_eq_true q1]; simp [hcd]
          subst hz
          have h4 := lc_cases hcd
          clear hl hcd
          obtain ⟨ls, lv, ln⟩ := l
          obtain ⟨ca, cs, cv, cn⟩ := c
          dsimp only at c0 c1 c2 c3 l0 l1 l2 h4
          rcases h4 with h4 | ⟨rfl, h4⟩ | ⟨rfl, rfl, h4⟩
          all_goals
            go_quiet (fail)
            go_wp2_with fail
            go_meet
            exact ⟨rfl, _, rfl⟩
      case rest =>
        obtain ⟨rfl, n1, rfl⟩ := hcut
        cases Z
        case true =>
          have hz := HZ.out
          simp only [Bool.and_eq_true, decide_eq_true_eq, Bool.not_eq_true', decide_eq_false_iff_not] at hz
          obtain ⟨q1, q2⟩ := hz
          obtain ⟨l, hl⟩ : ∃ l, ks[k]? = some l := ⟨_, List.getElem?_eq_getElem q1⟩
          have HP2 : Hid (Wr.place c.lc ks = (k + 1) + Wr.place c.lc (ks.drop (k + 1))) := by
            show _ = _
            rw [HP.out, Wr.place_drop hl, if_neg (by intro q; rw [q] at hl; exact q2 hl)]
            omega
          clear HZ hl q2 HP
          go_wp2
          go_roundw
          case rel => exact ⟨k + 1, by omega, by go_num, HP2, O0.out, below_drewN B0.out _, z0, T0.out⟩
          case measure => simp [intOf]; omega
        case false =>
          have HP2 : Hid (Wr.place c.lc ks = k) := by
            show _ = _
            by_cases q1 : k < ks.length
            · obtain ⟨l, hl⟩ : ∃ l, ks[k]? = some l := ⟨_, List.getElem?_eq_getElem q1⟩
              have hz := HZ.out
              rw [decide_eq_true q1, hl] at hz
              simp at hz
              rw [HP.out, Wr.place_drop hl, if_pos hz]
              rfl
            · rw [HP.out, Wr.place_end q1]; rfl
          have HB5 := hid (fun W => bytes_any (c.at_ + 274877906944) 5 W (by omega) (by omega) (by omega))
          have HB2 := hid (fun W => bytes_any (k : Int) 2 W (by omega) (by omega) (by omega))
          clear HZ HP x3 f3 sx c0 c1 c2 c3 cl
          have O1 : Hid (OwnLc (wr.drewN n1) (N + 1) (.slice va ks.length vcap) ks) := O0
          have B1 : Hid (Below N w (wr.drewN n1)) := below_drewN B0.out _
          have T1 : Hid (CellsAt (wr.drewN n1) N (tbC f (.slice (some ⟨cb', co, none⟩) ch.length cap))) := T0
          have z1 : N + 1 ≤ (wr.drewN n1).heap.size := z0
          generalize wr.drewN n1 = wq at *
          clear O0 B0 T0 z0
          by_cases hke : k = ks.length
          · have HA2 : Hid (Wr.addK ks c.lc = ks ++ [c.lc]) := by show _ = _; rw [Wr.addK, HP2.out, if_pos hke]
            subst hke
            obtain ⟨x3, f3⟩ := ca_at T1.out 3 rfl
            have sx := T1.out.1
            obtain ⟨cb2', co2, _, e1, cl, c0, c1, c2, c3⟩ := rdCh_at (HA.out _ B1.out) HC.out
            simp only [Value.slice.injEq, Option.some.injEq, Addr.mk.injEq] at e1
            obtain ⟨⟨rfl, rfl, _⟩, _, rfl⟩ := e1
            go_wp2_with (at_builtin; refine wpList_append_own _ rfl _ _ 68 rfl (N + 1) 23 i0 (.agg #[.int .i64 0, .int .i64 0, .string ⟨#[]⟩]) 3 32 Try.underlying68 hi hz0 hz1 hz2 rfl (by decide) _ _ _ rfl (World.ownsRow.alloc O1.out _) _ 1 1 (lcCells c.lc) rfl rfl (three_cells' _ _ _ _) (lc_one _) (by unfold maxLen; omega) (by omega) (by simp; omega) ?_)
            intro v' w4 hown' hgrow _
            have B0 : Hid (Below N w w4) := Below.grown (B1.out.alloc (by omega) _) hgrow (by simp; omega) (fun k hk => by have := (O1.out.lt k hk).1; omega)
            have T0 := hid (ca_grownO (ca_alloc T1.out _) hgrow (fun k hk => by have := (O1.out.lt k hk).1; omega))
            have O0 : Hid (OwnLc w4 (N + 1) v' (ks ++ [c.lc])) := by show World.ownsRow _ _ _ _ _ _ _; simpa using hown'
            have z0 : N + 1 ≤ w4.heap.size := by have := hgrow.size; simp at this; omega
            obtain ⟨va', vcap', rfl⟩ := owns_shape0 hown'
            clear hown' hgrow B1 O1 T1 z1 x3 f3 sx c0 c1 c2 c3 cl
            obtain ⟨x3, f3⟩ := ca_at T0.out 3 rfl
            have sx := T0.out.1
            obtain ⟨cb2', co2, _, e1, cl, c0, c1, c2, c3⟩ := rdCh_at (HA.out _ B0.out) HC.out
            simp only [Value.slice.injEq, Option.some.injEq, Addr.mk.injEq] at e1
            obtain ⟨⟨rfl, rfl, _⟩, _, rfl⟩ := e1
            go_wp2_with fail
            refine (HB5.out _).mono ?_
            rintro e w5 ⟨rfl, hb5⟩
            go_wp2_with fail
            refine (HB2.out _).mono ?_
            rintro e w6 ⟨rfl, hb6⟩
            have B6 : Hid (Below N w w6) := (B0.out.trans (hb5.mono (by omega))).trans (hb6.mono (by have := hb5.size; omega))
            have T6 := hid (ca_below (ca_below T0.out hb5) hb6)
            have O6 := hid (owns_below (owns_below O0.out hb5) hb6)
            have z6 : N + 1 ≤ w6.heap.size := by have := hb5.size; have := hb6.size; omega
            clear B0 T0 O0 hb5 hb6 z0 x3 f3 sx c0 c1 c2 c3 cl
            have ln5 := Wr.num_len 5 (c.at_ + 274877906944)
            have ln2 := Wr.num_len 2 (ks.length : Int)
            generalize hM5 : Wr.num 5 (c.at_ + 274877906944) = M5 at *
            generalize hM2 : Wr.num 2 (ks.length : Int) = M2 at *
            have HM5 := hid hM5
            have HM2 := hid hM2
            clear hM5 hM2
            go_wp2
            go_roundw
            case rel =>
              refine ⟨i + 1, ks ++ [c.lc], acc ++ (M5 ++ M2), by omega, by go_num, congrArg Value.string (bytes_ext (by simp)), by simp only [List.length_append]; omega, by simp; omega, O6, B6, z6, T6, ?_, ?_⟩
              · show KS = _
                rw [← HA2.out]; exact HK2.out
              · show BD = _
                rw [HBD2.out, HA2.out, Wr.change, HP2.out, HM5.out, HM2.out]
            case measure => simp [intOf]; omega
          · have HA2 : Hid (Wr.addK ks c.lc = ks) := by show _ = _; rw [Wr.addK, HP2.out, if_neg hke]
            have hke' : ¬ (k : Int) = ks.length := by omega
            have O0 := O1
            have B0 := B1
            have T0 := T1
            have z0 := z1
            clear O1 B1 T1 z1
            obtain ⟨x3, f3⟩ := ca_at T0.out 3 rfl
            have sx := T0.out.1
            obtain ⟨cb2', co2, _, e1, cl, c0, c1, c2, c3⟩ := rdCh_at (HA.out _ B0.out) HC.out
            simp only [Value.slice.injEq, Option.some.injEq, Addr.mk.injEq] at e1
            obtain ⟨⟨rfl, rfl, _⟩, _, rfl⟩ := e1
            go_wp2_with fail
            refine (HB5.out _).mono ?_
            rintro e w5 ⟨rfl, hb5⟩
            go_wp2_with fail
            refine (HB2.out _).mono ?_
            rintro e w6 ⟨rfl, hb6⟩
            have B6 : Hid (Below N w w6) := (B0.out.trans (hb5.mono (by omega))).trans (hb6.mono (by have := hb5.size; omega))
            have T6 := hid (ca_below (ca_below T0.out hb5) hb6)
            have O6 := hid (owns_below (owns_below O0.out hb5) hb6)
            have z6 : N + 1 ≤ w6.heap.size := by have := hb5.size; have := hb6.size; omega
            clear B0 T0 O0 hb5 hb6 z0 x3 f3 sx c0 c1 c2 c3 cl
            have ln5 := Wr.num_len 5 (c.at_ + 274877906944)
            have ln2 := Wr.num_len 2 (k : Int)
            generalize hM5 : Wr.num 5 (c.at_ + 274877906944) = M5 at *
            generalize hM2 : Wr.num 2 (k : Int) = M2 at *
            have HM5 := hid hM5
            have HM2 := hid hM2
            clear hM5 hM2
            go_wp2
            go_roundw
            case rel =>
              refine ⟨i + 1, ks, acc ++ (M5 ++ M2), by omega, by go_num, congrArg Value.string (bytes_ext (by simp)), by simp only [List.length_append]; omega, by omega, O6, B6, z6, T6, ?_, ?_⟩
              · show KS = _
                rw [← HA2.out]; exact HK2.out
              · show BD = _
                rw [HBD2.out, HA2.out, Wr.change, HP2.out, HM5.out, HM2.out]
            case measure => simp [intOf]; omega
end Go.Proofs.Ytombhnjmelidcaa
