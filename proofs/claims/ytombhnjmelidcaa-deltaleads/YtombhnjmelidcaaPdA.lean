/- Contracts of slices.Grow and slices.Concat, at lists of changes. -/
import Derived.Test.YtombhnjmelidcaaTbG
import Derived.Lib.AppendZeros
namespace Go.Proofs.Ytombhnjmelidcaa
open Go.RowKit Go.Lib
set_option linter.unusedVariables false
set_option linter.unusedSimpArgs false

set_option maxRecDepth 100000 in
set_option maxHeartbeats 2000000 in
theorem grow_any (n : Nat) (w : World) (hn : n ≤ 1000000) :
    Calls Try.prog 55 #[.slice none 0 0, .int .i64 n] w fun e w' => ∃ v, e = .returned v ∧ OwnCh w' w.heap.size v [] ∧ Below w.heap.size w w' := by
  have h1 : ¬ ((n : Int) < 0) := by omega
  by_cases h0 : n = 0
  · subst h0
    go_enter Try.func55, Try.ntmps55
    go_wp2
    go_ret
    exact ⟨_, rfl, ownCh_nil _ _, Below.refl _ _⟩
  obtain ⟨i0, hi, hz0, hz1, hz2⟩ := info_parts Try.infoCg
  have hr := fun ty => run_append_nil_zeros (P := Try.prog) w 24 3 ty 32 i0 (.agg #[.int .i64 0, .int .i64 0, .int .i64 0, .string ⟨#[]⟩]) .i64 .i64 Try.underlying24 Try.underlying3 hi hz0 n (by omega) (by omega) (by omega) (by rw [hz2]; omega)
  have hGn : n ≤ grownCap w n 0 32 := grownCap_ge w _ _ _
  have hGm : grownCap w n 0 32 ≤ maxLen := grownCap_le_maxLen w n 0 32 (by unfold maxLen; omega)
  obtain ⟨G, hG⟩ : ∃ G, G = grownCap w n 0 32 := ⟨_, rfl⟩
  rw [← hG] at hr hGn hGm
  have HM := hid hGm
  unfold maxLen at hGm
  have hp : (n : Int) > 0 := by omega
  have HO : Hid (OwnCh (w.drew.alloc (.cells (Builtin.zeroCells (Value.agg #[.int .i64 0, .int .i64 0, .int .i64 0, .string ⟨#[]⟩]).cells n ++ Builtin.zeroCells (Value.agg #[.int .i64 0, .int .i64 0, .int .i64 0, .string ⟨#[]⟩]).cells (G - n)) 32)) w.heap.size (.slice (some ⟨w.heap.size, 0, none⟩) 0 G) []) := by
    refine World.ownsRow_made w.drew _ G (Nat.le_refl _) HM.out ?_
    rw [Array.size_append, size_zeroCells, size_zeroCells, show (Value.agg #[.int .i64 0, .int .i64 0, .int .i64 0, .string ⟨#[]⟩]).cells.size = 4 from rfl]
    omega
  have HB : Hid (Below w.heap.size w (w.drew.alloc (.cells (Builtin.zeroCells (Value.agg #[.int .i64 0, .int .i64 0, .int .i64 0, .string ⟨#[]⟩]).cells n ++ Builtin.zeroCells (Value.agg #[.int .i64 0, .int .i64 0, .int .i64 0, .string ⟨#[]⟩]).cells (G - n)) 32))) :=
    (show Below w.heap.size w w.drew from ⟨rfl, rfl, rfl, Nat.le_refl _, fun _ _ => rfl⟩).alloc (Nat.le_refl _) _
  clear hG
  go_enter Try.func55, Try.ntmps55
  go_wp2_with (at_builtin; refine Lib.wpList_append_run _ rfl _ _ _ _ rfl _ _ rfl rfl _ _ (hr _) ?_)
  go_ret
  exact ⟨_, rfl, HO.out, HB.out⟩

theorem flat_next {α : Type} {l : List (List α)} {i : Nat} {p : List α} (h : l[i]? = some p) : (l.take (i + 1)).flatten = (l.take i).flatten ++ p := by
  obtain ⟨hi, rfl⟩ := List.getElem?_eq_some_iff.1 h
  rw [List.take_succ_eq_append_getElem hi, List.flatten_append]
  simp only [List.flatten_cons, List.flatten_nil, List.append_nil]
theorem flat_part {α : Type} (l : List (List α)) (i : Nat) : (l.take i).flatten.length ≤ l.flatten.length := by
  conv => rhs; rw [← List.take_append_drop i l]
  rw [List.flatten_append, List.length_append]
  omega
/- lists that lie in a row, each in a cell -/
structure RdParts (w : World) (b o : Nat) (vs : List Value) (ps : List (List Tb.Cg)) : Prop where
  len : vs.length = ps.length
  lt : b < w.heap.size
  at_ : ∀ (i : Nat) (v : Value), vs[i]? = some v → w.cell? ⟨b, o + i, none⟩ = some v
  rd : ∀ (i : Nat) (v : Value) (p : List Tb.Cg), vs[i]? = some v → ps[i]? = some p → RdCh w v p
theorem rdParts_below {w w' : World} {b o : Nat} {vs : List Value} {ps : List (List Tb.Cg)} (h : RdParts w b o vs ps) (hb : Below w.heap.size w w') : RdParts w' b o vs ps :=
  ⟨h.len, Nat.lt_of_lt_of_le h.lt hb.size, fun i v q => (hb.cell (p := ⟨b, o + i, none⟩) h.lt).trans (h.at_ i v q), fun i v p q r => rdCh_below (h.rd i v p q r) hb⟩

set_option maxRecDepth 100000 in
set_option maxHeartbeats 4000000 in
theorem concat_any (b o k cap : Nat) (vs : List Value) (ps : List (List Tb.Cg)) (w : World) (h : RdParts w b o vs ps) (hk : ps.length = k) (hk2 : k ≤ 1000) (hl : ps.flatten.length ≤ 1000000) :
    Calls Try.prog 36 #[.slice (some ⟨b, o, none⟩) k cap] w fun e w' => ∃ v, e = .returned v ∧ OwnCh w' w.heap.size v ps.flatten ∧ Below w.heap.size w w' := by
  have H := hid h
  have HK := hid hk
  clear h hk
  have HP : Hid (∀ i, (ps.take i).flatten.length ≤ 1000000) := fun i => Nat.le_trans (flat_part ps i) hl
  have HL := hid hl
  clear hl
  obtain ⟨i0, hi, hz0, hz1, hz2⟩ := info_parts Try.infoCg
  go_enter Try.func36, Try.ntmps36
  go_wp2_with fail
  go_loop [3, 11] (fun sv iv => ∃ i : Nat, i ≤ k ∧ iv = .int .i64 i ∧ ∃ n : Nat, sv = .int .i64 n ∧ Hid ((ps.take i).flatten.length = n)) (fun _ iv => k - (intOf iv).toNat)
  case atStart => exact ⟨0, by omega, rfl, 0, rfl, by show _ = _; simp⟩
  case round =>
    obtain ⟨i, hik, rfl, n, rfl, HN⟩ := hrel
    have hn : n ≤ 1000000 := by rw [← HN.out]; exact HP.out i
    by_cases q : i < k
    · obtain ⟨p, hp⟩ : ∃ p, ps[i]? = some p := ⟨_, List.getElem?_eq_getElem (by rw [HK.out]; exact q)⟩
      obtain ⟨v, hv⟩ : ∃ v, vs[i]? = some v := ⟨_, List.getElem?_eq_getElem (by rw [H.out.len, HK.out]; exact q)⟩
      have cv := H.out.at_ i v hv
      have hlt := H.out.lt
      obtain ⟨a', cap', e1, _⟩ := H.out.rd i v p hv hp
      subst e1
      have HN2 : Hid ((ps.take (i + 1)).flatten.length = n + p.length) := by show _ = _; rw [flat_next hp, List.length_append, HN.out]
      have hn2 : n + p.length ≤ 1000000 := by rw [← HN2.out]; exact HP.out (i + 1)
      clear hp hv
      go_wp2
      go_round
      case rel => exact ⟨i + 1, by omega, by go_num, n + p.length, by go_num, HN2⟩
      case measure => simp [intOf]; omega
    · obtain rfl : i = k := by omega
      have HN2 : Hid (ps.flatten.length = n) := by show _ = _; rw [← HN.out, List.take_of_length_le (by rw [HK.out]; omega)]
      go_wp2_with (go_at_call 55; refine (grow_any n _ hn).mono ?_; rintro e w1 ⟨v1, rfl, O1, B1⟩)
      have HO : Hid (OwnCh w1 w.heap.size v1 ((ps.take 0).flatten)) := by show OwnCh _ _ _ _; simpa using O1
      have HB := hid B1
      clear O1 B1 HN HN2 hn q hik
      go_loopw [6, 27] (fun sv iv wr => ∃ j : Nat, j ≤ i ∧ iv = .int .i64 j ∧ Hid (OwnCh wr w.heap.size sv ((ps.take j).flatten)) ∧ Hid (Below w.heap.size w wr)) (fun _ iv _ => i - (intOf iv).toNat)
      case atStart => exact ⟨0, by omega, rfl, HO, HB⟩
      case round =>
        clear HO HB
        obtain ⟨j, hj, rfl, O0, B0⟩ := hrel
        obtain ⟨va, vcap, rfl⟩ := owns_shape0 O0.out
        have HL2 := hid (HP.out j)
        by_cases q : j < i
        · obtain ⟨p, hp⟩ : ∃ p, ps[j]? = some p := ⟨_, List.getElem?_eq_getElem (by rw [HK.out]; exact q)⟩
          obtain ⟨v, hv⟩ : ∃ v, vs[j]? = some v := ⟨_, List.getElem?_eq_getElem (by rw [H.out.len, HK.out]; exact q)⟩
          have H0 := hid (rdParts_below H.out B0.out)
          have cv := H0.out.at_ j v hv
          have hlt := H0.out.lt
          have r2 := H0.out.rd j v p hv hp
          obtain ⟨a', cap', e1, _⟩ := id r2
          subst e1
          obtain ⟨L, hL⟩ : ∃ L, (ps.take j).flatten = L := ⟨_, rfl⟩
          have HN2 : Hid ((ps.take (j + 1)).flatten = L ++ p) := by show _ = _; rw [flat_next hp, hL]
          have hn2 : L.length + p.length ≤ 1000000 := by have := HP.out (j + 1); rw [HN2.out, List.length_append] at this; exact this
          rw [hL] at O0 HL2 ⊢
          have c2 := rdCh_cells r2
          have z2 := rdCh_nil r2
          have f2 := flat_len p
          have o2 := flat_one p
          have w2 : OwnCh wr w.heap.size (.slice va L.length vcap) L := O0.out
          have sz : w.heap.size ≤ wr.heap.size := B0.out.size
          clear hL hp hv r2 HL2 H0
          go_wp2_with (at_builtin; refine wpList_append_any rfl (.tmp 31) (.tmp 32) 24 rfl w.heap.size 32 i0 (.agg #[.int .i64 0, .int .i64 0, .int .i64 0, .string ⟨#[]⟩]) 4 40 Try.underlying24 hi hz0 hz1 hz2 rfl (by decide) (.slice va L.length vcap) L.length (L.flatMap cgCells) rfl w2 a' p.length cap' (p.flatMap cgCells) rfl f2 c2 z2 o2 (by unfold maxLen; omega) (by omega) sz ?_)
          intro v3 w3 hown hgrow
          have O3 : Hid (OwnCh w3 w.heap.size v3 (L ++ p)) := by
            show World.ownsRow _ _ _ _ _ _ _
            rw [List.length_append, List.flatMap_append]
            exact hown
          have B3 : Hid (Below w.heap.size w w3) := Below.grown B0.out hgrow sz (fun k hk => (w2.lt k hk).1)
          obtain ⟨va3, vcap3, rfl⟩ := owns_shape0 hown
          clear hown hgrow c2 z2 f2 o2 w2 O0 B0 cv hlt
          go_wp2
          go_roundw
          case rel => exact ⟨j + 1, by omega, by go_num, by rw [HN2.out]; exact O3, B3⟩
          case measure => simp [intOf]; omega
        · obtain rfl : j = i := by omega
          have HT : Hid ((ps.take j).flatten = ps.flatten) := by show _ = _; rw [List.take_of_length_le (by rw [HK.out]; omega)]
          rw [HT.out] at O0 ⊢
          go_wp2
          go_ret
          exact ⟨_, rfl, O0.out, B0.out⟩
end Go.Proofs.Ytombhnjmelidcaa
