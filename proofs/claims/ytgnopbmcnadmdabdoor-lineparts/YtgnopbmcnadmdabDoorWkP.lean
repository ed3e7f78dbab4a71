/- The walk of LineParts. -/
import Derived.Test.YtgnopbmcnadmdabDoorTxP
import Derived.Test.YtgnopbmcnadmdabDoorWkB
namespace Go.Proofs.YtgnopbmcnadmdabDoor
open Go.RowKit
set_option linter.unusedVariables false
set_option linter.unusedSimpArgs false

theorem feeds_snoc (s : ByteArray) (i : Nat) (h : i < s.size) : Tx.feeds (s.data.toList.take (i + 1)) = Tx.feeds (s.data.toList.take i) + (if s[i] = 10 then 1 else 0) := by
  rw [List.take_succ_eq_append_getElem (by simpa using h)]
  unfold Tx.feeds
  rw [List.countP_append]
  simp [ByteArray.getElem_eq_getElem_data]
  by_cases q : s.data[i] = 10 <;> simp [q] <;> omega
theorem feeds_all (s : ByteArray) : Tx.feeds (s.data.toList.take s.size) = Tx.feeds s.data.toList := by rw [List.take_of_length_le (by simp)]
theorem feeds_le (l : Tx.Bs) : Tx.feeds l ≤ 1 + l.length := by
  unfold Tx.feeds
  have := List.countP_le_length (p := (· == 10)) (l := l)
  omega
theorem is_feed (c : UInt8) : ((c.toNat : Int) == 10) = (c == 10) := u8_eq c 10

/- lines that are gathered in memory of one's own, their fields lying in memory that stays -/
def MixLines (w6 w : World) (v : Value) (ls : List Tx.Ln) : Prop :=
  ∃ vs : List Value, vs.length = ls.length ∧ w.ownsRow w6.heap.size 29 3 v ls.length (cellsOf vs ls) ∧
    ∀ (i : Nat) (fv : Value) (l : Tx.Ln), vs[i]? = some fv → ls[i]? = some l → RdStrs w6 fv l.fields
theorem mix_rdLines {w6 w : World} {v : Value} {ls : List Tx.Ln} (h : MixLines w6 w v ls) (hb : Below w6.heap.size w6 w) : RdLines w v ls := by
  obtain ⟨vs, hl, h2, h3⟩ := h
  obtain ⟨a, cap, rfl⟩ := owns_shape0 h2
  refine ⟨a, cap, rfl, fun hn => ?_⟩
  cases a with
  | none =>
    rcases h2.2 with ⟨_, h0⟩ | ⟨g, c, cur, h1, _⟩
    · exact absurd (List.length_eq_zero_iff.1 h0) hn
    · simp at h1
  | some a =>
    obtain ⟨q1, q2, q3, q4, q5⟩ := owns_cell (g := 0) h2
    obtain ⟨ab, ao, ap⟩ := a
    simp at q1 q2 q4 q5
    subst q1 q2
    refine ⟨ab, 0, rfl, q4, fun i l hi => ?_⟩
    have hlt : i < vs.length := by rw [hl]; exact (List.getElem?_eq_some_iff.1 hi).1
    have hv : vs[i]? = some vs[i] := List.getElem?_eq_getElem hlt
    obtain ⟨g0, g1, g2⟩ := cellsOf_get vs ls i vs[i] l hv hi
    rw [Nat.mul_comm 3 i] at g0 g1 g2
    exact ⟨by simpa using q5 _ _ g0, by simpa using q5 _ _ g1, vs[i], by simpa using q5 _ _ g2, rdStrs_below (h3 i _ l hv hi) hb⟩
theorem cellsOf_one : ∀ (vs : List Value) (ls : List Tx.Ln), (∀ v ∈ vs, v.oneCell' = true) → ∀ u ∈ cellsOf vs ls, u.oneCell' = true
  | [], _, _, u, h => by simp [cellsOf] at h
  | v :: vs, [], _, u, h => by simp [cellsOf] at h
  | v :: vs, l :: ls, hv, u, h => by
    simp only [cellsOf, List.mem_cons] at h
    rcases h with rfl | rfl | rfl | h
    · rfl
    · rfl
    · exact hv _ (by simp)
    · exact cellsOf_one vs ls (fun x hx => hv x (by simp [hx])) u h
theorem cellsOf_len : ∀ (vs : List Value) (ls : List Tx.Ln), vs.length = ls.length → (cellsOf vs ls).length = ls.length * 3
  | [], [], _ => rfl
  | v :: vs, l :: ls, h => by simp [cellsOf, cellsOf_len vs ls (by simpa using h)]; omega
  | [], l :: ls, h => by simp at h
  | v :: vs, [], h => by simp at h
theorem own_fields_one {w : World} {B : Nat} {v : Value} {ls : List Tx.Ln} {vs : List Value} (hl : vs.length = ls.length) (h3 : ∀ (i : Nat) (fv : Value) (l : Tx.Ln), vs[i]? = some fv → ls[i]? = some l → w.ownsRow B 9 1 fv l.fields.length (l.fields.map strV)) : ∀ u ∈ vs, u.oneCell' = true := by
  intro u hu
  obtain ⟨i, hi, rfl⟩ := List.getElem_of_mem hu
  have hl' : i < ls.length := by omega
  obtain ⟨a, cap, e⟩ := owns_shape0 (h3 i _ _ (List.getElem?_eq_getElem hi) (List.getElem?_eq_getElem hl'))
  rw [e]; rfl
theorem mix_app {w6 w1 w3 : World} {v v' fv : Value} {vs : List Value} {ls : List Tx.Ln} {l : Tx.Ln} (hl : vs.length = ls.length)
    (hf : ∀ (i : Nat) (fv : Value) (l : Tx.Ln), vs[i]? = some fv → ls[i]? = some l → RdStrs w6 fv l.fields) (hfv : RdStrs w6 fv l.fields)
    (hown' : w3.ownsRow w6.heap.size 29 3 v' (ls.length + 1) (cellsOf vs ls ++ [.int .i64 l.number, .bool l.inner, fv])) : MixLines w6 w3 v' (ls ++ [l]) := by
  refine ⟨vs ++ [fv], by simp [hl], ?_, ?_⟩
  · rw [cellsOf_snoc vs ls fv l hl]; simpa using hown'
  · intro i x y hx hy
    by_cases h : i < ls.length
    · rw [List.getElem?_append_left (by omega)] at hx
      rw [List.getElem?_append_left h] at hy
      exact hf i x y hx hy
    · have hi : i = ls.length := by
        have := (List.getElem?_eq_some_iff.1 hy).1
        simp at this; omega
      subst hi
      rw [← hl] at hx
      simp at hx hy
      subst hx hy
      exact hfv

theorem add_at (g j : Nat) : (⟨g, 0, none⟩ : Addr).add j = ⟨g, j, none⟩ := by
  simp only [Addr.add]; split <;> simp_all
set_option maxRecDepth 100000 in
set_option maxHeartbeats 8000000 in
theorem lineParts_walk (s t : ByteArray) (m : Int) (w : World) (hm : w.cell? ⟨0, 0, none⟩ = some (.int .i64 m)) (h0 : 0 < w.heap.size) (hs : s.size ≤ 140737488351232) (ht : t.size ≤ 140737488351232) :
    Calls Tryd.prog 3 #[.string s, .string t] w fun e w' => e = .returned (.bool true) ∧ Below w.heap.size w w' := by
  have HM := hid hm
  clear hm
  go_enter Tryd.func3, Tryd.ntmps3
  go_wp2_with fail
  refine (lineBegun_is m _ HM.out h0).mono ?_
  rintro e w1 ⟨rfl, hb1⟩
  have s1 := hb1.size
  have M1 := max_below h0 HM.out hb1
  have B1 := hid hb1
  clear HM hb1
  go_wp2_with fail
  refine (split_is s m _ M1.out (by omega)).mono ?_
  rintro e w2 ⟨hb2, va, rfl, hown2⟩
  have s2 := hb2.size
  have M2 := max_below (by omega) M1.out hb2
  have B2 := hid (B1.out.trans (hb2.mono s1))
  have A2 := hid hown2
  clear M1 B1 hb2 hown2
  go_wp2_with fail
  refine (split_is t m _ M2.out (by omega)).mono ?_
  rintro e w3 ⟨hb3, vb, rfl, hown3⟩
  have s3 := hb3.size
  have M3 := max_below (by omega) M2.out hb3
  have B3 := hid (B2.out.trans (hb3.mono (by omega)))
  have A3 := hid (ownLines_below A2.out hb3)
  have C3 := hid hown3
  clear M2 B2 A2 hb3 hown3
  obtain ⟨xa, xcap, hva⟩ := ownLines_shape A3.out
  obtain ⟨xb, ycap, hvb⟩ := ownLines_shape C3.out
  subst hva hvb
  have TA := hid (Tx.split_tidy s.data.toList)
  have LA := hid (Tx.split_lines s.data.toList).1
  have LB := hid (Tx.split_lines t.data.toList).1
  have FLX : Hid (s.size + t.size < 8000 → (Tx.split s.data.toList).err = 0 → (Tx.split t.data.toList).err = 0 → ¬ 200 < (Tx.split s.data.toList).lines.length + (Tx.split t.data.toList).lines.length → ∀ (i : Nat) (a : Tx.Ln), ((Tx.split s.data.toList).lines ++ (Tx.split t.data.toList).lines.map (Tx.shift (Tx.feeds s.data.toList)))[i]? = some a → a.fields.length ≤ 100000) := fun h a b c => by
    have := fieldsLe (s.data.toList ++ 10 :: t.data.toList)
    rwa [Tx.parts_ok a (by simpa using h) b c] at this
  have NB : Hid (s.size + t.size < 8000 → _) := fun h => Tx.split_numbers t.data.toList (by simp; omega)
  have P1 : Hid (s.size + t.size < 8000 → (Tx.split s.data.toList).err = 0 → (Tx.split t.data.toList).err ≠ 0 → _) := fun h a b => Tx.parts_form a (by simpa using h) b
  have P2 : Hid (s.size + t.size < 8000 → (Tx.split s.data.toList).err = 0 → (Tx.split t.data.toList).err = 0 → _ → _) := fun h a b => Tx.parts_many a (by simpa using h) b
  have P3 : Hid (s.size + t.size < 8000 → (Tx.split s.data.toList).err = 0 → (Tx.split t.data.toList).err = 0 → _ → _) := fun h a b => Tx.parts_ok a (by simpa using h) b
  obtain ⟨RA, hRA⟩ : ∃ R, Tx.split s.data.toList = R := ⟨_, rfl⟩
  obtain ⟨RB, hRB⟩ : ∃ R, Tx.split t.data.toList = R := ⟨_, rfl⟩
  rw [hRA] at TA LA P1 P2 P3 A3 FLX ⊢
  rw [hRB] at LB P1 P2 P3 C3 NB FLX ⊢
  clear hRA hRB
  by_cases hbig : s.size + t.size < 8000
  · have hbig' : ¬ (8000 : Int) ≤ (s.size : Int) + (t.size : Int) := by omega
    by_cases hea : RA.err = 0
    · have hea' : (RA.err != 0) = false := by simp [hea]
      rw [hea]
      have HEA := hid hea
      clear hea hea'
      go_wp2_with fail
      go_loop [11, 12] (fun f a => ∃ i : Nat, i ≤ s.size ∧ a = .int .i64 i ∧ f = .int .i64 (Tx.feeds (s.data.toList.take i) : Nat)) (fun _ a => s.size - (intOf a).toNat)
      case atStart => exact ⟨0, Nat.zero_le _, rfl, by simp [Tx.feeds]⟩
      case round =>
        obtain ⟨i, hi, rfl, rfl⟩ := hrel
        have hfl := feeds_le (s.data.toList.take i)
        have hfl2 : Tx.feeds (s.data.toList.take i) ≤ 8001 := by
          have : (s.data.toList.take i).length ≤ s.size := by simp; omega
          omega
        clear hfl
        by_cases hlt : i < s.size
        · have FS := hid (feeds_snoc s i hlt)
          obtain ⟨c, hc⟩ : ∃ c, s[i] = c := ⟨_, rfl⟩
          rw [hc] at FS
          by_cases h10 : c = 10
          · have hc10 : ((c.toNat : Int) == 10) = true := by rw [is_feed, h10]; rfl
            have FS' : Hid (Tx.feeds (s.data.toList.take (i + 1)) = Tx.feeds (s.data.toList.take i) + 1) := by show _ = _; rw [FS.out, if_pos h10]
            clear FS h10
            go_wp2
            go_round
            case rel => exact ⟨i + 1, hlt, by go_num, by rw [FS'.out]; go_num⟩
            case measure => simp [intOf]; omega
          · have hc10 : ((c.toNat : Int) == 10) = false := by rw [is_feed]; simpa using h10
            have FS' : Hid (Tx.feeds (s.data.toList.take (i + 1)) = Tx.feeds (s.data.toList.take i)) := by show _ = _; rw [FS.out, if_neg h10]; rfl
            clear FS h10
            go_wp2
            go_round
            case rel => exact ⟨i + 1, hlt, by go_num, by rw [FS'.out]⟩
            case measure => simp [intOf]; omega
        · obtain rfl : i = s.size := by omega
          rw [feeds_all]
          rw [feeds_all] at hfl2
          clear hi hlt
          have SP : Hid (Calls Tryd.prog 8 #[.string (s ++ ⟨#[10]⟩ ++ t)] w3 fun x w' =>
              Below w3.heap.size w3 w' ∧ ∃ v, x = .returned (.tuple #[v, .int .i64 (Tx.split (s.data.toList ++ 10 :: t.data.toList)).number, .int .i64 (Tx.split (s.data.toList ++ 10 :: t.data.toList)).err]) ∧ OwnLines w' w3.heap.size v (Tx.split (s.data.toList ++ 10 :: t.data.toList)).lines) := by
            have := split_is (s ++ ⟨#[10]⟩ ++ t) m w3 M3.out (by omega)
            rwa [show (s ++ ⟨#[10]⟩ ++ t).data.toList = s.data.toList ++ 10 :: t.data.toList by simp] at this
          obtain ⟨Fd, hFd⟩ : ∃ F, Tx.feeds s.data.toList = F := ⟨_, rfl⟩
          rw [hFd] at hfl2 P1 P3 FLX ⊢
          clear hFd
          generalize Tx.split (s.data.toList ++ 10 :: t.data.toList) = RC at *
          go_wp2_with fail
          refine SP.out.mono ?_
          rintro e w6 ⟨hb6, vc, rfl, hown6⟩
          have s6 := hb6.size
          have B6 := hid (B3.out.trans (hb6.mono (by omega)))
          have A6 := hid (ownLines_below A3.out hb6)
          have C6 := hid (ownLines_below C3.out hb6)
          have D6 := hid hown6
          clear SP M3 B3 A3 C3 hb6 hown6 TA
          by_cases heb : RB.err = 0
          · have HEB := hid heb
            rw [heb]
            clear heb
            by_cases hll : 200 < RA.lines.length + RB.lines.length
            · have hll' : (200 : Int) < (RA.lines.length : Int) + (RB.lines.length : Int) := by omega
              have Q := hid (P2.out hbig HEA.out HEB.out hll)
              obtain rfl : RC = ⟨[], 0, 2⟩ := Q.out
              have la := LA.out
              have lb := LB.out
              clear P1 P2 P3 Q
              go_wp2
              go_ret
              exact ⟨rfl, B6.out⟩
            · have hll' : ¬ (200 : Int) < (RA.lines.length : Int) + (RB.lines.length : Int) := by omega
              have Q := hid (P3.out hbig HEA.out HEB.out hll)
              obtain rfl : RC = ⟨RA.lines ++ RB.lines.map (Tx.shift Fd), 0, 0⟩ := Q.out
              clear P1 P2 P3 Q
              have la := LA.out
              have lb := LB.out
              obtain ⟨i0, hi0, hz0, hz1, hz2⟩ := info_parts Tryd.infoLine
              have NL := hid (NB.out hbig).2
              clear NB
              have R6 := hid (own_rdLines C6.out)
              have hA6 := A6.out
              obtain ⟨vsA, hlA, hoA, hfA⟩ := hA6
              have HF6 := hid hfA
              rcases hoA.2 with ⟨hn1, hn2⟩ | ⟨g, gcap, cur, hg1, hg2⟩
              · simp only [Value.slice.injEq] at hn1
                obtain ⟨rfl, hn3, rfl⟩ := hn1
                have I0 : Hid (MixLines w6 w6 (.slice none 0 0) (RA.lines ++ (RB.lines.take 0).map (Tx.shift Fd))) := by
                  have e : RA.lines = [] := List.length_eq_zero_iff.1 hn3
                  rw [e]
                  exact ⟨[], rfl, World.ownsRow_nil _ _ _ _, fun i fv l h => by simp at h⟩
                have J0 : Hid (Below w6.heap.size w6 w6) := Below.refl _ _
                have HN3 := hid hn3
                rw [hn3]
                clear hn3 hn2 hoA hfA A6 C6
                go_wp2_with (at_builtin; fail)
                go_loopw [16, 17] (fun v a wr => ∃ i : Nat, i ≤ RB.lines.length ∧ a = .int .i64 i ∧ Hid (MixLines w6 wr v (RA.lines ++ (RB.lines.take i).map (Tx.shift Fd))) ∧ Hid (Below w6.heap.size w6 wr)) (fun _ a _ => RB.lines.length - (intOf a).toNat)
                case atStart => exact ⟨0, by omega, rfl, I0, J0⟩
                case round =>
                  clear I0 J0
                  obtain ⟨i, hi, rfl, I, J⟩ := hrel
                  by_cases hlt : i < RB.lines.length
                  · obtain ⟨l, hl⟩ : ∃ l, RB.lines[i]? = some l := ⟨_, List.getElem?_eq_getElem hlt⟩
                    have hnl := NL.out l (List.mem_of_getElem? hl)
                    have TK : Hid (RA.lines ++ (RB.lines.take (i + 1)).map (Tx.shift Fd) = RA.lines ++ (RB.lines.take i).map (Tx.shift Fd) ++ [Tx.shift Fd l]) := by
                      show _ = _
                      rw [List.take_add_one, hl]; simp
                    obtain ⟨_, _, hq, hrd⟩ := R6.out
                    simp only [Value.slice.injEq] at hq
                    obtain ⟨rfl, _, rfl⟩ := hq
                    obtain ⟨bb, bo, rfl, hbb, hcc⟩ := hrd (by intro q; rw [q] at hlt; simp at hlt)
                    obtain ⟨c0, c1, fv, c2, rd⟩ := hcc i l hl
                    have k0 := (J.out.cell (p := ⟨bb, bo + i * 3, none⟩) hbb).trans c0
                    have k1 := (J.out.cell (p := ⟨bb, bo + i * 3 + 1, none⟩) hbb).trans c1
                    have k2 := (J.out.cell (p := ⟨bb, bo + i * 3 + 2, none⟩) hbb).trans c2
                    have RD := hid rd
                    obtain ⟨fa, fcap, rfl, _⟩ := rd
                    obtain ⟨ln, li, lf⟩ := l
                    simp only at k0 k1 k2 hnl
                    obtain ⟨vs, hvl, hov, hfv⟩ := I.out
                    have HFV := hid hfv
                    obtain ⟨av, capv, rfl⟩ := owns_shape0 hov
                    have hJs := J.out.size
                    have hlen : (RA.lines ++ (RB.lines.take i).map (Tx.shift Fd)).length ≤ 200 := by simp; omega
                    obtain ⟨LS, hLS⟩ : ∃ x, RA.lines ++ (RB.lines.take i).map (Tx.shift Fd) = x := ⟨_, rfl⟩
                    rw [hLS] at hvl hov HFV hlen TK ⊢
                    have HOV := hid hov
                    clear hl hrd hcc c0 c1 c2 hfv hov hLS
                    go_wp2_with (at_builtin; go_must (refine wpList_append_own _ rfl _ _ 23 rfl w6.heap.size 29 i0 (.agg #[.int .i64 0, .bool false, .slice none 0 0]) 3 40 Tryd.underlying23 hi0 hz0 hz1 hz2 rfl (by decide) _ _ _ rfl ((HOV.out.alloc _).alloc _) _ 1 1 [.int .i64 (ln + (Fd : Int)), .bool li, .slice fa lf.length fcap] rfl rfl (three_cells_at _ _ _ _ (by simp)) (three_one _ _ _ _ _) (by unfold maxLen; omega) (by omega) (by simp; omega) ?_))
                    intro v8 w8 hown8 hgrow8 _
                    have J8 : Hid (Below w6.heap.size w6 w8) := (((J.out.alloc hJs _).alloc (by simp; omega) _).grown hgrow8 (by simp; omega) (fun k hk => (HOV.out.lt k hk).1))
                    have I8 : Hid (MixLines w6 w8 v8 (RA.lines ++ (RB.lines.take (i + 1)).map (Tx.shift Fd))) := by
                      show MixLines _ _ _ _
                      rw [TK.out]
                      exact mix_app (l := Tx.shift Fd ⟨ln, li, lf⟩) (w1 := w8) (v := .slice av LS.length capv) hvl HFV.out RD.out hown8
                    clear hown8 hgrow8 HOV HFV
                    go_wp2
                    go_roundw
                    case rel => exact ⟨i + 1, hlt, by go_num, I8, J8⟩
                    case measure => simp [intOf]; omega
                  · obtain rfl : i = RB.lines.length := by omega
                    obtain ⟨AL, hAL⟩ : ∃ x, RA.lines ++ (RB.lines.take RB.lines.length).map (Tx.shift Fd) = x := ⟨_, rfl⟩
                    have HAL : Hid (RA.lines ++ RB.lines.map (Tx.shift Fd) = AL) := by
                      show _ = _
                      rw [← hAL, List.take_length]
                    rw [hAL] at I
                    clear hAL
                    have RM := hid (mix_rdLines I.out J.out)
                    have RC : Hid (RdLines wr vc AL) := by
                      have q := rdLines_below (own_rdLines D6.out) J.out
                      simp only [HAL.out] at q
                      exact q
                    have hJs := J.out.size
                    have BJ := hid (B6.out.trans (J.out.mono (by omega)))
                    obtain ⟨_, _, hq, _⟩ := mix_rdLines I.out J.out
                    subst hq
                    have FL : Hid (∀ (i : Nat) (a : Tx.Ln), AL[i]? = some a → a.fields.length ≤ 100000) := by
                      have q := FLX.out hbig HEA.out HEB.out hll
                      rwa [HAL.out] at q
                    have LL : Hid (AL.length ≤ 100000) := by show _ ≤ _; rw [← HAL.out]; simp; omega
                    clear I J D6 R6 HF6 NL FLX HAL
                    go_wp2_with fail
                    refine (sameLines_yes _ _ _ _ true _ RC.out RM.out (alike_refl true _) LL.out FL.out).mono ?_
                    rintro e w9 ⟨rfl, hb9⟩
                    go_wp2
                    go_ret
                    exact ⟨rfl, BJ.out.trans (hb9.mono (by omega))⟩
              · simp only [Value.slice.injEq] at hg1
                obtain ⟨rfl, _, rfl⟩ := hg1
                obtain ⟨_, _, _, _, hcells⟩ := owns_cell (g := 0) hoA
                have hone := cellsOf_one vsA RA.lines (own_fields_one (v := .slice (some ⟨g, 0, none⟩) RA.lines.length xcap) hlA hfA)
                have hclen := cellsOf_len vsA RA.lines hlA
                have hnews : ∀ j u, (cellsOf vsA RA.lines)[j]? = some u → w6.cell? ((⟨g, 0, none⟩ : Addr).add j) = some u := fun j u h => by
                  rw [add_at]; exact hcells j u h
                have HNW := hid hnews
                have HON := hid hone
                have HCL := hid hclen
                clear hg2 hoA hfA A6 C6 hcells hnews hone hclen
                go_wp2_with (at_builtin; go_must (refine wpList_append_own _ rfl _ _ 23 rfl w6.heap.size 29 i0 (.agg #[.int .i64 0, .bool false, .slice none 0 0]) 3 40 Tryd.underlying23 hi0 hz0 hz1 hz2 rfl (by decide) _ 0 [] rfl (World.ownsRow_nil _ _ _ _) _ RA.lines.length _ (cellsOf vsA RA.lines) rfl HCL.out HNW.out HON.out (by unfold maxLen; omega) (by omega) (Nat.le_refl _) ?_))
                intro v7 w7 hown7 hgrow _
                have I0 : Hid (MixLines w6 w7 v7 (RA.lines ++ (RB.lines.take 0).map (Tx.shift Fd))) := by
                  simp only [List.take_zero, List.map_nil, List.append_nil]
                  exact ⟨vsA, hlA, by simpa using hown7, fun i fv l a b => owns_rdStrs (HF6.out i fv l a b)⟩
                have J0 : Hid (Below w6.heap.size w6 w7) := (Below.refl _ _).grown hgrow (Nat.le_refl _) (by simp [Value.ownBlock])
                clear hown7 hgrow HNW HON HCL
                go_wp2_with (at_builtin; fail)
                go_loopw [16, 17] (fun v a wr => ∃ i : Nat, i ≤ RB.lines.length ∧ a = .int .i64 i ∧ Hid (MixLines w6 wr v (RA.lines ++ (RB.lines.take i).map (Tx.shift Fd))) ∧ Hid (Below w6.heap.size w6 wr)) (fun _ a _ => RB.lines.length - (intOf a).toNat)
                case atStart => exact ⟨0, by omega, rfl, I0, J0⟩
                case round =>
                  clear I0 J0
                  obtain ⟨i, hi, rfl, I, J⟩ := hrel
                  by_cases hlt : i < RB.lines.length
                  · obtain ⟨l, hl⟩ : ∃ l, RB.lines[i]? = some l := ⟨_, List.getElem?_eq_getElem hlt⟩
                    have hnl := NL.out l (List.mem_of_getElem? hl)
                    have TK : Hid (RA.lines ++ (RB.lines.take (i + 1)).map (Tx.shift Fd) = RA.lines ++ (RB.lines.take i).map (Tx.shift Fd) ++ [Tx.shift Fd l]) := by
                      show _ = _
                      rw [List.take_add_one, hl]; simp
                    obtain ⟨_, _, hq, hrd⟩ := R6.out
                    simp only [Value.slice.injEq] at hq
                    obtain ⟨rfl, _, rfl⟩ := hq
                    obtain ⟨bb, bo, rfl, hbb, hcc⟩ := hrd (by intro q; rw [q] at hlt; simp at hlt)
                    obtain ⟨c0, c1, fv, c2, rd⟩ := hcc i l hl
                    have k0 := (J.out.cell (p := ⟨bb, bo + i * 3, none⟩) hbb).trans c0
                    have k1 := (J.out.cell (p := ⟨bb, bo + i * 3 + 1, none⟩) hbb).trans c1
                    have k2 := (J.out.cell (p := ⟨bb, bo + i * 3 + 2, none⟩) hbb).trans c2
                    have RD := hid rd
                    obtain ⟨fa, fcap, rfl, _⟩ := rd
                    obtain ⟨ln, li, lf⟩ := l
                    simp only at k0 k1 k2 hnl
                    obtain ⟨vs, hvl, hov, hfv⟩ := I.out
                    have HFV := hid hfv
                    obtain ⟨av, capv, rfl⟩ := owns_shape0 hov
                    have hJs := J.out.size
                    have hlen : (RA.lines ++ (RB.lines.take i).map (Tx.shift Fd)).length ≤ 200 := by simp; omega
                    obtain ⟨LS, hLS⟩ : ∃ x, RA.lines ++ (RB.lines.take i).map (Tx.shift Fd) = x := ⟨_, rfl⟩
                    rw [hLS] at hvl hov HFV hlen TK ⊢
                    have HOV := hid hov
                    clear hl hrd hcc c0 c1 c2 hfv hov hLS
                    go_wp2_with (at_builtin; go_must (refine wpList_append_own _ rfl _ _ 23 rfl w6.heap.size 29 i0 (.agg #[.int .i64 0, .bool false, .slice none 0 0]) 3 40 Tryd.underlying23 hi0 hz0 hz1 hz2 rfl (by decide) _ _ _ rfl ((HOV.out.alloc _).alloc _) _ 1 1 [.int .i64 (ln + (Fd : Int)), .bool li, .slice fa lf.length fcap] rfl rfl (three_cells_at _ _ _ _ (by simp)) (three_one _ _ _ _ _) (by unfold maxLen; omega) (by omega) (by simp; omega) ?_))
                    intro v8 w8 hown8 hgrow8 _
                    have J8 : Hid (Below w6.heap.size w6 w8) := (((J.out.alloc hJs _).alloc (by simp; omega) _).grown hgrow8 (by simp; omega) (fun k hk => (HOV.out.lt k hk).1))
                    have I8 : Hid (MixLines w6 w8 v8 (RA.lines ++ (RB.lines.take (i + 1)).map (Tx.shift Fd))) := by
                      show MixLines _ _ _ _
                      rw [TK.out]
                      exact mix_app (l := Tx.shift Fd ⟨ln, li, lf⟩) (w1 := w8) (v := .slice av LS.length capv) hvl HFV.out RD.out hown8
                    clear hown8 hgrow8 HOV HFV
                    go_wp2
                    go_roundw
                    case rel => exact ⟨i + 1, hlt, by go_num, I8, J8⟩
                    case measure => simp [intOf]; omega
                  · obtain rfl : i = RB.lines.length := by omega
                    obtain ⟨AL, hAL⟩ : ∃ x, RA.lines ++ (RB.lines.take RB.lines.length).map (Tx.shift Fd) = x := ⟨_, rfl⟩
                    have HAL : Hid (RA.lines ++ RB.lines.map (Tx.shift Fd) = AL) := by
                      show _ = _
                      rw [← hAL, List.take_length]
                    rw [hAL] at I
                    clear hAL
                    have RM := hid (mix_rdLines I.out J.out)
                    have RC : Hid (RdLines wr vc AL) := by
                      have q := rdLines_below (own_rdLines D6.out) J.out
                      simp only [HAL.out] at q
                      exact q
                    have hJs := J.out.size
                    have BJ := hid (B6.out.trans (J.out.mono (by omega)))
                    obtain ⟨_, _, hq, _⟩ := mix_rdLines I.out J.out
                    subst hq
                    have FL : Hid (∀ (i : Nat) (a : Tx.Ln), AL[i]? = some a → a.fields.length ≤ 100000) := by
                      have q := FLX.out hbig HEA.out HEB.out hll
                      rwa [HAL.out] at q
                    have LL : Hid (AL.length ≤ 100000) := by show _ ≤ _; rw [← HAL.out]; simp; omega
                    clear I J D6 R6 HF6 NL FLX HAL
                    go_wp2_with fail
                    refine (sameLines_yes _ _ _ _ true _ RC.out RM.out (alike_refl true _) LL.out FL.out).mono ?_
                    rintro e w9 ⟨rfl, hb9⟩
                    go_wp2
                    go_ret
                    exact ⟨rfl, BJ.out.trans (hb9.mono (by omega))⟩
          · obtain ⟨q1, q2⟩ := P1.out hbig HEA.out heb
            have heb' : (RB.err != 0) = true := by simp [heb]
            obtain ⟨cl, cn, ce⟩ := RC
            simp only at q1 q2
            subst q1
            clear P1 P2 P3
            rcases q2 with ⟨q2, q3⟩ | ⟨q2, q3⟩
            · have z1 : (RB.number == 0) = true := by simp [q2]
              have z2 : (cn == 0) = true := by simp [q3]
              have HQ2 := hid q2
              have HQ3 := hid q3
              clear q2 q3 NB FLX
              go_wp2
              go_ret
              exact ⟨rfl, B6.out⟩
            · have z1 : (RB.number == 0) = false := by simp; omega
              have z2 : (cn == RB.number + (Fd : Int)) = true := by simp [q3]
              have HQ3 := hid q3
              have nb := (NB.out hbig).1.2
              clear q3 NB FLX
              go_wp2
              go_ret
              exact ⟨rfl, B6.out⟩
    · have hea' : (RA.err != 0) = true := by simp [hea]
      have hea2 : (RA.err == 0) = false := by simp [hea]
      have hl0 : RA.lines.length = 0 := by
        have t := TA.out
        unfold Tx.Tidy at t
        rw [if_neg hea] at t
        rw [t]; rfl
      rw [hl0]
      clear hl0 P1 P2 P3 NB FLX
      go_wp2
      go_ret
      exact ⟨rfl, B3.out⟩
  · have hbig' : (8000 : Int) ≤ (s.size : Int) + (t.size : Int) := by omega
    by_cases hea : RA.err = 0
    · rw [hea]
      clear P1 P2 P3 hea NB FLX
      go_wp2
      go_ret
      exact ⟨rfl, B3.out⟩
    · have hea2 : (RA.err == 0) = false := by simp [hea]
      have hl0 : RA.lines.length = 0 := by
        have t := TA.out
        unfold Tx.Tidy at t
        rw [if_neg hea] at t
        rw [t]; rfl
      rw [hl0]
      clear hl0 P1 P2 P3 NB FLX
      go_wp2
      go_ret
      exact ⟨rfl, B3.out⟩
end Go.Proofs.YtgnopbmcnadmdabDoor
