/- The contract of the document's ParseOf. -/
import Derived.Test.YtkhlkohlccndgaaGreatQz
import Derived.Test.YtkhlkohlccndgaaGreatQah
import Derived.Test.YtkhlkohlccndgaaGreatQak
import Derived.Test.YtkhlkohlccndgaaGreatQam
import Derived.Test.YtkhlkohlccndgaaGreatQae
import Derived.Deep.CutBlock
set_option linter.unusedVariables false
set_option linter.unusedSimpArgs false
set_option maxRecDepth 100000
set_option maxHeartbeats 16000000
namespace Go.Proofs.YtkhlkohlccndgaaGreat
section
open Go.RowKit

/- how it ends -/
structure uw (s : Tx.Bs) (w : World) (e : Ending) (w' : World) : Prop where
 out : ∃ r z l, e = .returned (.tuple #[.agg #[r, z, l], .int .i64 (Sx.parse s).number, .int .i64 (Sx.parse s).err]) ∧ fV w' w.heap.size r z l (Sx.parse s).src
 bel : Below w.heap.size w w'
theorem Bv {s : Tx.Bs} (h : (Tx.split s).err ≠ 0) : Sx.parse s = ⟨Sx.gm, (Tx.split s).number, (Tx.split s).err⟩ := by
 unfold Sx.parse; rw [if_pos h]
theorem DI {s : Tx.Bs} {n : Int} (h : (Tx.split s).err = 0) (hl : Sx.gT ⟨Sx.gm, false⟩ (Tx.split s).lines = .error n) : Sx.parse s = ⟨Sx.gm, n, 1⟩ := by
 unfold Sx.parse; rw [if_neg (by simp [h]), hl]
theorem DJ {s : Tx.Bs} {st : Sx.St} (h : (Tx.split s).err = 0) (hl : Sx.gT ⟨Sx.gm, false⟩ (Tx.split s).lines = .ok st) (hm : st.must = true) : Sx.parse s = ⟨Sx.gm, 0, 1⟩ := by
 unfold Sx.parse; rw [if_neg (by simp [h]), hl]; simp [hm]
theorem Gt {s : Tx.Bs} {st : Sx.St} (h : (Tx.split s).err = 0) (hl : Sx.gT ⟨Sx.gm, false⟩ (Tx.split s).lines = .ok st) (hm : st.must = false) (he : Sx.fB st.src ≠ 0) : Sx.parse s = ⟨Sx.gm, 0, Sx.fB st.src⟩ := by
 unfold Sx.parse; rw [if_neg (by simp [h]), hl]; simp [hm, he]
theorem Jg {s : Tx.Bs} {st : Sx.St} (h : (Tx.split s).err = 0) (hl : Sx.gT ⟨Sx.gm, false⟩ (Tx.split s).lines = .ok st) (hm : st.must = false) (he : Sx.fB st.src = 0) : Sx.parse s = ⟨st.src, 0, 0⟩ := by
 unfold Sx.parse; rw [if_neg (by simp [h]), hl]; simp [hm, he]

theorem BM (s : ByteArray) (w : World) :
  Calls Tryz.prog 145 #[.string s] w fun e w' => ∃ v, e = .returned (.tuple #[v, .int .i64 (Tx.split s.data.toList).number, .int .i64 (Tx.split s.data.toList).err]) ∧ gY w' w.heap.size v (Tx.split s.data.toList).lines ∧ Below w.heap.size w w' := by
 by_cases hs : 8000 < s.size
 ·refine (zS s w hs).mono ?_
  rintro e w' ⟨rfl, rfl⟩
  rw [Tx.DZ (by simpa using hs)]
  exact ⟨_, rfl, jM _ _, q4B _ _⟩
 ·exact BO s w hs
theorem Br {w : World} {B B' : Nat} {r z l : Value} {s : Sx.Sr} (h : fV w B r z l s) (hB : B' ≤ B) : fV w B' r z l s := by
 obtain ⟨h1, ⟨ps, h2⟩, h3⟩ := h
 exact ⟨gK h1 hB, ⟨ps, ⟨h2.len, gK h2.row hB, fun i p x a b => ⟨(h2.eras i p x a b).1, gK (h2.eras i p x a b).2 hB⟩, h2.apart⟩⟩, gK h3 hB⟩
theorem Ju {s : Sx.Sr} (h : Sx.Sz s) : mO s :=
 ⟨fun r hr => ⟨Nat.le_trans (h.rules r hr).1 (by decide), Nat.le_trans (h.rules r hr).2 (by decide)⟩, fun z hz => ⟨Nat.le_trans (h.zones z hz).1 (by decide), fun x hx => ⟨Nat.le_trans ((h.zones z hz).2 x hx).1 (by decide), Nat.le_trans ((h.zones z hz).2 x hx).2 (by decide)⟩⟩, fun l hl => ⟨Nat.le_trans (h.links l hl).1 (by decide), Nat.le_trans (h.links l hl).2 (by decide)⟩⟩
theorem GV (s : Tx.Bs) : (Tx.split s).lines.length ≤ 200 := by
 unfold Tx.split
 split
 ·simp
 split
 ·simp
 split
 ·simp
 ·simp; omega
theorem iY {w : World} {B q o : Nat} {u r z l : Value} {s : Sx.Sr} (h : fV w B r z l s) (hq : q < B) : fV (w.setCell ⟨q, o, none⟩ u) B r z l s := by
 obtain ⟨h1, ⟨ps, h2⟩, h3⟩ := h
 have hne : ∀ {e : TypeId} {k n : Nat} {v : Value} {xs : List Value}, w.ownsRow B e k v n xs → (w.setCell ⟨q, o, none⟩ u).ownsRow B e k v n xs := by
  intro e k n v xs hu
  refine ownsRow_setCell_other hu ?_ _
  intro e
  have := (gp hu q e).1
  omega
 exact ⟨hne h1, ⟨ps, ⟨h2.len, hne h2.row, fun i p x a b => ⟨(h2.eras i p x a b).1, hne (h2.eras i p x a b).2⟩, h2.apart⟩⟩, hne h3⟩
theorem yj {w : World} {B : Nat} {r z l : Value} {s : Sx.Sr} (h : fV w B r z l s) : ∃ a cap, z = .slice a s.zones.length cap := by
 obtain ⟨ps, h2⟩ := h.zones
 exact Bq h2
theorem Bu (s : ByteArray) (w : World) :
  Calls Tryz.prog 87 #[.string s] w (uw s.data.toList w) := by
 have h200 := GV s.data.toList
 have hcnt := Tx.zT s.data.toList
 have SA := BM s
 obtain ⟨ls, hls⟩ : ∃ ls, (Tx.split s.data.toList).lines = ls := ⟨_, rfl⟩
 obtain ⟨sn, hsn⟩ : ∃ n, (Tx.split s.data.toList).number = n := ⟨_, rfl⟩
 obtain ⟨se, hse⟩ : ∃ n, (Tx.split s.data.toList).err = n := ⟨_, rfl⟩
 obtain ⟨P, hP⟩ : ∃ P, Sx.parse s.data.toList = P := ⟨_, rfl⟩
 have E1 : Hid (se ≠ 0 → P = ⟨Sx.gm, sn, se⟩) := by show _ → _; intro h; rw [← hP, ← hsn, ← hse]; exact Bv (by rw [hse]; exact h)
 have E2 : Hid (se = 0 → ∀ n, Sx.gT ⟨Sx.gm, false⟩ ls = .error n → P = ⟨Sx.gm, n, 1⟩) := by show _ → _; intro h n q; rw [← hP]; exact DI (by rw [hse]; exact h) (by rw [hls]; exact q)
 have E3 : Hid (se = 0 → ∀ st, Sx.gT ⟨Sx.gm, false⟩ ls = .ok st → st.must = true → P = ⟨Sx.gm, 0, 1⟩) := by show _ → _; intro h n q q2; rw [← hP]; exact DJ (by rw [hse]; exact h) (by rw [hls]; exact q) q2
 have E4 : Hid (se = 0 → ∀ st, Sx.gT ⟨Sx.gm, false⟩ ls = .ok st → st.must = false → Sx.fB st.src ≠ 0 → P = ⟨Sx.gm, 0, Sx.fB st.src⟩) := by show _ → _; intro h n q q2 q3; rw [← hP]; exact Gt (by rw [hse]; exact h) (by rw [hls]; exact q) q2 q3
 have E5 : Hid (se = 0 → ∀ st, Sx.gT ⟨Sx.gm, false⟩ ls = .ok st → st.must = false → Sx.fB st.src = 0 → P = ⟨st.src, 0, 0⟩) := by show _ → _; intro h n q q2 q3; rw [← hP]; exact Jg (by rw [hse]; exact h) (by rw [hls]; exact q) q2 q3
 rw [hls] at h200 hcnt
 rw [hls, hsn, hse] at SA
 have CNT := hid hcnt
 have SAH := hid SA
 have PE : Hid (∀ (e : Ending) (w' : World), (∃ r z l, e = .returned (.tuple #[.agg #[r, z, l], .int .i64 P.number, .int .i64 P.err]) ∧ fV w' w.heap.size r z l P.src) → Below w.heap.size w w' → uw s.data.toList w e w') := by
  show ∀ e w', _
  intro e w' h hb
  exact ⟨by rw [hP]; exact h, hb⟩
 clear hP hls hsn hse hcnt SA
 have RX0 := hid (aD w [bS, bS, bS] 26)
 have BW0 := hid ((q4B w.heap.size w).alloc (Nat.le_refl _) (.cells [bS, bS, bS].toArray 26))
 go_enter Tryz.func87, Tryz.ntmps87
 go_wp2_with fail
 refine (SAH.out _).mono ?_
 rintro e W ⟨v, rfl, hown, hb⟩
 have RX : Hid (ak W w.heap.size [bS, bS, bS]) := ai RX0.out hb
 have BW : Hid (Below w.heap.size w W) := BW0.out.trans (hb.mono BW0.out.size)
 have OL := hid hown
 obtain ⟨va, vcap, rfl⟩ := nD hown
 clear RX0 BW0 SAH hb hown
 obtain ⟨⟨r0, rf0⟩, ⟨r1, rf1⟩, ⟨r2, rf2⟩, hRW⟩ := cp3 RX.out
 by_cases h0 : se = 0
 case neg =>
  have h0' : (se != 0) = true := by simp [h0]
  have EP : Hid (P = ⟨Sx.gm, sn, se⟩) := E1.out h0
  clear E1 E2 E3 E4 E5
  go_wp2
  refine bodyPost_ret (v := .tuple #[.agg #[bS, bS, bS], .int .i64 sn, .int .i64 se]) (by simp [results, Tryz.results87, go_sem, *]) rfl (PE.out _ _ ⟨bS, bS, bS, by rw [EP.out], by rw [EP.out]; exact gF _ _⟩ ?_)
  exact aO (aO (aO BW.out (Nat.le_refl _) _) (Nat.le_refl _) _) (Nat.le_refl _) _
 subst h0
 have F2 := hid (E2.out rfl)
 have F3 := hid (E3.out rfl)
 have F4 := hid (E4.out rfl)
 have F5 := hid (E5.out rfl)
 clear E1 E2 E3 E4 E5
 go_wp2_with fail
 have hX0 := W.heap.size
 obtain ⟨X, hX⟩ : ∃ X, W.heap.size = X := ⟨_, rfl⟩
 obtain ⟨W1, hW1⟩ : ∃ W1, W.alloc (.cells [bS, bS, bS].toArray 26) = W1 := ⟨_, rfl⟩
 have P1 : Hid (PS W W1 X (X + 1) bS bS bS Sx.gm) := by
  show PS _ _ _ _ _ _ _ _
  rw [← hW1, ← hX]
  exact ⟨(q4B _ _).alloc (Nat.le_refl _) _, Nat.le_refl _, by omega, by simp, aD W [bS, bS, bS] _, gF _ _⟩
 rw [show W.alloc (.cells #[.slice none 0 0, .slice none 0 0, .slice none 0 0] 26) = W1 from hW1, hX]
 have hXW : w.heap.size < X := by omega
 clear hW1 hX r0 rf0 r1 rf1 r2 rf2
 obtain ⟨LO, hLO⟩ : ∃ LO, Sx.gT ⟨Sx.gm, false⟩ ls = LO := ⟨_, rfl⟩
 have L0 : Hid (LO = Sx.gT ⟨Sx.gm, false⟩ (ls.drop 0)) := by show _ = _; rw [← hLO]; rfl
 rw [hLO] at F2 F3 F4 F5
 clear hLO hX0
 go_loopw [9, 10] (fun m a wr => ∃ (i : Nat) (st : Sx.St) (r z l : Value), i ≤ ls.length ∧ m = .bool st.must ∧ a = .int .i64 i ∧ Hid (PS W wr X (X + 1) r z l st.src) ∧ Hid (LO = Sx.gT st (ls.drop i)) ∧ Hid (Sx.Fp st i)) (fun _ a _ => ls.length - (intOf a).toNat)
 case atStart => exact ⟨0, ⟨Sx.gm, false⟩, bS, bS, bS, by omega, rfl, rfl, P1, L0, Sx.D8⟩
 case round =>
  clear P1 L0
  obtain ⟨i, ⟨src, must⟩, r, z, l, hi, rfl, rfl, P0, LQ, OK⟩ := hrel
  have hXw := P0.out.box.1
  simp only at P0
  obtain ⟨ra, rcap, rfl⟩ := aQ P0.out.own.rules
  obtain ⟨za, zcap, rfl⟩ := yj P0.out.own
  obtain ⟨la, lcap, rfl⟩ := aQ P0.out.own.links
  by_cases hlt : i < ls.length
  case neg =>
   have LE : Hid (LO = .ok ⟨src, must⟩) := by show _ = _; rw [LQ.out, List.drop_eq_nil_of_le (by omega)]; rfl
   have RW := hid (ai RX.out P0.out.bel)
   obtain ⟨⟨r0, rf0⟩, ⟨r1, rf1⟩, ⟨r2, rf2⟩, -⟩ := cp3 RW.out
   have BB : Hid (Below w.heap.size w wr) := BW.out.trans (P0.out.bel.mono BW.out.size)
   have hRw := RW.out.1
   cases must
   case true =>
    have EP : Hid (P = ⟨Sx.gm, 0, 1⟩) := F3.out _ LE.out rfl
    go_wp2
    refine bodyPost_ret (v := .tuple #[.agg #[bS, bS, bS], .int .i64 0, .int .i64 1]) (by simp [results, Tryz.results87, go_sem, *]) rfl (PE.out _ _ ⟨bS, bS, bS, by rw [EP.out], by rw [EP.out]; exact gF _ _⟩ ?_)
    exact aO (aO (aO BB.out (Nat.le_refl _) _) (Nat.le_refl _) _) (Nat.le_refl _) _
   obtain ⟨⟨o0, of0⟩, ⟨o1, of1⟩, ⟨o2, of2⟩, -⟩ := cp3 P0.out.box
   go_wp2_with fail
   refine (tQ src _ _ _ _ (yh P0.out.own) (Ju OK.out.sz)).mono ?_
   rintro e w1 ⟨rfl, hb⟩
   have PN := hid (jo P0.out hb)
   have B1 : Hid (Below w.heap.size w w1) := BB.out.trans (hb.mono BB.out.size)
   have R1 := hid (ai RW.out hb)
   clear hb P0 BB RW r0 rf0 r1 rf1 r2 rf2 o0 of0 o1 of1 o2 of2 hRw hXw
   obtain ⟨⟨r0, rf0⟩, ⟨r1, rf1⟩, ⟨r2, rf2⟩, -⟩ := cp3 R1.out
   obtain ⟨⟨o0, of0⟩, ⟨o1, of1⟩, ⟨o2, of2⟩, -⟩ := cp3 PN.out.box
   have hRw := R1.out.1
   have hXw := PN.out.box.1
   have hne : ¬ X = w.heap.size := by omega
   obtain ⟨E, hE⟩ : ∃ E, Sx.fB src = E := ⟨_, rfl⟩
   rw [hE]
   by_cases h0 : E = 0
   case neg =>
    have EP : Hid (P = ⟨Sx.gm, 0, E⟩) := by show _ = _; rw [← hE]; exact F4.out _ LE.out rfl (by rw [hE]; exact h0)
    have h0' : (E != 0) = true := by simp [h0]
    clear hE
    go_wp2
    refine bodyPost_ret (v := .tuple #[.agg #[bS, bS, bS], .int .i64 0, .int .i64 E]) (by simp [results, Tryz.results87, go_sem, *]) rfl (PE.out _ _ ⟨bS, bS, bS, by rw [EP.out], by rw [EP.out]; exact gF _ _⟩ ?_)
    exact aO (aO (aO B1.out (Nat.le_refl _) _) (Nat.le_refl _) _) (Nat.le_refl _) _
   have EP : Hid (P = ⟨src, 0, 0⟩) := F5.out _ LE.out rfl (by rw [hE]; exact h0)
   subst h0
   clear hE
   go_wp2
   refine bodyPost_ret (v := .tuple #[.agg #[.slice ra src.rules.length rcap, .slice za src.zones.length zcap, .slice la src.links.length lcap], .int .i64 0, .int .i64 0]) (by simp [results, Tryz.results87, go_sem, *]) rfl (PE.out _ _ ⟨_, _, _, by rw [EP.out], ?_⟩ ?_)
   ·rw [EP.out]
    exact Br (iY (iY (iY PN.out.own (by omega)) (by omega)) (by omega)) (by omega)
   ·exact aO (aO (aO B1.out (Nat.le_refl _) _) (Nat.le_refl _) _) (Nat.le_refl _) _
  obtain ⟨ln, hln⟩ : ∃ ln, ls[i]? = some ln := ⟨_, q4G hlt⟩
  have OL2 := ko OL.out P0.out.bel
  obtain ⟨g, fa, fcap, rfl, ⟨hgl0, hgl⟩, c0, c1, c2, hfo⟩ := pI OL2 hln
  have hgR : ¬ g = w.heap.size := by simp at hgl0; omega
  have hgR2 : ¬ w.heap.size = g := by omega
  have hcn := CNT.out ln (List.mem_of_getElem? hln)
  have T0 : Hid (TkO (wr.alloc (.cells #[.slice fa ln.fields.length fcap, .bool false] 209)) wr.heap.size (wr.heap.size + 1) (some ln.fields)) := KA hfo hcn.1 hcn.2
  have LX : Hid (LO = match Sx.iJ ⟨src, must⟩ ln with | none => .error ln.number | some st' => Sx.gT st' (ls.drop (i + 1))) := by show _ = _; rw [LQ.out, Sx.jZ hln]; rfl
  have F24 := hid hcn.2
  have RW := hid (ai RX.out P0.out.bel)
  obtain ⟨b, hb⟩ : ∃ b, wr.heap.size = b := ⟨_, rfl⟩
  have BA : Hid (Below wr.heap.size wr (wr.alloc (.cells #[.slice fa ln.fields.length fcap, .bool false] 209))) := (q4B _ _).alloc (Nat.le_refl _) _
  obtain ⟨V, hV⟩ : ∃ V, wr.alloc (.cells #[.slice fa ln.fields.length fcap, .bool false] 209) = V := ⟨_, rfl⟩
  rw [hV] at T0 BA
  rw [hb] at T0
  have HV := hid hV
  have HB := hid hb
  have hgb : g < b := by omega
  have hXb : X < b := by omega
  have hgX : Hid (g < W.heap.size) := by
   have := (pI OL.out (show ls[i]? = some ln from hln))
   obtain ⟨g', _, _, e, ⟨_, hl⟩, _⟩ := this
   simp at e
   rw [e]; exact hl
  have HLN := hid hln
  clear OL2 hfo hcn hln LQ hV hb
  obtain ⟨wd, hwd⟩ : ∃ wd, (if must = true then [] else Sx.nxS (some ln.fields)) = wd := ⟨_, rfl⟩
  obtain ⟨o1, ho1⟩ : ∃ o1, (if must = true then some ln.fields else Sx.nxO (some ln.fields)) = o1 := ⟨_, rfl⟩
  have HWD := hid hwd
  have HO1 := hid ho1
  clear hwd ho1
  go_upto_if 44 with fail
  rw [show wr.alloc (.cells #[.slice fa ln.fields.length fcap, .bool false] 209) = V from HV.out, HB.out]
  go_cut [13] from 45 to 45 (fun s13 wc => s13 = ag wd ∧ Hid (Below wr.heap.size wr wc) ∧ Hid (TkO wc b (b + 1) o1))
  case first =>
   cases must
   ·go_wp2_with fail
    refine (ed b _ _ T0.out).mono ?_
    rintro e w1 ⟨rfl, g1, t1⟩
    go_wp2
    go_meet
    refine ⟨by rw [← HWD.out]; rfl, ?_, by rw [← HO1.out]; exact t1⟩
    exact BA.out.trans (show Below wr.heap.size V w1 from ⟨g1.os, g1.tape, g1.output, g1.size, fun k hk => g1.block k (by have := BA.out.size; omega) (by simp; have := HB.out; omega)⟩)
   ·go_wp2
    go_meet
    exact ⟨by rw [← HWD.out]; rfl, BA, by rw [← HO1.out]; exact T0.out⟩
  case rest =>
  obtain ⟨rfl, BC, TC⟩ := hcut
  clear T0 BA HV
  go_upto_block 2 with fail
  go_cut [9, 14, 15, 16, 17, 18] from 46 to 113 (fun s9 s14 s15 s16 s17 s18 wc => ∃ (st' : Sx.St) (r' z' l' : Value) (oF : Sx.O), s9 = .bool st'.must ∧ Hid (PS W wc X (X + 1) r' z' l' st'.src) ∧ Hid (TkE wc b oF) ∧ Hid (Sx.iJ ⟨src, must⟩ ln = if Sx.ended oF ln.inner must = true then some st' else none))
  case first =>
   have PC := hid (jo P0.out BC.out)
   obtain ⟨⟨x0, xf0⟩, ⟨x1, xf1⟩, ⟨x2, xf2⟩, sX⟩ := cp3 PC.out.box
   have kz := OK.out.zones
   have kr := OK.out.rules
   have kl := OK.out.links
   simp only at kz kr kl
   obtain ⟨i1, hi1, hz01, hz11, hz21⟩ := info_parts Tryz.AV
   obtain ⟨i2, hi2, hz02, hz12, hz22⟩ := info_parts Tryz.EH
   obtain ⟨i3, hi3, hz03, hz13, hz23⟩ := info_parts Tryz.AX
   obtain ⟨i4, hi4, hz04, hz14, hz24⟩ := info_parts Tryz.AU
   cases must
   case true =>
    have ho : some ln.fields = o1 := HO1.out
    rw [← ho] at TC
    obtain ⟨zs, z0, hzs⟩ := Sx.mh src.zones (OK.out.must rfl)
    obtain ⟨ps0, hz0⟩ := P0.out.own.zones
    have hpl0 : ps0.length = zs.length + 1 := by rw [hz0.len, hzs]; simp
    obtain ⟨ps, pe, hps⟩ := Sx.mh ps0 (by rintro rfl; simp at hpl0)
    have hpl : ps.length = zs.length := by rw [hps] at hpl0; simp at hpl0; exact hpl0
    rw [hps, hzs] at hz0
    have hpe := hz0.eras ps.length pe z0 (by simp) (by rw [hpl]; simp)
    have hes : z0.eras.length ≤ i := OK.out.eras z0 (by rw [hzs]; simp)
    obtain ⟨nm, ev⟩ := pe
    obtain ⟨nm', es⟩ := z0
    obtain ⟨hnm, hpe2⟩ := hpe
    simp only at hnm hpe2 hes
    subst hnm
    have hlen : src.zones.length = ps.length + 1 := by rw [hzs, hpl]; simp
    obtain ⟨ea, ecap, hev⟩ := aQ hpe2
    subst hev
    rw [hlen] at P0 x1 kz
    rw [show (zs ++ [(⟨nm, es⟩ : Sx.Zn)]).length = ps.length + 1 by simp [hpl]] at hz0
    obtain ⟨zg, zc, hza⟩ := bu (show wr.ownsRow (X + 1) 44 2 (.slice za (ps.length + 1) zcap) (ps.length + 1) ((ps ++ [(nm, Value.slice ea es.length ecap)]).flatMap cB) by have := hz0.row; simpa using this)
    simp only [Value.slice.injEq] at hza
    obtain ⟨rfl, _, rfl⟩ := hza
    have Z0 := hid hz0
    have hzgX : ¬ X = zg := by have := (oD hz0.row).2.2.2; omega
    have hzgb : zg < b := by have := (oD hz0.row).2.2.1; have := HB.out; omega
    have hevb : ∀ k, Value.ownBlock (.slice ea es.length ecap) = some k → X + 1 ≤ k ∧ k < b := fun k hk => by have := gp hpe2 k hk; have := HB.out; omega
    have HZS := hid hzs
    have HPL := hid hpl
    have hpsl : ps.length ≤ 200 := by omega
    clear ho hz0 hps hpl0 hpe2 HWD HO1 PC hzs hpl hlen
    go_wp2_with fail
    refine (xN b _ _ TC.out).mono ?_
    rintro e w5 ⟨x, oF, rfl, G5, t5, he⟩
    have B5 : Hid (Below wr.heap.size wr w5) := BC.out.trans ⟨G5.os, G5.tape, G5.output, G5.size, fun k hk => G5.block k (by have := BC.out.size; omega) (by simp; have := HB.out; omega)⟩
    have T5 := hid (qP t5)
    have HE := hid he
    clear G5 t5 he TC x0 xf0 x1 xf1 x2 xf2 sX
    have B6 := hid (B5.out.alloc B5.out.size (.cells (ax x).toArray 67))
    have T6 := hid (rP T5.out (.cells (ax x).toArray 67))
    have Y6 := hid (aD w5 (ax x) 67)
    have P6 := hid (jo P0.out B6.out)
    have Z6 := hid (fD Z0.out B6.out)
    obtain ⟨Y, hY⟩ : ∃ Y, w5.heap.size = Y := ⟨_, rfl⟩
    have hbY : b ≤ Y := by have := B5.out.size; have := HB.out; omega
    rw [hY] at Y6
    obtain ⟨V6, hV6⟩ : ∃ V, w5.alloc (.cells (ax x).toArray 67) = V := ⟨_, rfl⟩
    go_upto_region 18 with fail
    rw [show w5.alloc (.cells #[.int .i64 x.shift, ag x.rules, .int .i64 x.save, ag x.format, .bool x.opn, .int .i64 x.uy, .int .i64 x.um, .int .i64 x.ud, .int .i64 x.uat, .int .i64 x.uclock] 67) = V6 from hV6]
    rw [hV6] at B6 T6 Y6 P6 Z6
    clear hV6 B5 T5
    go_cut [] from 54 to 67 (fun wq => Hid (PS W wq X (X + 1) (.slice ra src.rules.length rcap) (.slice (some ⟨zg, 0, none⟩) (ps.length + 1) zcap) (.slice la src.links.length lcap) ⟨src.rules, zs ++ [⟨nm, es ++ [x]⟩], src.links⟩) ∧ Hid (TkE wq b oF) ∧ Hid (ak wq Y (ax x)))
    case first =>
     obtain ⟨x1, xf1⟩ := aa P6.out.box 1 rfl
     have sX := P6.out.box.1
     have sY := Y6.out.1
     obtain ⟨z1, zf1, sz1, _⟩ := oD Z6.out.row
     obtain ⟨⟨e0, ef0⟩, ⟨e1, ef1⟩, ⟨e2, ef2⟩, ⟨e3, ef3⟩, ⟨e4, ef4⟩, ⟨e5, ef5⟩, ⟨e6, ef6⟩, ⟨e7, ef7⟩, ⟨e8, ef8⟩, ⟨e9, ef9⟩, -⟩ := cp10 Y6.out
     have hown0 := (Z6.out.eras ps.length (nm, .slice ea es.length ecap) ⟨nm, es⟩ (by simp) (by rw [HPL.out]; simp)).2
     have OE := hid (show V6.ownsRow (X + 1) 67 10 (.slice ea es.length ecap) es.length (es.flatMap ax) from hown0)
     clear hown0
     have hB6 : X + 1 ≤ V6.heap.size := P6.out.hB
     have hidx : (ps.length : Int) < (ps.length : Int) + 1 := by omega
     go_region_law (refine wy rfl (.tmp 62) (.tmp 64) 42 rfl (X + 1) 67 i2 (.agg #[.int .i64 0, .string ⟨#[]⟩, .int .i64 0, .string ⟨#[]⟩, .bool false, .int .i64 0, .int .i64 0, .int .i64 0, .int .i64 0, .int .i64 0]) 10 96 Tryz.underlying42 hi2 hz02 hz12 hz22 rfl (by decide) _ _ _ (by simp [Act.eval, Act.put]) (World.ownsRow.alloc OE.out _) _ 1 1 (ax x) (by simp [Act.eval, Act.put]) rfl (xP _ _) (yU _) (by unfold maxLen; omega) (by omega) (show X + 1 ≤ (V6.alloc _).heap.size by rw [World.size_alloc]; omega) ?_; intro v' w7 hown' hgrow hat; have g7 : World.grownBy (V6.alloc (.cells (ax x).toArray 67)) w7 (Value.ownBlock (.slice ea es.length ecap)) := ⟨hgrow.os, hgrow.tape, hgrow.output, hgrow.size, hgrow.block⟩; obtain ⟨g7', cap7, hv7⟩ := bu hown'; subst hv7; have CB := zH P6.out g7 (fun k hk => (hevb k hk).1); obtain ⟨y1, yf1⟩ := aa CB 1 rfl; have sX7 := CB.1; obtain ⟨q1, qf1, sq1⟩ := Eu Z6.out g7; have PZ := hid (Lu P6.out Z6.out g7 hown' hat); have TZ := hid (uq (q := zg) (j := ps.length * 2 + 1) (v' := .slice (some ⟨g7', 0, none⟩) (es.length + 1) cap7) T6.out g7 (fun k hk => by have := hevb k hk; omega) (by omega)); have YZ := hid (bR (q := zg) (o := ps.length * 2 + 1) (u := .slice (some ⟨g7', 0, none⟩) (es.length + 1) cap7) (ca_grownO (aM Y6.out _) g7 (fun k hk => by have := hevb k hk; omega)) (show ¬ Y = zg by omega)); clear hown' hgrow g7 CB hat)
     all_goals
      go_wp2_with fail
      go_meet
      exact ⟨PZ, TZ, YZ⟩
    case rest =>
    obtain ⟨PZ, TZ, YZ⟩ := hcut
    obtain ⟨e4, ef4⟩ := aa YZ.out 4 rfl
    have sY := YZ.out.1
    have LL := hid (Sx.Ga (st := ⟨src, true⟩) rfl HE.out)
    have LL2 : Hid (Sx.iJ ⟨src, true⟩ ln = if Sx.ended oF ln.inner true = true then some ⟨⟨src.rules, zs ++ [⟨nm, es ++ [x]⟩], src.links⟩, !x.opn⟩ else none) := by
     show _ = _
     rw [LL.out]
     simp only
     rw [HZS.out, Sx.mP]
    clear LL
    go_wp2_with fail
    go_meet
    exact ⟨⟨⟨src.rules, zs ++ [⟨nm, es ++ [x]⟩], src.links⟩, !x.opn⟩, _, _, _, _, rfl, PZ, TZ, LL2⟩
   case false =>
    have ho : Sx.nxO (some ln.fields) = o1 := HO1.out
    have hw : Sx.nxS (some ln.fields) = wd := HWD.out
    by_cases w1 : wd = Sx.qK
    ·obtain ⟨fs, hfs⟩ : ∃ fs, ln.fields = Sx.qK :: fs := by
      cases hf : ln.fields with
      | nil => rw [hf] at hw; exact absurd (hw.trans w1) (by simp [Sx.nxS, Sx.qK])
      | cons a t => rw [hf] at hw; exact ⟨t, by rw [show a = wd from hw, w1]⟩
     have ho2 : some fs = o1 := by rw [← ho, hfs]; rfl
     have LL := hid (Sx.Gb (st := ⟨src, false⟩) rfl hfs)
     have RO := DV b o1 _ (rQ TC.out 1)
     rw [← ho2] at RO
     have hwb : (wd == [82, 117, 108, 101]) = true := by rw [w1]; rfl
     have BC' := BC
     clear ho hw ho2 w1 hfs HO1 HWD
     go_wp2_with fail
     go_region_law (first | (refine BZ rfl (.tmp 11) 209 rfl _ (by simp [Act.eval, Act.put]) RO ?_; rintro w2 ⟨G2, t2⟩; have B2 : Below wr.heap.size wr w2 := BC'.out.trans ⟨G2.os, G2.tape, G2.output, G2.size, fun k hk => G2.block k (by have := BC'.out.size; simp; omega) (by simp; have := HB.out; omega)⟩; have PN := hid (jo P0.out B2); have T2 := hid (qP t2); obtain ⟨n0, nf0⟩ := aa PN.out.box 0 rfl; have sN := PN.out.box.1; have hrb : ∀ k, Value.ownBlock (.slice ra src.rules.length rcap) = some k → k ≠ b := (fun k hk => by have := (gp P0.out.own.rules k hk).2; have := HB.out; omega); clear G2 t2 B2) | (refine iy rfl (.tmp 75) (.tmp 77) 22 rfl (X + 1) 40 i1 (.agg #[.string ⟨#[]⟩, .int .i64 0, .int .i64 0, .int .i64 0, .int .i64 0, .int .i64 0, .int .i64 0, .int .i64 0, .int .i64 0, .int .i64 0, .string ⟨#[]⟩]) 11 104 Tryz.underlying22 hi1 hz01 hz11 hz21 rfl (by decide) _ _ _ (by simp [Act.eval, Act.put]) (World.ownsRow.alloc PN.out.own.rules _) _ 1 1 (ah (Sx.tF (some fs))) (by simp [Act.eval, Act.put]) rfl (DW _ _) (dL _) (by unfold maxLen; omega) (by omega) (by have := PN.out.hB; rw [World.size_alloc]; omega) ?_; intro v' w6 hown' hgrow; have g6 : World.grownBy (w2.alloc (.cells (ah (Sx.tF (some fs))).toArray 40)) w6 (Value.ownBlock (.slice ra src.rules.length rcap)) := ⟨hgrow.os, hgrow.tape, hgrow.output, hgrow.size, hgrow.block⟩; obtain ⟨g6', cap6, hv6⟩ := bu hown'; subst hv6; have CB := zH PN.out g6 (fun k hk => (gp PN.out.own.rules k hk).1); obtain ⟨y0, yf0⟩ := aa CB 0 rfl; have sY := CB.1; have PZ := hid (Kk PN.out g6 hown'); have TZ := hid (uq (q := X) (j := 0) (v' := .slice (some ⟨g6', 0, none⟩) (src.rules.length + 1) cap6) T2.out g6 hrb (by omega)); clear hown' hgrow g6 CB))
     all_goals
      go_wp2_with fail
      go_meet
      exact ⟨⟨⟨src.rules ++ [Sx.tF (some fs)], src.zones, src.links⟩, false⟩, _, _, _, _, rfl, PZ, TZ, LL⟩
    by_cases w2 : wd = Sx.qY
    ·obtain ⟨fs, hfs⟩ : ∃ fs, ln.fields = Sx.qY :: fs := by
      cases hf : ln.fields with
      | nil => rw [hf] at hw; exact absurd (hw.trans w2) (by simp [Sx.nxS, Sx.qY])
      | cons a t => rw [hf] at hw; exact ⟨t, by rw [show a = wd from hw, w2]⟩
     have ho2 : some fs = o1 := by rw [← ho, hfs]; rfl
     have HFS := hid hfs
     have hwb : (wd == [82, 117, 108, 101]) = false := by rw [w2]; rfl
     have hwb2 : (wd == [90, 111, 110, 101]) = true := by rw [w2]; rfl
     rw [← ho2] at TC
     clear ho hw ho2 w1 w2 hfs HO1 HWD
     go_wp2_with fail
     refine (qD b _ _ TC.out).mono ?_
     rintro e w4 ⟨rfl, G4, t4⟩
     have B4 : Hid (Below wr.heap.size wr w4) := BC.out.trans ⟨G4.os, G4.tape, G4.output, G4.size, fun k hk => G4.block k (by have := BC.out.size; omega) (by simp; have := HB.out; omega)⟩
     have T4 := hid t4
     have hbl := (nL t4).2
     clear G4 t4 TC x0 xf0 x1 xf1 x2 xf2 sX PC
     obtain ⟨nm, hnm⟩ : ∃ n, Sx.nxS (some fs) = n := ⟨_, rfl⟩
     rw [hnm]
     have HNM := hid hnm
     clear hnm
     have K0 := hid (aD w4 [ag nm, bS] 44)
     have BK : Hid (Below wr.heap.size wr (w4.alloc (.cells #[ag nm, bS] 44))) := B4.out.alloc B4.out.size _
     have TK := hid (bH T4.out (.cells #[ag nm, bS] 44))
     obtain ⟨K, hK⟩ : ∃ K, w4.heap.size = K := ⟨_, rfl⟩
     have hKb : ¬ K = b := by omega
     have hbK : b ≤ K := by omega
     rw [hK] at K0
     go_wp2_with fail
     refine (xN b _ _ TK.out).mono ?_
     rintro e w5 ⟨x, oF, rfl, G5, t5, he⟩
     have K5 := hid (aL K0.out G5 hKb)
     have B5 : Hid (Below wr.heap.size wr w5) := BK.out.trans ⟨G5.os, G5.tape, G5.output, G5.size, fun k hk => G5.block k (by have := BK.out.size; omega) (by simp; have := HB.out; omega)⟩
     have T5 := hid (qP t5)
     have HE := hid he
     clear K0 BK TK G5 t5 he B4 T4 hbl
     have K6 := hid (aM K5.out (.cells (ax x).toArray 67))
     have B6 := hid (B5.out.alloc B5.out.size (.cells (ax x).toArray 67))
     have T6 := hid (rP T5.out (.cells (ax x).toArray 67))
     have Y6 := hid (aD w5 (ax x) 67)
     obtain ⟨Y, hY⟩ : ∃ Y, w5.heap.size = Y := ⟨_, rfl⟩
     have hKY : K < Y := by have := K5.out.1; omega
     rw [hY] at Y6
     obtain ⟨V6, hV6⟩ : ∃ V, w5.alloc (.cells (ax x).toArray 67) = V := ⟨_, rfl⟩
     go_upto_region 25 with fail
     rw [show w5.alloc (.cells #[.int .i64 x.shift, ag x.rules, .int .i64 x.save, ag x.format, .bool x.opn, .int .i64 x.uy, .int .i64 x.um, .int .i64 x.ud, .int .i64 x.uat, .int .i64 x.uclock] 67) = V6 from hV6]
     rw [hV6] at K6 B6 T6 Y6
     clear hV6 K5 B5 T5
     obtain ⟨k1, kf1⟩ := aa K6.out 1 rfl
     have sK := K6.out.1
     have sY := Y6.out.1
     obtain ⟨⟨e0, ef0⟩, ⟨e1, ef1⟩, ⟨e2, ef2⟩, ⟨e3, ef3⟩, ⟨e4, ef4⟩, ⟨e5, ef5⟩, ⟨e6, ef6⟩, ⟨e7, ef7⟩, ⟨e8, ef8⟩, ⟨e9, ef9⟩, -⟩ := cp10 Y6.out
     have NIL : Hid ((V6.alloc (.cells (ax x).toArray 67)).ownsRow b 67 10 bS 0 []) := World.ownsRow_nil _ _ _ _
     go_wp2_with (at_builtin; go_must (refine wpList_append_own_at _ rfl _ _ 42 rfl b 67 i2 (.agg #[.int .i64 0, .string ⟨#[]⟩, .int .i64 0, .string ⟨#[]⟩, .bool false, .int .i64 0, .int .i64 0, .int .i64 0, .int .i64 0, .int .i64 0]) 10 96 Tryz.underlying42 hi2 hz02 hz12 hz22 rfl (by decide) _ _ _ rfl NIL.out _ 1 1 (ax x) rfl rfl (xP _ _) (yU _) (by unfold maxLen; omega) (by omega) (by rw [World.size_alloc]; omega) ?_))
     intro ev w7 hev hgrow _ hat
     obtain ⟨ge, ecap, hv⟩ := bu hev
     subst hv
     have hge : ge = V6.heap.size + 1 := by
      rcases hat with q | q
      ·simp [Value.ownBlock] at q
      ·simp [Value.ownBlock] at q; exact q
     have K7 := hid (ca_grownO (aM K6.out _) hgrow (fun k hk => by simp [Value.ownBlock] at hk))
     have Y7 := hid (ca_grownO (aM Y6.out _) hgrow (fun k hk => by simp [Value.ownBlock] at hk))
     have T7 := hid (G9 (rP T6.out _) hgrow (fun k hk => by simp [Value.ownBlock] at hk))
     have B7 := hid ((B6.out.alloc B6.out.size (.cells (ax x).toArray 67)).grown hgrow (by have := B6.out.size; simp; omega) (fun k hk => by simp [Value.ownBlock] at hk))
     have hKg : ¬ K = ge := by omega
     have hev1 : w7.ownsRow b 67 10 (.slice (some ⟨ge, 0, none⟩) 1 ecap) 1 (ax x) := by simpa using hev
     have E8 := hid (ownsRow_setCell_other (a := ⟨K, 1, none⟩) hev1 (by simp [Value.ownBlock]; omega) (.slice (some ⟨ge, 0, none⟩) 1 ecap))
     have K8 := hid (cK K7.out 1 (.slice (some ⟨ge, 0, none⟩) 1 ecap) (by simp))
     have Y8 := hid (bR (o := 1) (u := .slice (some ⟨ge, 0, none⟩) 1 ecap) Y7.out (show ¬ Y = K by omega))
     have T8 := hid (EZ (j := 1) (u := .slice (some ⟨ge, 0, none⟩) 1 ecap) T7.out hKb)
     have B8 := hid (aO (o := 1) B7.out (show wr.heap.size ≤ K by have := HB.out; omega) (.slice (some ⟨ge, 0, none⟩) 1 ecap))
     obtain ⟨k1', kf1'⟩ := aa K7.out 1 rfl
     have sK7 := K7.out.1
     clear hge hev hev1 hgrow hat K6 B6 T6 Y6 NIL e0 ef0 e1 ef1 e2 ef2 e3 ef3 e4 ef4 e5 ef5 e6 ef6 e7 ef7 e8 ef8 e9 ef9 k1 kf1 sK sY
     obtain ⟨V8, hV8⟩ : ∃ V, w7.setCell ⟨K, 1, none⟩ (.slice (some ⟨ge, 0, none⟩) 1 ecap) = V := ⟨_, rfl⟩
     go_upto_region 26 with fail
     rw [hV8] at E8 K8 Y8 T8 B8
     clear hV8 K7 Y7 T7 B7 k1' kf1' sK7
     have P8 := hid (jo P0.out B8.out)
     obtain ⟨ps, hz0⟩ := P0.out.own.zones
     have hpl : ps.length ≤ 200 := by rw [hz0.len]; omega
     have Z0 := hid hz0
     have Z8 := hid (fD hz0 B8.out)
     clear hz0
     obtain ⟨x1, xf1⟩ := aa P8.out.box 1 rfl
     obtain ⟨⟨k0, kf0⟩, ⟨k1, kf1⟩, -⟩ := cp2 K8.out
     have sX := P8.out.box.1
     have sK := K8.out.1
     have hzb : ∀ k, Value.ownBlock (.slice za src.zones.length zcap) = some k → k < b := fun k hk => by have := (gp Z0.out.row k hk).2; have := HB.out; omega
     go_wp2_with (at_builtin; go_must (refine wpList_append_own_at _ rfl _ _ 23 rfl (X + 1) 44 i3 (.agg #[.string ⟨#[]⟩, .slice none 0 0]) 2 40 Tryz.underlying23 hi3 hz03 hz13 hz23 rfl (by decide) _ _ _ rfl (World.ownsRow.alloc Z8.out.row _) _ 1 1 [ag nm, .slice (some ⟨ge, 0, none⟩) 1 ecap] rfl rfl (wN _ _ _) (by intro u hu; simp at hu; rcases hu with rfl | rfl <;> rfl) (by unfold maxLen; omega) (by omega) (by have := P8.out.hB; rw [World.size_alloc]; omega) ?_))
     intro v' w9 hown' hgrow _ _
     obtain ⟨g9, cap9, hv9⟩ := bu hown'
     subst hv9
     have CB := zH P8.out hgrow (fun k hk => (gp P8.out.own.zones.choose_spec.row k hk).1)
     obtain ⟨y1, yf1⟩ := aa CB 1 rfl
     have sY := CB.1
     have PZ := hid (Kl (nm := nm) (x := x) P8.out Z0.out B8.out (by have := P0.out.hB; omega) (by have := E8.out; rw [← HB.out] at this; exact this) hgrow hown')
     have TZ := hid (uq (q := X) (j := 1) (v' := .slice (some ⟨g9, 0, none⟩) (ps.length + 1) cap9) T8.out hgrow (fun k hk => by have := hzb k hk; omega) (by omega))
     have Y9 := ca_grownO (aM Y8.out _) hgrow (fun k hk => by have := hzb k hk; omega)
     obtain ⟨e4, ef4⟩ := aa Y9 4 rfl
     have sY9 := Y9.1
     have hXY : ¬ Y = X := by omega
     have LL := hid (Sx.Gc (st := ⟨src, false⟩) rfl HFS.out HE.out)
     rw [HNM.out] at LL
     clear hown' hgrow CB Y9
     go_wp2_with fail
     go_meet
     exact ⟨⟨⟨src.rules, src.zones ++ [⟨nm, [x]⟩], src.links⟩, !x.opn⟩, _, _, _, _, rfl, PZ, TZ, LL⟩
    by_cases w3 : wd = Sx.qz
    ·obtain ⟨fs, hfs⟩ : ∃ fs, ln.fields = Sx.qz :: fs := by
      cases hf : ln.fields with
      | nil => rw [hf] at hw; exact absurd (hw.trans w3) (by simp [Sx.nxS, Sx.qz])
      | cons a t => rw [hf] at hw; exact ⟨t, by rw [show a = wd from hw, w3]⟩
     have ho2 : some fs = o1 := by rw [← ho, hfs]; rfl
     have LL := hid (Sx.F9 (st := ⟨src, false⟩) rfl hfs)
     have hwb : (wd == [82, 117, 108, 101]) = false := by rw [w3]; rfl
     have hwb2 : (wd == [90, 111, 110, 101]) = false := by rw [w3]; rfl
     have hwb3 : (wd == [76, 105, 110, 107]) = true := by rw [w3]; rfl
     rw [← ho2] at TC
     clear ho hw ho2 w1 w2 w3 hfs HO1 HWD
     have K0 := hid (aD wc [.string ⟨#[]⟩, .string ⟨#[]⟩] 35)
     have BK : Hid (Below wr.heap.size wr (wc.alloc (.cells #[.string ⟨#[]⟩, .string ⟨#[]⟩] 35))) := BC.out.alloc BC.out.size _
     have TK := hid (bH TC.out (.cells #[.string ⟨#[]⟩, .string ⟨#[]⟩] 35))
     obtain ⟨K, hK⟩ : ∃ K, wc.heap.size = K := ⟨_, rfl⟩
     have hKb : ¬ K = b := by have := wE TC.out; omega
     have hbK : wr.heap.size ≤ K := by rw [← hK]; exact BC.out.size
     rw [hK] at K0
     have tkl := (nL TK.out).2
     go_wp2_with fail
     refine (qD b _ _ TK.out).mono ?_
     rintro e w4 ⟨rfl, G4, t4⟩
     have K4 := hid (aL K0.out G4 hKb)
     have B4 : Hid (Below wr.heap.size wr w4) := BK.out.trans ⟨G4.os, G4.tape, G4.output, G4.size, fun k hk => G4.block k (by have := BK.out.size; omega) (by simp; have := HB.out; omega)⟩
     have T4 := hid t4
     have tkb := (nL t4).1
     have hKlim : b + 1 ≤ K := by have := (nL TC.out).2; omega
     clear K0 BK TK G4 t4 TC x0 xf0 x1 xf1 x2 xf2 sX PC
     obtain ⟨k0, kf0⟩ := aa K4.out 0 rfl
     have sK := K4.out.1
     go_wp2_with fail
     obtain ⟨nm1, hnm1⟩ : ∃ n, Sx.nxS (some fs) = n := ⟨_, rfl⟩
     rw [hnm1]
     have K5 := hid (cK K4.out 0 (ag nm1) (by simp))
     have B5 := hid (aO (o := 0) B4.out hbK (ag nm1))
     have T5 := hid (eP T4.out (p := ⟨K, 0, none⟩) hKlim (ag nm1))
     obtain ⟨V5, hV5⟩ : ∃ V, w4.setCell ⟨K, 0, none⟩ (ag nm1) = V := ⟨_, rfl⟩
     rw [hV5] at K5 B5 T5
     rw [show w4.setCell ⟨K, 0, none⟩ (ag nm1) = V5 from hV5]
     clear hV5 K4 B4 T4 k0 kf0 sK
     refine (qD b _ _ T5.out).mono ?_
     rintro e w6 ⟨rfl, G6, t6⟩
     have K6 := hid (aL K5.out G6 hKb)
     have B6 : Hid (Below wr.heap.size wr w6) := B5.out.trans ⟨G6.os, G6.tape, G6.output, G6.size, fun k hk => G6.block k (by have := B5.out.size; omega) (by simp; have := HB.out; omega)⟩
     have T6 := hid (qP t6)
     clear K5 B5 T5 G6 t6
     obtain ⟨nm2, hnm2⟩ : ∃ n, Sx.nxS (Sx.keep (Sx.bF (Sx.nxS (some fs))) (Sx.nxO (some fs))) = n := ⟨_, rfl⟩
     rw [hnm2]
     have P6 := hid (jo P0.out B6.out)
     obtain ⟨k1, kf1⟩ := aa K6.out 1 rfl
     obtain ⟨k0, kf0⟩ := aa K6.out 0 rfl
     obtain ⟨x2, xf2⟩ := aa P6.out.box 2 rfl
     have sK := K6.out.1
     have sX := P6.out.box.1
     have hXK : ¬ X = K := by omega
     have hKX : ¬ K = X := by omega
     have B7 := hid (aO (o := 1) B6.out hbK (ag nm2))
     have P7 := hid (jo P0.out B7.out)
     have T7 := hid (EZ (j := 1) (u := ag nm2) T6.out hKb)
     obtain ⟨V7, hV7⟩ : ∃ V, w6.setCell ⟨K, 1, none⟩ (ag nm2) = V := ⟨_, rfl⟩
     have K7 := hid (cK K6.out 1 (ag nm2) (by simp))
     rw [hV7] at B7 P7 T7 K7
     obtain ⟨⟨q0, qf0⟩, ⟨q1, qf1⟩, -⟩ := cp2 K7.out
     obtain ⟨q2, qf2⟩ := aa P7.out.box 2 rfl
     have sQ := P7.out.box.1
     have sQ2 := K7.out.1
     have hlb : ∀ k, Value.ownBlock (.slice la src.links.length lcap) = some k → k ≠ b := fun k hk => by have := (gp P0.out.own.links k hk).2; have := HB.out; omega
     go_wp2_with (at_builtin; go_must (refine wpList_append_own_at _ rfl _ _ 24 rfl (X + 1) 35 i4 (.agg #[.string ⟨#[]⟩, .string ⟨#[]⟩]) 2 32 Tryz.underlying24 hi4 hz04 hz14 hz24 rfl (by decide) _ _ _ rfl (World.ownsRow.alloc P7.out.own.links _) _ 1 1 [ag nm1, ag nm2] rfl rfl (wN _ _ _) (by intro u hu; simp at hu; rcases hu with rfl | rfl <;> rfl) (by unfold maxLen; omega) (by omega) (by have := P7.out.hB; rw [World.size_alloc]; omega) ?_))
     intro v' w8 hown' hgrow _ _
     obtain ⟨g8, cap8, hv8⟩ := bu hown'
     subst hv8
     have CB := zH P7.out hgrow (fun k hk => (gp P7.out.own.links k hk).1)
     obtain ⟨y2, yf2⟩ := aa CB 2 rfl
     have sY := CB.1
     have PZ := hid (Kj (x := ⟨nm1, nm2⟩) P7.out hgrow hown')
     have TZ := hid (uq (q := X) (j := 2) (v' := .slice (some ⟨g8, 0, none⟩) (src.links.length + 1) cap8) T7.out hgrow hlb (by omega))
     clear hown' hgrow CB
     have LL3 : Hid (Sx.iJ ⟨src, false⟩ ln = if Sx.ended (Sx.lk2 fs) ln.inner false = true then some ⟨⟨src.rules, src.zones, src.links ++ [⟨nm1, nm2⟩]⟩, false⟩ else none) := by show _ = _; rw [← hnm2, ← hnm1]; exact LL.out
     have LL4 := LL3.out
     unfold Sx.lk2 Sx.lk1 at LL4
     have LL5 := hid LL4
     clear LL hnm1 hnm2 hV7 hK LL4 LL3
     go_wp2_with fail
     go_meet
     exact ⟨⟨⟨src.rules, src.zones, src.links ++ [⟨nm1, nm2⟩]⟩, false⟩, _, _, _, _, rfl, PZ, TZ, LL5⟩
    ·have LL : Hid (Sx.iJ ⟨src, false⟩ ln = none) := Sx.Dm rfl (by rw [hw]; exact w1) (by rw [hw]; exact w2) (by rw [hw]; exact w3)
     have hwb : (wd == [82, 117, 108, 101]) = false := beq_eq_false_iff_ne.2 w1
     have hwb2 : (wd == [90, 111, 110, 101]) = false := beq_eq_false_iff_ne.2 w2
     have hwb3 : (wd == [76, 105, 110, 107]) = false := beq_eq_false_iff_ne.2 w3
     have PZ : Hid (PS W (wc.setCell ⟨b, 1, none⟩ (.bool true)) X (X + 1) (.slice ra src.rules.length rcap) (.slice za src.zones.length zcap) (.slice la src.links.length lcap) src) := jo P0.out (aO BC.out (by have := HB.out; omega) _)
     have TZ := hid (qP (fo TC.out))
     obtain ⟨q0, qb, c0', c1', z0', z1', lt'⟩ := eB TC.out
     clear ho hw w1 w2 w3 HO1 HWD PC
     go_wp2_with fail
     go_meet
     exact ⟨⟨src, false⟩, _, _, _, _, rfl, PZ, TZ, by show _ = _; rw [LL.out]; rfl⟩
  case rest =>
  obtain ⟨st', r', z', l', oF, rfl, PF, TF, LL⟩ := hcut
  have RF := hid (ai RX.out PF.out.bel)
  obtain ⟨ta, tn, tcap, bad, t0, t1, e1, e2⟩ := TF.out.out
  have tb := TF.out.lt
  have d0 := (pI (ko OL.out PF.out.bel) HLN.out)
  obtain ⟨g', fa', fcap', e, hg', d0, d1, d2, _⟩ := d0
  simp at e
  subst e
  obtain ⟨⟨r0, rf0⟩, ⟨r1, rf1⟩, ⟨r2, rf2⟩, hRw⟩ := cp3 RF.out
  have hXg := hgX.out
  have BF := hid (BW.out.trans (PF.out.bel.mono BW.out.size))
  cases bad
  case true =>
   have oN := e2 rfl
   have LE : Hid (LO = .error ln.number) := by show _ = _; rw [LX.out, LL.out, oN]; rfl
   have EP : Hid (P = ⟨Sx.gm, ln.number, 1⟩) := F2.out _ LE.out
   clear e1 e2 oN
   go_wp2_with fail
   go_region
   all_goals
    go_wp2
    refine bodyPost_ret (v := .tuple #[.agg #[bS, bS, bS], .int .i64 ln.number, .int .i64 1]) (by simp [results, Tryz.results87, go_sem, *]) rfl (PE.out _ _ ⟨bS, bS, bS, by rw [EP.out], by rw [EP.out]; exact gF _ _⟩ ?_)
    exact aO (aO (aO (below_drewN BF.out 1) (Nat.le_refl _) _) (Nat.le_refl _) _) (Nat.le_refl _) _
  obtain ⟨fs, hoF, hfs⟩ := e1 rfl
  clear e1 e2
  by_cases hn : 0 < tn
  ·have LE : Hid (LO = .error ln.number) := by
    show _ = _
    have : fs ≠ [] := by rintro rfl; simp at hfs; omega
    rw [LX.out, LL.out, hoF]; simp [Sx.ended, this]
   have EP : Hid (P = ⟨Sx.gm, ln.number, 1⟩) := F2.out _ LE.out
   clear hoF hfs
   go_wp2_with fail
   go_region
   all_goals
    go_wp2
    refine bodyPost_ret (v := .tuple #[.agg #[bS, bS, bS], .int .i64 ln.number, .int .i64 1]) (by simp [results, Tryz.results87, go_sem, *]) rfl (PE.out _ _ ⟨bS, bS, bS, by rw [EP.out], by rw [EP.out]; exact gF _ _⟩ ?_)
    exact aO (aO (aO (below_drewN BF.out 1) (Nat.le_refl _) _) (Nat.le_refl _) _) (Nat.le_refl _) _
  have hfn : fs = [] := List.length_eq_zero_iff.1 (by omega)
  subst hfn
  have LL2 : Hid (Sx.iJ ⟨src, must⟩ ln = if (ln.inner == must) = true then some st' else none) := by
   show _ = _
   rw [LL.out, hoF]
   simp [Sx.ended]
  clear hoF hfs LL
  obtain ⟨I, hI⟩ : ∃ I, ln.inner = I := ⟨_, rfl⟩
  rw [hI] at d1 LL2
  have HI := hid hI
  clear hI
  cases I <;> cases must
  ·have LS : Hid (Sx.iJ ⟨src, false⟩ ln = some st') := by show _ = _; rw [LL2.out]; rfl
   have LE : Hid (LO = Sx.gT st' (ls.drop (i + 1))) := by show _ = _; rw [LX.out, LS.out]
   have OK2 : Hid (Sx.Fp st' (i + 1)) := Sx.yB LS.out F24.out OK.out
   go_wp2
   go_roundw
   case rel => exact ⟨i + 1, st', r', z', l', by omega, rfl, by go_num, PF, LE, OK2⟩
   case measure => simp [intOf]; omega
  ·have LE : Hid (LO = .error ln.number) := by show _ = _; rw [LX.out, LL2.out]; rfl
   have EP : Hid (P = ⟨Sx.gm, ln.number, 1⟩) := F2.out _ LE.out
   go_wp2_with fail
   go_region
   all_goals
    go_wp2
    refine bodyPost_ret (v := .tuple #[.agg #[bS, bS, bS], .int .i64 ln.number, .int .i64 1]) (by simp [results, Tryz.results87, go_sem, *]) rfl (PE.out _ _ ⟨bS, bS, bS, by rw [EP.out], by rw [EP.out]; exact gF _ _⟩ ?_)
    exact aO (aO (aO (below_drewN BF.out 1) (Nat.le_refl _) _) (Nat.le_refl _) _) (Nat.le_refl _) _
  ·have LE : Hid (LO = .error ln.number) := by show _ = _; rw [LX.out, LL2.out]; rfl
   have EP : Hid (P = ⟨Sx.gm, ln.number, 1⟩) := F2.out _ LE.out
   go_wp2_with fail
   go_region
   all_goals
    go_wp2
    refine bodyPost_ret (v := .tuple #[.agg #[bS, bS, bS], .int .i64 ln.number, .int .i64 1]) (by simp [results, Tryz.results87, go_sem, *]) rfl (PE.out _ _ ⟨bS, bS, bS, by rw [EP.out], by rw [EP.out]; exact gF _ _⟩ ?_)
    exact aO (aO (aO (below_drewN BF.out 1) (Nat.le_refl _) _) (Nat.le_refl _) _) (Nat.le_refl _) _
  ·have LS : Hid (Sx.iJ ⟨src, true⟩ ln = some st') := by show _ = _; rw [LL2.out]; rfl
   have LE : Hid (LO = Sx.gT st' (ls.drop (i + 1))) := by show _ = _; rw [LX.out, LS.out]
   have OK2 : Hid (Sx.Fp st' (i + 1)) := Sx.yB LS.out F24.out OK.out
   go_wp2
   go_roundw
   case rel => exact ⟨i + 1, st', r', z', l', by omega, rfl, by go_num, PF, LE, OK2⟩
   case measure => simp [intOf]; omega
end
end Go.Proofs.YtkhlkohlccndgaaGreat
