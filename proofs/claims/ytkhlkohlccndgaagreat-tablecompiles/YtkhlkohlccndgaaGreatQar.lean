/- Part of the proof: Hf Hd TbS PrC TbC TbT LcP PrD ShE PrE. -/
import Derived.Test.YtkhlkohlccndgaaGreatQz
import Derived.Test.YtkhlkohlccndgaaGreatQaq
import Derived.Test.YtkhlkohlccndgaaGreatQal
import Derived.Test.YtkhlkohlccndgaaGreatQap
import Derived.Deep.RegionHeld3
import Derived.Deep.Cut
import Derived.Deep.CutRange
import Derived.Shelf.Sort.Plain
import Derived.Shelf.Slices.In.SortNone
import Derived.Shelf.SlSorted.Search
import Derived.Test.YtkhlkohlccndgaaGreatProg
import Derived.RegionTactic
set_option linter.unusedVariables false
set_option linter.unusedSimpArgs false
set_option maxRecDepth 100000
set_option maxHeartbeats 16000000
namespace Go.Proofs.YtkhlkohlccndgaaGreat
section
open Go.RowKit Go.Shelf
attribute [local go_sem] Oper.semAt_some
attribute [local go_sem ↓] Go.wp_at_zero Go.wp_at_succ

/- what TableOf answers: by a list of all times, in order -/
def Iw (rs : List Sx.Rl) (z : Sx.Zn) (w : World) (e : Ending) (w' : World) : Prop :=
 ∃ (l : List Int) (ca : Option Addr) (cc : Nat) (T : Tb.Tbl) (E : Int), (∀ x, x ∈ l ↔ x ∈ ww rs z.eras) ∧ l.Pairwise (· ≤ ·) ∧ E = mkE ⟨aI rs z (-62135596800), Tb.dD (aI rs z) (aI rs z (-62135596800)) l⟩ ∧
  T = (if E = 0 then ⟨aI rs z (-62135596800), Tb.dD (aI rs z) (aI rs z (-62135596800)) l⟩ else ⟨lc0, []⟩) ∧ e = .returned (.tuple #[tbV T.first (.slice ca T.ch.length cc), .int .i64 E]) ∧ ma w' w.heap.size (.slice ca T.ch.length cc) T.ch ∧ Below w.heap.size w w'
theorem Sw {rs : List Sx.Rl} {nm : Tx.Bs} {es : List Sx.Er} {w w' : World} {l : List Int} {out : List Tb.Cg} {G0 : Tb.Lc} {b : Int} {T : Tb.Tbl} {ca : Option Addr} {cc : Nat} (hp : l.Perm (ww rs es)) (hs : Pi.SortI l) (hG : aI rs ⟨nm, es⟩ (-62135596800) = G0) (ho : out = Tb.dD (aI rs ⟨nm, es⟩) G0 l)
  (hb : b = if jM G0 out = 0 then (if 1000 < out.length then 2 else 0) else jM G0 out) (hT : T = if b = 0 then ⟨G0, out⟩ else ⟨lc0, []⟩) (hr : ma w' w.heap.size (.slice ca T.ch.length cc) T.ch) (hbel : Below w.heap.size w w') :
  Iw rs ⟨nm, es⟩ w (.returned (.tuple #[tbV T.first (.slice ca T.ch.length cc), .int .i64 b])) w' := by
 refine ⟨l, ca, cc, T, b, fun x => hp.mem_iff, hs, ?_, ?_, rfl, hr, hbel⟩
 ·rw [hG, ← ho, RJ]; exact hb
 ·rw [hG, ← ho]; exact hT
theorem Ep {w5 : World} {M5 TT WB M6 : Nat} {F W : Tb.Lc} {cv : Value} {out : List Tb.Cg} {wr : World} (H : uY w5 M5 TT WB M6 F W cv out wr) {q : Nat} (hq : q < M5) : cv.ownBlock ≠ some q := fun h => by
 have := (H.own.lt q h).1
 have := H.ord
 omega
theorem PR {w : World} {NB TT gb k n : Nat} {u a b c d : Value} (h : w.cell? ⟨NB, 0, none⟩ = some a ∧ w.cell? ⟨NB, 1, none⟩ = some b ∧ w.cell? ⟨NB, 2, none⟩ = some c ∧ w.cell? ⟨gb, k, none⟩ = some d) (h1 : ¬ NB = TT) (h2 : ¬ gb = TT) :
  (w.setCell ⟨TT, n, none⟩ u).cell? ⟨NB, 0, none⟩ = some a ∧ (w.setCell ⟨TT, n, none⟩ u).cell? ⟨NB, 1, none⟩ = some b ∧ (w.setCell ⟨TT, n, none⟩ u).cell? ⟨NB, 2, none⟩ = some c ∧ (w.setCell ⟨TT, n, none⟩ u).cell? ⟨gb, k, none⟩ = some d :=
 ⟨(World.cell?_of_block (Below.heap_setCell _ _ _ _ h1)).trans h.1, (World.cell?_of_block (Below.heap_setCell _ _ _ _ h1)).trans h.2.1, (World.cell?_of_block (Below.heap_setCell _ _ _ _ h1)).trans h.2.2.1, (World.cell?_of_block (Below.heap_setCell _ _ _ _ h2)).trans h.2.2.2⟩
theorem grownBy_refl (w : World) (b : Option Nat) : w.grownBy w b := ⟨rfl, rfl, rfl, Nat.le_refl _, fun _ _ _ => rfl⟩
theorem Ho (rs : List Sx.Rl) (nm : Tx.Bs) (es : List Sx.Er) (ra a : Option Addr) (rcap c : Nat) (zv lv : Value) (w : World) (h1 : bN w (.slice ra rs.length rcap) rs) (hs : ∀ r ∈ rs, r.name.length ≤ maxLen ∧ r.letter.length ≤ maxLen) (h2 : fA w (.slice a es.length c) es) (ok : Ou rs es) (hok : ∀ e ∈ es, e.opn = true ∨ lC e) (hte : ∀ x ∈ es, x.rules ≠ [] → Sx.aY rs x.rules x.shift = 0) :
  Calls Tryz.prog 35 #[.agg #[.slice ra rs.length rcap, zv, lv], .agg #[af nm, .slice a es.length c]] w (Iw rs ⟨nm, es⟩ w) := by
 obtain ⟨i0, hi, hz0, hz1, hz2⟩ := info_parts Tryz.Dx
 obtain ⟨L, hL⟩ : ∃ L, aT es = L := ⟨_, rfl⟩
 have HL := hid hL
 have OK := hid ok
 have hfew := ok.few
 obtain ⟨N, hN⟩ : ∃ N, w.heap.size = N := ⟨_, rfl⟩
 obtain ⟨V0, g0, X0, hb0, sz0⟩ := aR w #[.slice ra rs.length rcap, zv, lv] 26
 obtain ⟨V1, g1, Y0, hb1, sz1⟩ := aR V0 #[af nm, .slice a es.length c] 44
 obtain ⟨V, g2, R0, hb2, sz2⟩ := aR V1 #[.int .i64 0, .int .i64 0, .string ⟨#[]⟩, .slice none 0 0] 76
 have e0 : V0.heap.size = N + 1 := by omega
 have e1 : V1.heap.size = N + 1 + 1 := by omega
 rw [hN] at X0
 rw [e0] at Y0
 rw [e1] at R0
 have X : Hid (ag V N [.slice ra rs.length rcap, zv, lv]) := ah (ah X0 hb1) hb2
 have Z : Hid (ag V (N + 1) [af nm, .slice a es.length c]) := ah Y0 hb2
 have R : Hid (ag V (N + 1 + 1) [.int .i64 0, .int .i64 0, .string ⟨#[]⟩, .slice none 0 0]) := R0
 have bb := hb0.trans ((hb1.trans (hb2.mono (by omega))).mono (by omega))
 have B : Hid (Below N w V) := hN ▸ bb
 have RE := hid (au h2 bb)
 have HC := hid (Ki rs nm es ra a rcap c zv lv V (au h1 bb) hs (au h2 bb) ok.opn ok.few hok hte)
 have gV : ((w.alloc (.cells #[.slice ra rs.length rcap, zv, lv] 26)).alloc (.cells #[af nm, .slice a es.length c] 44)).alloc (.cells #[.int .i64 0, .int .i64 0, .string ⟨#[]⟩, .slice none 0 0] 76) = V := by rw [g0, g1]; exact g2
 have sV : N + 1 + 1 + 1 ≤ V.heap.size := by omega
 have HQ0 : Hid (es.length ≤ 1000) := hfew
 clear h1 hs h2 ok hok hte X0 Y0 R0 hb0 hb1 hb2 sz0 sz1 sz2 g0 g1 g2 e0 e1 hL bb
 obtain ⟨⟨x0, _⟩, ⟨x1, _⟩, ⟨x2, _⟩, sx⟩ := cp3 X.out
 obtain ⟨⟨z0, _⟩, ⟨z1, _⟩, sz⟩ := cp2 Z.out
 go_enter Tryz.func35, Tryz.ntmps35
 try simp only [hN]
 go_wp2_with fail
 refine HC.out.mono ?_
 rintro e w0 ⟨va, vc, ta, tc, ps, rfl, TI, hb⟩
 clear HC gV x0 x1 x2 sx z0 z1 sz
 rw [HL.out]
 have B0 := hid (aL B.out (by omega) hb)
 have R2 := hid (ah R.out hb)
 have RE2 := hid (au RE.out hb)
 have TI2 := hid TI
 have s0 : N + 1 + 1 + 1 ≤ w0.heap.size := Nat.le_trans sV hb.size
 clear X Z R B TI hb sV RE
 obtain ⟨w1, g1, L0, hb, sz⟩ := aR w0 #[af nm, .slice a es.length c, .slice va L.length vc, .slice ta ps.length tc] 58
 obtain ⟨TB, hTB⟩ : ∃ b, w0.heap.size = b := ⟨_, rfl⟩
 have TC : Hid (ag w1 TB [af nm, .slice a es.length c, .slice va L.length vc, .slice ta ps.length tc]) := hTB ▸ L0
 have B1 := hid (aL B0.out (by omega) hb)
 have R1 := hid (ah R2.out hb)
 have RE1 := hid (au RE2.out hb)
 have H1 := hid (iI TI2.out hb)
 have s1 : N + 1 + 1 + 1 ≤ TB := by omega
 have s2 : TB < w1.heap.size := by omega
 have hpn : ps.length = es.length := by have := congrArg List.length H1.out.map; simpa using this
 have hps : ps.length ≤ 1000 := by omega
 have HPN := hid hpn
 have RL : Hid (jT w1 (.slice va L.length vc) L) := by show jT _ _ _; rw [← HL.out]; exact H1.out.ends
 have hLn : L.length ≤ 1000 := by have := pI OK.out.opn; rw [HL.out] at this; omega
 obtain ⟨M, hM⟩ : ∃ M, w1.heap.size = M := ⟨_, rfl⟩
 clear B0 R2 RE2 TI2 L0 hb sz s0 hpn
 obtain ⟨t2, _⟩ := aa TC.out 2 rfl
 obtain ⟨t3, _⟩ := aa TC.out 3 rfl
 have st := TC.out.1
 go_upto_block 0 with fail
 clear g1 t2 t3 st hTB
 go_cut [7, 8] from 20 to 48 (fun av kv wc => ∃ out : List Int, Hid (out = ps.flatMap fun p => p.l.map Sx.Tm.at_) ∧ Hid (out.length ≤ 1000 * 1000) ∧ Hid (bK wc M av out) ∧ Hid (Below M w1 wc))
 case first =>
  go_wp2_with fail
  go_loopw [7, 8] (fun av kv wr => ∃ (k : Nat) (out : List Int), k ≤ ps.length ∧ kv = .int .i64 k ∧ Hid (out.length ≤ 1000 * k) ∧ Hid (out = (ps.take k).flatMap fun p => p.l.map Sx.Tm.at_) ∧ Hid (bK wr M av out) ∧ Hid (Below M w1 wr)) (fun _ kv _ => ps.length - (intOf kv).toNat)
  case atStart => exact ⟨0, [], Nat.zero_le _, rfl, by show _ ≤ _; simp, rfl, World.ownsRow_nil _ _ _ _, q4B _ _⟩
  case round =>
   obtain ⟨k, out, hk, rfl, hol, HO, OW, BR⟩ := hrel
   obtain ⟨oa, oc, rfl⟩ := aF OW.out
   have TC' := hid (ah TC.out (hM ▸ BR.out))
   obtain ⟨t3, _⟩ := aa TC'.out 3 rfl
   have st := TC'.out.1
   by_cases hlt : k < ps.length
   case neg =>
    have e : ps.take k = ps := List.take_of_length_le (by omega)
    have q : ¬ (k : Int) < (ps.length : Int) := by omega
    have HO2 : Hid (out = ps.flatMap fun p => p.l.map Sx.Tm.at_) := by have := HO.out; rw [e] at this; exact this
    have hol2 : Hid (out.length ≤ 1000 * 1000) := by show _ ≤ _; have := hol.out; omega
    clear hlt e HO hol
    go_wp2
    go_meet
    exact ⟨out, HO2, hol2, OW, BR⟩
   obtain ⟨p, hp⟩ : ∃ p, ps[k]? = some p := ⟨_, q4G hlt⟩
   have hpl : p.l.length ≤ 1000 := by
    have h1 : (ps.map TV.l)[k]? = some p.l := by rw [List.getElem?_map, hp]; rfl
    rw [H1.out.map, List.getElem?_map] at h1
    obtain ⟨x, hx, e⟩ := Option.map_eq_some_iff.1 h1
    rw [← e]; exact OK.out.tl x (List.mem_of_getElem? hx)
   have HP := hid hp
   have hdr : ps.take (k + 1) = ps.take k ++ [p] := by rw [List.take_add_one, hp]; rfl
   have HO0 : Hid (out = ((ps.take k).flatMap fun p => p.l.map Sx.Tm.at_) ++ (p.l.take 0).map Sx.Tm.at_) := by show _ = _; rw [List.take_zero, List.map_nil, List.append_nil]; exact HO.out
   have hol0 : Hid (out.length ≤ 1000 * k + 0) := hol.out
   have HD : Hid (((ps.take k).flatMap fun p => p.l.map Sx.Tm.at_) ++ p.l.map Sx.Tm.at_ = (ps.take (k + 1)).flatMap fun p => p.l.map Sx.Tm.at_) := by show _ = _; rw [hdr, List.flatMap_append]; simp
   have q : (k : Int) < (ps.length : Int) := by omega
   have HKQ := hid hlt
   clear hp hdr HO hol
   go_wp2_with fail
   clear t3 st TC'
   go_loopw [7, 9] (fun av iv wr => ∃ (i : Nat) (out : List Int), i ≤ p.l.length ∧ iv = .int .i64 i ∧ Hid (out.length ≤ 1000 * k + i) ∧ Hid (out = ((ps.take k).flatMap fun p => p.l.map Sx.Tm.at_) ++ (p.l.take i).map Sx.Tm.at_) ∧ Hid (bK wr M av out) ∧ Hid (Below M w1 wr)) (fun _ iv _ => p.l.length - (intOf iv).toNat)
   case atStart => exact ⟨0, out, Nat.zero_le _, rfl, hol0, HO0, OW, BR⟩
   case round =>
    clear HO0 hol0 OW BR
    obtain ⟨i, out, hi2, rfl, hol, HO, OW, BR⟩ := hrel
    obtain ⟨oa, oc, rfl⟩ := aF OW.out
    have TC' := hid (ah TC.out (hM ▸ BR.out))
    obtain ⟨t3, _⟩ := aa TC'.out 3 rfl
    have st := TC'.out.1
    obtain ⟨tb, to_, e1, htb, hc⟩ := aN (au H1.out.row (hM ▸ BR.out)) HP.out
    rw [e1] at t3
    have y0 : wr.cell? ⟨tb, to_ + k, none⟩ = some (.slice p.a p.l.length p.c) := by have := hc 0 _ rfl; simpa using this
    clear hc
    by_cases hlt2 : i < p.l.length
    case neg =>
     have e : p.l.take i = p.l := List.take_of_length_le (by omega)
     have HO2 : Hid (out = (ps.take (k + 1)).flatMap fun p => p.l.map Sx.Tm.at_) := by show _ = _; rw [← HD.out]; have := HO.out; rw [e] at this; exact this
     have hol2 : Hid (out.length ≤ 1000 * (k + 1)) := by show _ ≤ _; have := hol.out; omega
     have q2 : ¬ (i : Int) < (p.l.length : Int) := by omega
     clear hlt2 e HO hol e1
     go_wp2
     go_roundw
     case rel => exact ⟨k + 1, out, by have := HKQ.out; omega, by go_num, hol2, HO2, OW, BR⟩
     case measure => simp [intOf]; have := HKQ.out; omega
    obtain ⟨t, ht⟩ : ∃ t, p.l[i]? = some t := ⟨_, q4G hlt2⟩
    obtain ⟨qb, qo, e2, hqb, hcm⟩ := aN (au (H1.out.els p (List.mem_of_getElem? HP.out)) (hM ▸ BR.out)) ht
    rw [e2] at y0
    have m0 : wr.cell? ⟨qb, qo + i * 3, none⟩ = some (.int .i64 t.at_) := by have := hcm 0 _ rfl; simpa using this
    have HO2 : Hid (out ++ [t.at_] = ((ps.take k).flatMap fun p => p.l.map Sx.Tm.at_) ++ (p.l.take (i + 1)).map Sx.Tm.at_) := by
     show _ = _
     rw [List.take_add_one, ht, List.map_append, ← List.append_assoc, ← HO.out]; rfl
    have q2 : (i : Int) < (p.l.length : Int) := by omega
    have OW1 := OW.out
    have zM : M ≤ wr.heap.size := hM ▸ BR.out.size
    clear hcm ht e1 e2 HO
    go_wp2_with (at_builtin; refine wpList_append_own _ rfl _ _ 47 rfl M 3 i0 (.int .i64 0) 1 8 Tryz.underlying47 hi hz0 hz1 hz2 rfl (by decide) _ _ _ rfl (World.ownsRow.alloc OW1 _) _ 1 1 [.int .i64 t.at_] rfl rfl (one_cell _ _) (by intro u hu; simp at hu; subst hu; rfl) (by have := hol.out; unfold maxLen; omega) (by have := hol.out; omega) (by simp; omega) ?_)
    intro v' w4 hown' hgrow _
    have B4 : Hid (Below M w1 w4) := Below.grown (BR.out.alloc (by omega) _) hgrow (by simp; omega) (fun k hk => by have := (OW1.lt k hk).1; omega)
    have O4 : Hid (bK w4 M v' (out ++ [t.at_])) := by show World.ownsRow _ _ _ _ _ _ _; simpa using hown'
    have hol4 : Hid ((out ++ [t.at_]).length ≤ 1000 * k + (i + 1)) := by show _ ≤ _; have := hol.out; rw [List.length_append]; simp; omega
    clear hown' hgrow OW1 OW BR t3 st y0 m0 hqb htb TC' hol
    go_wp2
    go_roundw
    case rel => exact ⟨i + 1, out ++ [t.at_], by omega, by go_num, hol4, HO2, O4, B4⟩
    case measure => simp [intOf]; omega
 case rest =>
 obtain ⟨out, HO, hol, OW, BR⟩ := hcut
 obtain ⟨oa, oc, rfl⟩ := aF OW.out
 obtain ⟨w2, hw2⟩ : ∃ y, wc = y := ⟨_, rfl⟩
 rw [hw2] at OW BR ⊢
 clear hw2
 have TC2 := hid (ah TC.out (hM ▸ BR.out))
 obtain ⟨t1, _⟩ := aa TC2.out 2 rfl
 have st := TC2.out.1
 have RL2 := au RL.out (hM ▸ BR.out)
 have c2 := Ea RL2
 have z2 := GD RL2
 have f2 : (L.map (Value.int .i64)).length = L.length * 1 := by simp
 have o2 := RB L
 have zM : M ≤ w2.heap.size := hM ▸ BR.out.size
 have OW1 : w2.ownsRow M 3 1 (.slice oa out.length oc) out.length (out.map (Value.int .i64)) := OW.out
 go_wp2_with (at_builtin; refine jJ rfl (.tmp 49) (.tmp 51) 47 rfl M 3 i0 (.int .i64 0) 1 8 Tryz.underlying47 hi hz0 hz1 hz2 rfl (by decide) (.slice oa out.length oc) out.length (out.map (Value.int .i64)) rfl OW1 va L.length vc (L.map (Value.int .i64)) rfl f2 c2 z2 o2 (by have := hol.out; unfold maxLen; omega) (by have := hol.out; omega) (by omega) ?_)
 intro v3 w3 hown' hgrow
 obtain ⟨na, nc, rfl⟩ := aF hown'
 obtain ⟨A0, hA0⟩ : ∃ A, out ++ L = A := ⟨_, rfl⟩
 have en : out.length + L.length = A0.length := by rw [← hA0, List.length_append]
 have O3 : Hid (bK w3 M (.slice na A0.length nc) A0) := by show World.ownsRow _ _ _ _ _ _ _; rw [← en, ← hA0]; simpa using hown'
 have B3 : Hid (Below M w1 w3) := Below.grown BR.out hgrow (by omega) (fun k hk => by have := (OW1.lt k hk).1; omega)
 have HAT : Hid (A0 = ww rs es) := by
  show _ = _
  rw [← hA0, HO.out, ← HL.out]
  unfold ww
  congr 1
  have := H1.out.map
  have e : (ps.map TV.l).flatMap (fun l => l.map Sx.Tm.at_) = (es.map (gF rs)).flatMap (fun l => l.map Sx.Tm.at_) := by rw [this]
  rw [List.flatMap_map, List.flatMap_map] at e
  exact e
 have hn9 : A0.length ≤ 2000000 := by have := hol.out; omega
 rw [en]
 clear hown' hgrow OW1 OW BR TC2 t1 st RL2 c2 z2 f2 o2 zM hA0 en HO hol RL
 go_upto_block 4 with fail
 go_cut [10, 11] from 53 to 91 (fun s10 s11 wc => ∃ l : List Int, l.length = A0.length ∧ Hid (l.Perm A0) ∧ Hid (Pi.SortI l) ∧ Hid (bK wc M (.slice na A0.length nc) l) ∧ Hid (Below M w1 wc))
 case first =>
  by_cases hA0 : A0 = []
  case pos =>
   have q : ¬ (1 : Int) < (A0.length : Int) := by rw [hA0]; simp
   have P4 : Hid (A0.Perm A0) := List.Perm.refl _
   have S4 : Hid (Pi.SortI A0) := by show Pi.SortI A0; rw [hA0]; exact List.Pairwise.nil
   clear hA0
   go_wp2_with fail
   go_loopw [10] (fun iv wr => iv = .int .i64 1 ∧ wr = w3) (fun _ _ => 0)
   case atStart => exact ⟨rfl, rfl⟩
   case round =>
    obtain ⟨rfl, hwr⟩ := hrel
    rw [hwr]
    go_wp2
    go_meet
    exact ⟨A0, rfl, P4, S4, O3, B3⟩
  case neg =>
   obtain ⟨a0, A1, hA⟩ := List.exists_cons_of_ne_nil hA0
   obtain ⟨g, rfl⟩ : ∃ g, na = some ⟨g, 0, none⟩ := by
    have h := O3.out
    rcases h.2 with ⟨q, _⟩ | ⟨g', cap', cur, hv, _⟩
    ·simp at q; exact absurd q.2.1 hA0
    ·simp at hv; exact ⟨g', hv.1⟩
   have gM : M ≤ g := (O3.out.lt g rfl).1
   have hn1 : 1 ≤ A0.length := by rw [hA]; simp
   have O4 : Hid (bK w3 M (.slice (some ⟨g, 0, none⟩) A0.length nc) ([a0] ++ A1)) := by show bK _ _ _ _; have := O3.out; rw [hA] at this ⊢; exact this
   have P4 : Hid (([a0] ++ A1).Perm A0) := by show List.Perm _ _; rw [hA]; exact List.Perm.refl _
   have e4 : ([a0] : List Int).length + A1.length = A0.length := by rw [hA]; simp; omega
   clear hA hA0 O3
   go_wp2_with fail
   go_loopw [10] (fun iv wr => ∃ (P S : List Int), iv = .int .i64 (P.length : Int) ∧ Hid (P.length + S.length = A0.length) ∧ Hid ((P ++ S).Perm A0) ∧ Hid (Pi.SortI P) ∧ Hid (bK wr M (.slice (some ⟨g, 0, none⟩) A0.length nc) (P ++ S)) ∧ Hid (Below M w1 wr)) (fun iv _ => A0.length - (intOf iv).toNat)
   case atStart => exact ⟨[a0], A1, rfl, e4, P4, List.pairwise_singleton _ _, O4, B3⟩
   case round =>
    clear e4 P4 O4 B3
    obtain ⟨P, S, rfl, hPS, PP, SP, OW, BR⟩ := hrel
    cases S with
    | nil =>
      have e : P.length = A0.length := by have := hPS.out; simpa using this
      have PP2 : Hid (P.Perm A0) := by have := PP.out; rw [List.append_nil] at this; exact this
      have OW2 : Hid (bK wr M (.slice (some ⟨g, 0, none⟩) A0.length nc) P) := by have := OW.out; rw [List.append_nil] at this; exact this
      have q : ¬ (P.length : Int) < (A0.length : Int) := by omega
      have e2 : Hid (P.length = A0.length) := e
      clear e PP OW hPS
      go_wp2
      go_meet
      exact ⟨P, e2.out, PP2, SP, OW2, BR⟩
    | cons t S =>
      have hlen : P.length + (S.length + 1) = A0.length := by have := hPS.out; simpa using this
      have q : (P.length : Int) < (A0.length : Int) := by omega
      have OQ0 : Hid (bK wr M (.slice (some ⟨g, 0, none⟩) A0.length nc) (Pi.jE P P.length t ++ S)) := by show bK _ _ _ _; rw [Pi.Qu, List.append_assoc]; exact OW.out
      have PT := hid PP.out
      have hP9 : P.length ≤ 2000000 := by omega
      clear PP OW hPS
      go_wp2_with fail
      go_loopw [11] (fun kv wr => ∃ j : Nat, j ≤ P.length ∧ kv = .int .i64 (j : Int) ∧ Hid (bK wr M (.slice (some ⟨g, 0, none⟩) A0.length nc) (Pi.jE P j t ++ S)) ∧ Hid (∀ (i : Nat) (x : Int), j ≤ i → P[i]? = some x → t < x) ∧ Hid (Below M w1 wr)) (fun kv _ => (intOf kv).toNat)
      case atStart => exact ⟨P.length, Nat.le_refl _, rfl, OQ0, fun i x h1 h2 => absurd (q4L.1 h2).1 (by omega), BR⟩
      case round =>
       clear OQ0 BR
       obtain ⟨j, hj, rfl, OQ, HL3, BQ⟩ := hrel
       have FIN : Hid ((∀ x, 0 < j → P[j - 1]? = some x → x ≤ t) → ∃ P' : List Int, P'.length = P.length + 1 ∧ Hid (P'.length + S.length = A0.length) ∧ Hid ((P' ++ S).Perm A0) ∧ Hid (Pi.SortI P') ∧ Hid (bK wr M (.slice (some ⟨g, 0, none⟩) A0.length nc) (P' ++ S))) := fun h2 => by
        refine ⟨Pi.jE P j t, Pi.pV _ _ _, by show _ = _; rw [Pi.pV]; omega, Pi.NN PT.out, Pi.Gw SP.out HL3.out h2 hj, OQ⟩
       cases j with
       | zero =>
         obtain ⟨P', p0, p1, p2, p3, p4⟩ := FIN.out (fun x h => absurd h (by omega))
         clear FIN
         go_wp2_with fail
         go_quiet (fail)
         go_wp2
         go_roundw
         case rel => exact ⟨P', S, by go_num, p1, p2, p3, World.ownsRow.drew p4.out, below_drewN BQ.out _⟩
         case measure => simp [intOf]; omega
       | succ j =>
         have hcast : ((j + 1 : Nat) : Int) = (j : Int) + 1 := rfl
         rw [hcast]
         obtain ⟨x, hx⟩ : ∃ x, P[j]? = some x := ⟨_, q4G (by omega)⟩
         have hx2 : (Pi.jE P (j + 1) t ++ S)[j]? = some x := by rw [Pi.uF _ (by omega), Pi.zO _ (by omega)]; exact hx
         have ht2 : (Pi.jE P (j + 1) t ++ S)[j + 1]? = some t := by rw [Pi.uF _ hj]; exact Pi.Ll _ hj
         obtain ⟨y0, f0, gl⟩ := mX OQ.out hx2
         obtain ⟨y1, f1, _⟩ := mX OQ.out ht2
         have e1 : IntKind.i64.wrap ((j : Int) + 1 - 1) = (j : Int) := by rw [Int.add_sub_cancel]; exact IntWalk.i64_in _ (by omega)
         have e2 : wrap64 ((j : Int) + 1 - 1) = (j : Int) := by unfold wrap64; omega
         have e3 : IntKind.i64.wrap (j : Int) = (j : Int) := IntWalk.i64_in _ (by omega)
         have b0 : (0 : Int) < (j : Int) + 1 := by omega
         have b1 : (j : Int) < (A0.length : Int) := by omega
         have b2 : (j : Int) + 1 < (A0.length : Int) := by omega
         have b3 : (0 : Int) ≤ (j : Int) + 1 := by omega
         have HX := hid hx
         by_cases hgt : t < x
         case neg =>
          obtain ⟨P', p0, p1, p2, p3, p4⟩ := FIN.out (fun u _ hu => by simp at hu; rw [HX.out] at hu; simp at hu; subst hu; omega)
          have hd : decide (t < x) = false := by simp; omega
          clear FIN hx hx2 ht2
          go_wp2_with fail
          go_quiet (fail)
          go_wp2
          go_roundw
          case rel => exact ⟨P', S, by rw [p0]; go_num, p1, p2, p3, World.ownsRow.drew p4.out, below_drewN BQ.out _⟩
          case measure => simp [intOf]; omega
         have hd : decide (t < x) = true := by simp; omega
         have HL4 : Hid (∀ (i : Nat) (u : Int), j ≤ i → P[i]? = some u → t < u) := fun i u hi hu => by
          rcases Nat.eq_or_lt_of_le hi with z | z
          ·subst z; rw [HX.out] at hu; simp at hu; subst hu; exact hgt
          ·exact HL3.out i u z hu
         have KY := hid (show wr.cell? ⟨g, j, none⟩ = some (.int .i64 x) ∧ wr.cell? ⟨g, j + 1, none⟩ = some (.int .i64 t) from ⟨y0, y1⟩)
         clear FIN hx hx2 ht2 f0 f1
         go_upto_region 15 with fail
         refine wp_region_held_drew (S := fun w' => w'.cell? ⟨g, j, none⟩ = some (.int .i64 x) ∧ w'.cell? ⟨g, j + 1, none⟩ = some (.int .i64 t)) (by kernel_rfl) KY.out (fun hHeld => ?_)
         refine wpAnyH_take (i := 0) (v := ?vz1z) rfl (by kernel_rfl) (by kernel_rfl) (by kernel_rfl) (fun _ _ _ h => h) (Or.inl ⟨by rfl, ?hyz1z⟩) (by assumption) ?_
         case hyz1z => (intro w hSw; (obtain ⟨y0, y1⟩ := hSw); go_simp; try with_reducible rfl)
         try simp only [Act.put, List.setIfInBounds_toArray, List.set_cons_zero, List.set_cons_succ, List.getElem_toArray, List.getElem_cons_zero, List.getElem_cons_succ]
         refine wpAnyH_take (i := 1) (v := ?vz2z) rfl (by kernel_rfl) (by kernel_rfl) (by kernel_rfl) (fun _ _ _ h => h) (Or.inl ⟨by rfl, ?hyz2z⟩) (by assumption) ?_
         case hyz2z => (intro w hSw; (obtain ⟨y0, y1⟩ := hSw); go_simp; try with_reducible rfl)
         try simp only [Act.put, List.setIfInBounds_toArray, List.set_cons_zero, List.set_cons_succ, List.getElem_toArray, List.getElem_cons_zero, List.getElem_cons_succ]
         refine wpAnyH_take (i := 2) (v := ?vz3z) rfl (by kernel_rfl) (by kernel_rfl) (by kernel_rfl) (fun _ _ _ h => h) (Or.inl ⟨by rfl, ?hyz3z⟩) (by assumption) ?_
         case hyz3z => (intro w hSw; (obtain ⟨y0, y1⟩ := hSw); go_simp; try with_reducible rfl)
         try simp only [Act.put, List.setIfInBounds_toArray, List.set_cons_zero, List.set_cons_succ, List.getElem_toArray, List.getElem_cons_zero, List.getElem_cons_succ]
         refine wpAnyH_take (i := 3) (v := ?vz4z) rfl (by kernel_rfl) (by kernel_rfl) (by kernel_rfl) (fun _ _ _ h => h) (Or.inl ⟨by rfl, ?hyz4z⟩) (by assumption) ?_
         case hyz4z => (intro w hSw; (obtain ⟨y0, y1⟩ := hSw); go_simp; try with_reducible rfl)
         try simp only [Act.put, List.setIfInBounds_toArray, List.set_cons_zero, List.set_cons_succ, List.getElem_toArray, List.getElem_cons_zero, List.getElem_cons_succ]
         refine wpAnyH_take (i := 4) (v := ?vz5z) rfl (by kernel_rfl) (by kernel_rfl) (by kernel_rfl) (fun _ _ _ h => h) (Or.inl ⟨by rfl, ?hyz5z⟩) (by assumption) ?_
         case hyz5z => (intro w hSw; (obtain ⟨y0, y1⟩ := hSw); go_simp; try with_reducible rfl)
         try simp only [Act.put, List.setIfInBounds_toArray, List.set_cons_zero, List.set_cons_succ, List.getElem_toArray, List.getElem_cons_zero, List.getElem_cons_succ]
         refine wpAnyH_take (i := 5) (v := ?vz6z) rfl (by kernel_rfl) (by kernel_rfl) (by kernel_rfl) (fun _ _ _ h => h) (Or.inl ⟨by rfl, ?hyz6z⟩) (by assumption) ?_
         case hyz6z => (intro w hSw; (obtain ⟨y0, y1⟩ := hSw); go_simp; try with_reducible rfl)
         try simp only [Act.put, List.setIfInBounds_toArray, List.set_cons_zero, List.set_cons_succ, List.getElem_toArray, List.getElem_cons_zero, List.getElem_cons_succ]
         refine wpAnyH_take (i := 6) (v := ?vz7z) rfl (by kernel_rfl) (by kernel_rfl) (by kernel_rfl) (fun _ _ _ h => h) (Or.inl ⟨by rfl, ?hyz7z⟩) (by assumption) ?_
         case hyz7z => (intro w hSw; (obtain ⟨y0, y1⟩ := hSw); go_simp; try with_reducible rfl)
         try simp only [Act.put, List.setIfInBounds_toArray, List.set_cons_zero, List.set_cons_succ, List.getElem_toArray, List.getElem_cons_zero, List.getElem_cons_succ]
         refine wpAnyH_take (i := 7) (v := ?vz8z) rfl (by kernel_rfl) (by kernel_rfl) (by kernel_rfl) (fun _ _ _ h => h) (Or.inl ⟨by rfl, ?hyz8z⟩) (by assumption) ?_
         case hyz8z => (intro w hSw; (obtain ⟨y0, y1⟩ := hSw); go_simp; try with_reducible rfl)
         try simp only [Act.put, List.setIfInBounds_toArray, List.set_cons_zero, List.set_cons_succ, List.getElem_toArray, List.getElem_cons_zero, List.getElem_cons_succ]
         refine wpAnyH_take (i := 8) (v := ?vz9z) rfl (by kernel_rfl) (by kernel_rfl) (by kernel_rfl) (fun _ _ _ h => h) (Or.inl ⟨by rfl, ?hyz9z⟩) (by assumption) ?_
         case hyz9z => (intro w hSw; (obtain ⟨y0, y1⟩ := hSw); go_simp; try with_reducible rfl)
         try simp only [Act.put, List.setIfInBounds_toArray, List.set_cons_zero, List.set_cons_succ, List.getElem_toArray, List.getElem_cons_zero, List.getElem_cons_succ]
         refine wpAnyH_take (i := 9) (v := ?vz10z) rfl (by kernel_rfl) (by kernel_rfl) (by kernel_rfl) (fun _ _ _ h => h) (Or.inl ⟨by rfl, ?hyz10z⟩) (by assumption) ?_
         case hyz10z => (intro w hSw; (obtain ⟨y0, y1⟩ := hSw); go_simp; try with_reducible rfl)
         try simp only [Act.put, List.setIfInBounds_toArray, List.set_cons_zero, List.set_cons_succ, List.getElem_toArray, List.getElem_cons_zero, List.getElem_cons_succ]
         refine wpAnyH_take (i := 10) (v := ?vz11z) rfl (by kernel_rfl) (by kernel_rfl) (by kernel_rfl) (fun _ _ _ h => h) (Or.inl ⟨by rfl, ?hyz11z⟩) (by assumption) ?_
         case hyz11z => (intro w hSw; (obtain ⟨y0, y1⟩ := hSw); go_simp; try with_reducible rfl)
         try simp only [Act.put, List.setIfInBounds_toArray, List.set_cons_zero, List.set_cons_succ, List.getElem_toArray, List.getElem_cons_zero, List.getElem_cons_succ]
         refine wpAnyH_take (i := 11) (v := ?vz12z) rfl (by kernel_rfl) (by kernel_rfl) (by kernel_rfl) (fun _ _ _ h => h) (Or.inl ⟨by rfl, ?hyz12z⟩) (by assumption) ?_
         case hyz12z => (intro w hSw; (obtain ⟨y0, y1⟩ := hSw); go_simp; try with_reducible rfl)
         try simp only [Act.put, List.setIfInBounds_toArray, List.set_cons_zero, List.set_cons_succ, List.getElem_toArray, List.getElem_cons_zero, List.getElem_cons_succ]
         refine wpAnyH_take (i := 12) (v := ?vz13z) rfl (by kernel_rfl) (by kernel_rfl) (by kernel_rfl) (fun _ _ _ h => h) (Or.inl ⟨by rfl, ?hyz13z⟩) (by assumption) ?_
         case hyz13z => (intro w hSw; (obtain ⟨y0, y1⟩ := hSw); go_simp; try with_reducible rfl)
         try simp only [Act.put, List.setIfInBounds_toArray, List.set_cons_zero, List.set_cons_succ, List.getElem_toArray, List.getElem_cons_zero, List.getElem_cons_succ]
         refine wpAnyH_take (i := 13) (v := ?vz14z) rfl (by kernel_rfl) (by kernel_rfl) (by kernel_rfl) (fun _ _ _ h => h) (Or.inl ⟨by rfl, ?hyz14z⟩) (by assumption) ?_
         case hyz14z => (intro w hSw; (obtain ⟨y0, y1⟩ := hSw); go_simp; try with_reducible rfl)
         try simp only [Act.put, List.setIfInBounds_toArray, List.set_cons_zero, List.set_cons_succ, List.getElem_toArray, List.getElem_cons_zero, List.getElem_cons_succ]
         refine wpAnyH_done (by kernel_rfl) ?_ _
         obtain ⟨W1, hW1⟩ : ∃ y, wr.drew = y := ⟨_, rfl⟩
         have OQ1 : Hid (bK W1 M (.slice (some ⟨g, 0, none⟩) A0.length nc) (Pi.jE P (j + 1) t ++ S)) := hW1 ▸ (World.ownsRow.drew OQ.out)
         have BQ1 : Hid (Below M w1 W1) := hW1 ▸ below_drewN BQ.out 1
         rw [hW1]
         clear hW1 OQ BQ KY y0 y1 gl hHeld
         have hx2 : (Pi.jE P (j + 1) t ++ S)[j]? = some x := by rw [Pi.uF _ (by omega), Pi.zO _ (by omega)]; exact HX.out
         have ht2 : (Pi.jE P (j + 1) t ++ S)[j + 1]? = some t := by rw [Pi.uF _ hj]; exact Pi.Ll _ hj
         have FX : Hid (∀ W2, (W1.setCell ⟨g, j + 1, none⟩ (.int .i64 x)).drew = W2 → (W2.cell? ⟨g, j, none⟩ = some (.int .i64 x) ∧ W2.frozen? ⟨g, j, none⟩ = false ∧ g < W2.heap.size) ∧ bK (W2.setCell ⟨g, j, none⟩ (.int .i64 t)) M (.slice (some ⟨g, 0, none⟩) A0.length nc) (Pi.jE P j t ++ S) ∧ Below M w1 (W2.setCell ⟨g, j, none⟩ (.int .i64 t))) := by
          rintro W2 rfl
          have o1 : bK (W1.setCell ⟨g, j + 1, none⟩ (.int .i64 x)).drew M _ _ := World.ownsRow.drew (Fg OQ1.out (j + 1) x)
          have o2 := Fg o1 j t
          rw [Pi.JO HX.out] at o2
          refine ⟨mX o1 (j := j) ?_, o2, ax (below_drewN (ax BQ1.out gM (j + 1) (.int .i64 x)) 1) gM _ _⟩
          rw [List.getElem?_set_ne (by omega)]; exact hx2
         obtain ⟨y0, f0, gl⟩ := mX OQ1.out hx2
         obtain ⟨y1, f1, _⟩ := mX OQ1.out ht2
         clear hx2 ht2 OQ1 BQ1
         go_upto_region 17 with fail
         refine wp_region_held_drew (S := fun _ => True) (by kernel_rfl) trivial (fun hHeld => ?_)
         refine tkA 0 rfl ?_
         refine tkA 1 rfl ?_
         refine tkA 2 rfl ?_
         refine tkA 3 rfl ?_
         refine tkA 4 rfl ?_
         refine tkA 5 rfl ?_
         refine tkA 6 rfl ?_
         refine tkA 7 rfl ?_
         refine tkA 8 rfl ?_
         refine tkA 10 rfl ?_
         refine tkA 11 rfl ?_
         refine tkA 12 rfl ?_
         refine wpAnyH_ready (rs := [9, 13]) (by kernel_rfl) (by simp) ?_
         refine AllReadyH.cons rfl (fun K hK => ?_) ?_
         ·go_simp
          refine hK.out _ _ trivial (fun hHeld2 => ?_)
          clear hK K
          try simp only [Act.put, j]
          refine rdH 13 rfl fun K hK => ?_
          go_simp
          refine hK.out _ _ trivial (fun hHeld2 => ?_)
          clear hK K
          try simp only [Act.put, j]
          refine tkA 14 rfl ?_
          refine rdH 15 rfl fun K hK => ?_
          go_simp
          refine hK.out _ _ trivial (fun hHeld2 => ?_)
          clear hK K
          try simp only [Act.put, j]
          obtain ⟨W2, hW2⟩ : ∃ y, (W1.setCell ⟨g, j + 1, none⟩ (.int .i64 x)).drew = y := ⟨_, rfl⟩
          obtain ⟨⟨y2, f2, gl2⟩, F2, F3⟩ := FX.out W2 hW2
          replace F2 := hid F2
          replace F3 := hid F3
          rw [hW2]
          clear hW2 y0 f0 y1 f1 gl
          refine tkA 16 rfl ?_
          refine rdH 17 rfl fun K hK => ?_
          go_simp
          refine hK.out _ _ trivial (fun hHeld2 => ?_)
          clear hK K
          try simp only [Act.put, j]
          refine wpAnyH_done (by kernel_rfl) ?_ _
          go_wp2_with fail
          go_roundw
          case rel => exact ⟨j, by omega, by go_num, F2, HL4, F3⟩
          case measure => simp [intOf]
         refine AllReadyH.cons rfl (fun K hK => ?_) AllReadyH.nil
         go_simp
         refine hK.out _ _ trivial (fun hHeld2 => ?_)
         clear hK K
         try simp only [Act.put, j]
         refine rdH 9 rfl fun K hK => ?_
         go_simp
         refine hK.out _ _ trivial (fun hHeld2 => ?_)
         clear hK K
         try simp only [Act.put, j]
         refine tkA 14 rfl ?_
         refine rdH 15 rfl fun K hK => ?_
         go_simp
         refine hK.out _ _ trivial (fun hHeld2 => ?_)
         clear hK K
         try simp only [Act.put, j]
         obtain ⟨W2, hW2⟩ : ∃ y, (W1.setCell ⟨g, j + 1, none⟩ (.int .i64 x)).drew = y := ⟨_, rfl⟩
         obtain ⟨⟨y2, f2, gl2⟩, F2, F3⟩ := FX.out W2 hW2
         replace F2 := hid F2
         replace F3 := hid F3
         rw [hW2]
         clear hW2 y0 f0 y1 f1 gl
         refine tkA 16 rfl ?_
         refine rdH 17 rfl fun K hK => ?_
         go_simp
         refine hK.out _ _ trivial (fun hHeld2 => ?_)
         clear hK K
         try simp only [Act.put, j]
         refine wpAnyH_done (by kernel_rfl) ?_ _
         go_wp2_with fail
         go_roundw
         case rel => exact ⟨j, by omega, by go_num, F2, HL4, F3⟩
         case measure => simp [intOf]
 case rest =>
 obtain ⟨l, hln, PL, SL, OW, BR⟩ := hcut
 obtain ⟨w5, hw5⟩ : ∃ y, wc = y := ⟨_, rfl⟩
 rw [hw5] at OW BR ⊢
 clear hw5
 have RA : Hid (jT w5 (.slice na A0.length nc) l) := jY OW.out
 have TC5 := hid (ah TC.out (hM ▸ BR.out))
 have H5 := hid (iI H1.out (hM ▸ BR.out))
 have RE5 := hid (au RE1.out (hM ▸ BR.out))
 have R5 := hid (ah R1.out (hM ▸ BR.out))
 have B5 := hid (aL B1.out (by omega) (hM ▸ BR.out))
 have hs5 : TB < w5.heap.size := q4N s2 (hM ▸ BR.out).size
 have PERM : Hid (l.Perm (ww rs es)) := by show List.Perm _ _; rw [← HAT.out]; exact PL.out
 obtain ⟨G0, hG⟩ : ∃ G, aI rs ⟨nm, es⟩ (-62135596800) = G := ⟨_, rfl⟩
 have HG := hid hG
 have g0k := P5 (z := ⟨nm, es⟩) OK.out (-62135596800)
 rw [hG] at g0k
 obtain ⟨gk1, gk2, gk3⟩ := g0k
 have HLN := hid hln
 have CV : Hid (∀ (q : Int) W, Below w5.heap.size w5 W → Calls Tryz.prog 26 #[.agg #[af nm, .slice a es.length c, .slice va L.length vc, .slice ta ps.length tc], .int .i64 q] W fun e w' => e = .returned (.agg #[.int .i64 (aI rs ⟨nm, es⟩ q).shift, .int .i64 (aI rs ⟨nm, es⟩ q).save, af (aI rs ⟨nm, es⟩ q).name]) ∧ Below W.heap.size W w') := fun q W hW => by
  have := Ku rs nm es a va ta c vc tc ps q W (iI H5.out hW) (au RE5.out hW) OK.out
  rw [HL.out] at this
  exact this
 have CA1 : Hid (∀ W, Below w5.heap.size w5 W → Calls Tryz.prog 23 #[] W fun e w' => e = .returned (.int .i64 (-62135596800)) ∧ Below W.heap.size W w') := fun W _ => qE W
 have CA2 : Hid (∀ W, Below w5.heap.size w5 W → Calls Tryz.prog 26 #[.agg #[af nm, .slice a es.length c, .slice va L.length vc, .slice ta ps.length tc], .int .i64 (-62135596800)] W fun e w' => e = .returned (.agg #[.int .i64 G0.shift, .int .i64 G0.save, af G0.name]) ∧ Below W.heap.size W w') := fun W hW => by
  have := CV.out (-62135596800) W hW
  rw [hG] at this
  exact this
 obtain ⟨⟨t0, _⟩, ⟨t1, _⟩, ⟨t2, _⟩, ⟨t3, _⟩, -⟩ := cp4 TC5.out
 have KT : Hid (∀ wz, Below w5.heap.size w5 wz → (wz.cell? ⟨TB, 0, none⟩ = some (af nm) ∧ wz.cell? ⟨TB, 1, none⟩ = some (.slice a es.length c) ∧ wz.cell? ⟨TB, 2, none⟩ = some (.slice va L.length vc) ∧ wz.cell? ⟨TB, 3, none⟩ = some (.slice ta ps.length tc))) := fun wz hb => ⟨(hb.cell (p := ⟨TB, 0, none⟩) hs5).trans t0, (hb.cell (p := ⟨TB, 1, none⟩) hs5).trans t1, (hb.cell (p := ⟨TB, 2, none⟩) hs5).trans t2, (hb.cell (p := ⟨TB, 3, none⟩) hs5).trans t3⟩
 have SS := hid (KT.out w5 (q4B _ _))
 clear t0 t1 t2 t3 hG OW BR TC HAT PL hln RE1 R1 B1 H1 TC5 H5 RE5
 go_upto_region 18 with fail
 go_cut [12] from 92 to 95 (fun s12 wc => ∃ T, s12 = .pointer (some ⟨T, 0, none⟩) ∧ w5.heap.size ≤ T ∧ ag wc T [.int .i64 G0.shift, .int .i64 G0.save, af G0.name, .slice none 0 0] ∧ Below w5.heap.size w5 wc)
 case first =>
  refine wp_region_held_drew (S := fun w' => w'.cell? ⟨TB, 0, none⟩ = some (af nm) ∧ w'.cell? ⟨TB, 1, none⟩ = some (.slice a es.length c) ∧ w'.cell? ⟨TB, 2, none⟩ = some (.slice va L.length vc) ∧ w'.cell? ⟨TB, 3, none⟩ = some (.slice ta ps.length tc)) (by kernel_rfl) SS.out (fun hHeld => ?_)
  refine tkA 0 rfl ?_
  have BD : Below w5.heap.size w5 w5.drew := ⟨rfl, rfl, rfl, Nat.le_refl _, fun _ _ => rfl⟩
  refine wpAnyH_ready (rs := [1, 4]) (by kernel_rfl) (by simp) ?_
  refine AllReadyH.cons rfl (fun K hK => ?_) ?_
  ·go_simp
   refine (CA1.out _ BD).mono ?_
   rintro e w7k0 ⟨rfl, hb7⟩
   have hb0 := BD.trans (hb7.mono (BD).size)
   have S70 := KT.out _ hb0
   refine hK.out _ _ S70 (fun hHeld2 => ?_)
   clear hK K
   try simp only [Act.put, j]
   refine wpAnyH_ready (rs := [2, 4]) (by kernel_rfl) (by simp) ?_
   refine AllReadyH.cons rfl (fun K hK => ?_) ?_
   ·go_simp
    refine (CA2.out _ hb0).mono ?_
    rintro e w7k1 ⟨rfl, hb7⟩
    have hb1 := hb0.trans (hb7.mono (hb0).size)
    have S71 := KT.out _ hb1
    refine hK.out _ _ S71 (fun hHeld2 => ?_)
    clear hK K
    try simp only [Act.put, j]
    refine tkA 3 rfl ?_
    have B8 : Below w5.heap.size w5 (w7k1.alloc (.cells #[.int .i64 0, .int .i64 0, .string ⟨#[]⟩, .slice none 0 0] 76)) := hb1.trans (((q4B w7k1.heap.size w7k1).alloc (Nat.le_refl _) _).mono (hb1).size)
    have S8 := KT.out _ B8
    refine rdH 4 rfl fun K hK => ?_
    go_simp
    refine hK.out _ _ S8 (fun hHeld2 => ?_)
    clear hK K
    try simp only [Act.put, j]
    have B9 : Below w5.heap.size w5 (w7k1.alloc (.cells #[.int .i64 G0.shift, .int .i64 G0.save, af G0.name, .slice none 0 0] 76)) := hb1.trans (((q4B w7k1.heap.size w7k1).alloc (Nat.le_refl _) _).mono (hb1).size)
    have S9 := KT.out _ B9
    have T9 : ag (w7k1.alloc (.cells #[.int .i64 G0.shift, .int .i64 G0.save, af G0.name, .slice none 0 0] 76)) w7k1.heap.size [.int .i64 G0.shift, .int .i64 G0.save, af G0.name, .slice none 0 0] := aC w7k1 [.int .i64 G0.shift, .int .i64 G0.save, af G0.name, .slice none 0 0] 76
    have N9 : w5.heap.size ≤ w7k1.heap.size := (hb1).size
    refine rdH 5 rfl fun K hK => ?_
    go_simp
    refine hK.out _ _ S9 (fun hHeld2 => ?_)
    clear hK K
    try simp only [Act.put, j]
    refine wpAnyH_done (by kernel_rfl) ?_ _
    go_wp2_with fail
    go_meet
    exact ⟨_, rfl, N9, T9, B9⟩
   refine AllReadyH.cons rfl (fun K hK => ?_) AllReadyH.nil
   have BA : Below w5.heap.size w5 (w7k0.alloc (.cells #[.int .i64 0, .int .i64 0, .string ⟨#[]⟩, .slice none 0 0] 76)) := hb0.trans (((q4B w7k0.heap.size w7k0).alloc (Nat.le_refl _) _).mono (hb0).size)
   have TA : ag (w7k0.alloc (.cells #[.int .i64 0, .int .i64 0, .string ⟨#[]⟩, .slice none 0 0] 76)) w7k0.heap.size [.int .i64 0, .int .i64 0, .string ⟨#[]⟩, .slice none 0 0] := aC w7k0 [.int .i64 0, .int .i64 0, .string ⟨#[]⟩, .slice none 0 0] 76
   go_simp
   have SA := KT.out _ BA
   refine hK.out _ _ SA (fun hHeld2 => ?_)
   clear hK K
   try simp only [Act.put, j]
   refine rdH 2 rfl fun K hK => ?_
   go_simp
   refine (CA2.out _ BA).mono ?_
   rintro e w7k1 ⟨rfl, hb7⟩
   have hb1 := BA.trans (hb7.mono (BA).size)
   have S71 := KT.out _ hb1
   have T71 : ag w7k1 _ [.int .i64 0, .int .i64 0, .string ⟨#[]⟩, .slice none 0 0] := ah TA hb7
   refine hK.out _ _ S71 (fun hHeld2 => ?_)
   clear hK K
   try simp only [Act.put, j]
   refine tkA 3 rfl ?_
   obtain ⟨⟨q0, k0⟩, ⟨q1, k1⟩, ⟨q2, k2⟩, ⟨q3, k3⟩, sT⟩ := cp4 T71
   have N9 : w5.heap.size ≤ w7k0.heap.size := (hb0).size
   have B9 := (ax (ax (ax (ax hb1 N9 0 (.int .i64 G0.shift)) N9 1 (.int .i64 G0.save)) N9 2 (af G0.name)) N9 3 (.slice none 0 0))
   have S9 := KT.out _ B9
   have T9 := (aS (aS (aS (aS T71 0 (.int .i64 G0.shift) (by simp)) 1 (.int .i64 G0.save) (by simp)) 2 (af G0.name) (by simp)) 3 (.slice none 0 0) (by simp))
   simp only [List.set_cons_zero, List.set_cons_succ] at T9
   refine rdH 5 rfl fun K hK => ?_
   go_simp
   refine hK.out _ _ S9 (fun hHeld2 => ?_)
   clear hK K
   try simp only [Act.put, j]
   refine wpAnyH_done (by kernel_rfl) ?_ _
   go_wp2_with fail
   go_meet
   exact ⟨_, rfl, N9, T9, B9⟩
  refine AllReadyH.cons rfl (fun K hK => ?_) AllReadyH.nil
  have BA : Below w5.heap.size w5 (w5.drew.alloc (.cells #[.int .i64 0, .int .i64 0, .string ⟨#[]⟩, .slice none 0 0] 76)) := BD.trans (((q4B w5.drew.heap.size w5.drew).alloc (Nat.le_refl _) _).mono (BD).size)
  have TA : ag (w5.drew.alloc (.cells #[.int .i64 0, .int .i64 0, .string ⟨#[]⟩, .slice none 0 0] 76)) w5.heap.size [.int .i64 0, .int .i64 0, .string ⟨#[]⟩, .slice none 0 0] := aC w5.drew [.int .i64 0, .int .i64 0, .string ⟨#[]⟩, .slice none 0 0] 76
  go_simp
  have SA := KT.out _ BA
  refine hK.out _ _ SA (fun hHeld2 => ?_)
  clear hK K
  try simp only [Act.put, j]
  refine rdH 1 rfl fun K hK => ?_
  go_simp
  refine (CA1.out _ BA).mono ?_
  rintro e w7k0 ⟨rfl, hb7⟩
  have hb0 := BA.trans (hb7.mono (BA).size)
  have S70 := KT.out _ hb0
  have T70 : ag w7k0 _ [.int .i64 0, .int .i64 0, .string ⟨#[]⟩, .slice none 0 0] := ah TA hb7
  refine hK.out _ _ S70 (fun hHeld2 => ?_)
  clear hK K
  try simp only [Act.put, j]
  refine rdH 2 rfl fun K hK => ?_
  go_simp
  refine (CA2.out _ hb0).mono ?_
  rintro e w7k1 ⟨rfl, hb7⟩
  have hb1 := hb0.trans (hb7.mono (hb0).size)
  have S71 := KT.out _ hb1
  have T71 : ag w7k1 _ [.int .i64 0, .int .i64 0, .string ⟨#[]⟩, .slice none 0 0] := ah T70 hb7
  refine hK.out _ _ S71 (fun hHeld2 => ?_)
  clear hK K
  try simp only [Act.put, j]
  refine tkA 3 rfl ?_
  obtain ⟨⟨q0, k0⟩, ⟨q1, k1⟩, ⟨q2, k2⟩, ⟨q3, k3⟩, sT⟩ := cp4 T71
  have N9 : w5.heap.size ≤ w5.heap.size := (BD).size
  have B9 := (ax (ax (ax (ax hb1 N9 0 (.int .i64 G0.shift)) N9 1 (.int .i64 G0.save)) N9 2 (af G0.name)) N9 3 (.slice none 0 0))
  have S9 := KT.out _ B9
  have T9 := (aS (aS (aS (aS T71 0 (.int .i64 G0.shift) (by simp)) 1 (.int .i64 G0.save) (by simp)) 2 (af G0.name) (by simp)) 3 (.slice none 0 0) (by simp))
  simp only [List.set_cons_zero, List.set_cons_succ] at T9
  refine rdH 5 rfl fun K hK => ?_
  go_simp
  refine hK.out _ _ S9 (fun hHeld2 => ?_)
  clear hK K
  try simp only [Act.put, j]
  refine wpAnyH_done (by kernel_rfl) ?_ _
  go_wp2_with fail
  go_meet
  exact ⟨_, rfl, N9, T9, B9⟩
 case rest =>
 obtain ⟨TT, rfl, hTT, CT6, BT6⟩ := hcut
 obtain ⟨w6, hw6⟩ : ∃ y, wc = y := ⟨_, rfl⟩
 rw [hw6] at CT6 BT6 ⊢
 clear hw6 SS CA1 CA2
 obtain ⟨w7, g7, L0, hb7, sz7⟩ := aR w6 #[.int .i64 G0.shift, .int .i64 G0.save, af G0.name] 31
 obtain ⟨WB, hWB⟩ : ∃ b, w6.heap.size = b := ⟨_, rfl⟩
 have CW7 : Hid (ag w7 WB [.int .i64 G0.shift, .int .i64 G0.save, af G0.name]) := hWB ▸ L0
 have CT7 := hid (ah CT6 hb7)
 have BT7 := hid (BT6.trans (hb7.mono BT6.size))
 have o1 : TT < WB := by have := CT6.1; omega
 have o2 : WB < w7.heap.size := by omega
 have CT6' := hid CT6
 clear L0 hb7 sz7 BT6 CT6
 obtain ⟨⟨t0, _⟩, ⟨t1, _⟩, ⟨t2, _⟩, st⟩ := cp3 CT6'.out
 obtain ⟨⟨u0, _⟩, ⟨u1, _⟩, ⟨u2, _⟩, su⟩ := cp3 CW7.out
 have CK0 := pz G0 w7 (by unfold maxLen; omega)
 rw [wT gk1 gk2, ← Iz G0] at CK0
 have HC := hid CK0
 clear CK0
 go_wp2_with fail
 refine HC.out.mono ?_
 rintro e w8 ⟨rfl, hb⟩
 obtain ⟨M6, hM6⟩ : ∃ M, w8.heap.size = M := ⟨_, rfl⟩
 have ST : Hid (uY w5 w5.heap.size TT WB M6 G0 G0 (.slice none 0 0) [] w8) := ⟨aL BT7.out BT7.out.size hb, ah CT7.out hb, ah CW7.out hb, lw _ _, hTT, o1, by have := hb.size; omega, by omega⟩
 clear HC g7 t0 t1 t2 st u0 u1 u2 su hWB CW7 CT7 BT7 CT6' o1 o2 hb hM6 gk1 gk2 gk3
 obtain ⟨j0, hj, jz0, jz1, jz2⟩ := info_parts Tryz.PD
 go_wp2_with fail
 go_loopw [14, 15] (fun bv iv wr => ∃ (i : Nat) (out : List Tb.Cg) (W : Tb.Lc) (cv : Value), i ≤ A0.length ∧ iv = .int .i64 i ∧ bv = .int .i64 (jM G0 out) ∧ Hid (out.length ≤ i) ∧ Hid (out = Tb.dD (aI rs ⟨nm, es⟩) G0 (l.take i)) ∧ Hid (W = kF G0 out) ∧ Hid (uY w5 w5.heap.size TT WB M6 G0 W cv out wr)) (fun _ iv _ => A0.length - (intOf iv).toNat)
 case atStart => exact ⟨0, [], G0, _, Nat.zero_le _, rfl, rfl, Nat.zero_le _, rfl, rfl, ST⟩
 case round =>
  clear ST
  obtain ⟨i, out, W, cv, hi9, rfl, rfl, hol, HO, HW, H⟩ := hrel
  have hown := H.out.own
  obtain ⟨ca, cc, rfl⟩ := aF hown
  clear hown
  obtain ⟨bd, hbd⟩ : ∃ b, jM G0 out = b := ⟨_, rfl⟩
  have HBD := hid hbd
  have hb01 : bd = 0 ∨ bd = 1 := by rw [← hbd]; exact Rj _ _
  rw [hbd]
  clear hbd
  by_cases hlt : i < A0.length
  case neg =>
   have e : l.take i = l := List.take_of_length_le (by have := HLN.out; omega)
   have HO2 : Hid (out = Tb.dD (aI rs ⟨nm, es⟩) G0 l) := by have := HO.out; rw [e] at this; exact this
   have q : ¬ (i : Int) < (A0.length : Int) := by omega
   have BF : Hid (Below N w wr) := aL B5.out (by omega) H.out.bel
   have RF : Hid (ag wr (N + 1 + 1) [.int .i64 0, .int .i64 0, .string ⟨#[]⟩, .slice none 0 0]) := ah R5.out H.out.bel
   have FE := hid (fun (b : Int) (T : Tb.Tbl) (ta : Option Addr) (tc : Nat) (w' : World) (h1 : b = if jM G0 out = 0 then (if 1000 < out.length then 2 else 0) else jM G0 out) (h2 : T = if b = 0 then ⟨G0, out⟩ else ⟨lc0, []⟩) (h3 : ma w' N (.slice ta T.ch.length tc) T.ch) (h4 : Below N w w') => Sw (nm := nm) PERM.out SL.out HG.out HO2.out h1 h2 (hN ▸ h3) (hN ▸ h4))
   obtain ⟨⟨r0, f0⟩, ⟨r1, f1⟩, ⟨r2, f2⟩, ⟨r3, f3⟩, sr⟩ := cp4 RF.out
   obtain ⟨⟨t0, _⟩, ⟨t1, _⟩, ⟨t2, _⟩, ⟨t3, _⟩, st⟩ := cp4 H.out.t
   have hN2 : N ≤ N + 1 + 1 := by omega
   have hqN : N + 1 + 1 < w5.heap.size := by omega
   have RCH := hid (dC (B' := N) (ownsRow_setCell_other (a := ⟨N + 1 + 1, 3, none⟩) (ownsRow_setCell_other (a := ⟨N + 1 + 1, 2, none⟩) (ownsRow_setCell_other (a := ⟨N + 1 + 1, 1, none⟩) (ownsRow_setCell_other (a := ⟨N + 1 + 1, 0, none⟩) H.out.own (Ep H.out hqN) (.int .i64 G0.shift)) (Ep H.out hqN) (.int .i64 G0.save)) (Ep H.out hqN) (af G0.name)) (Ep H.out hqN) (.slice ca out.length cc)) (by have := H.out.ord; omega))
   have BFz := hid (fun (u0 u1 u2 u3 : Value) => ax (ax (ax (ax BF.out hN2 0 u0) hN2 1 u1) hN2 2 u2) hN2 3 u3)
   clear e HO hlt hi9 CV KT RA H HW
   rcases hb01 with hb0 | hb0
   ·subst hb0
    by_cases hk : 1000 < out.length
    ·have qk : (1000 : Int) < (out.length : Int) := by omega
     have E2 : Hid ((2 : Int) = if jM G0 out = 0 then (if 1000 < out.length then 2 else 0) else jM G0 out) := by show _ = _; rw [HBD.out, if_pos rfl, if_pos hk]
     clear hk
     go_wp2
     refine bodyPost_ret (v := .tuple #[tbV lc0 (.slice none 0 0), .int .i64 2]) (by simp [results, Tryz.results35, go_sem, lc0, *]) rfl (FE.out 2 ⟨lc0, []⟩ none 0 _ E2.out rfl (lw _ _) (BFz.out _ _ _ _))
    ·have qk : ¬ (1000 : Int) < (out.length : Int) := by omega
     have E2 : Hid ((0 : Int) = if jM G0 out = 0 then (if 1000 < out.length then 2 else 0) else jM G0 out) := by show _ = _; rw [HBD.out, if_pos rfl, if_neg hk]
     clear hk
     go_wp2
     refine bodyPost_ret (v := .tuple #[tbV G0 (.slice ca out.length cc), .int .i64 0]) (by simp [results, Tryz.results35, go_sem, *]) rfl (FE.out 0 ⟨G0, out⟩ ca cc _ E2.out rfl RCH.out (BFz.out _ _ _ _))
   ·subst hb0
    have E2 : Hid ((1 : Int) = if jM G0 out = 0 then (if 1000 < out.length then 2 else 0) else jM G0 out) := by show _ = _; rw [HBD.out]; rfl
    go_wp2
    refine bodyPost_ret (v := .tuple #[tbV lc0 (.slice none 0 0), .int .i64 1]) (by simp [results, Tryz.results35, go_sem, lc0, *]) rfl (FE.out 1 ⟨lc0, []⟩ none 0 _ E2.out rfl (lw _ _) (BFz.out _ _ _ _))
  obtain ⟨x, hx⟩ : ∃ x, l[i]? = some x := ⟨_, q4G (by have := HLN.out; omega)⟩
  obtain ⟨gb, go, e1, hgb, hc⟩ := aN (au RA.out H.out.bel) hx
  subst e1
  have y0 : wr.cell? ⟨gb, go + i, none⟩ = some (.int .i64 x) := by have := hc 0 _ rfl; simpa using this
  have q : (i : Int) < (A0.length : Int) := by omega
  have htk : l.take (i + 1) = l.take i ++ [x] := by rw [List.take_add_one, hx]; rfl
  have HS : Hid (Tb.dD (aI rs ⟨nm, es⟩) G0 (l.take (i + 1)) = out ++ (if x ≤ -62135596800 ∨ 253402300799 < x then [] else if aI rs ⟨nm, es⟩ x = W then [] else [⟨x, aI rs ⟨nm, es⟩ x⟩])) := by
   show _ = _
   rw [htk, Tb.oC, ← HO.out, ← HW.out]
  have HXI := hid hx
  have SS := hid (show wr.cell? ⟨gb, go + i, none⟩ = some (.int .i64 x) from y0)
  have KS : Hid (∀ wz, Below wr.heap.size wr wz → (wz.cell? ⟨gb, go + i, none⟩ = some (.int .i64 x))) := fun wz hb => (hb.cell (p := ⟨gb, go + i, none⟩) hgb).trans y0
  clear hc hx htk
  by_cases y1 : x ≤ -62135596800
  case pos =>
   have hd1 : decide (x ≤ -62135596800) = true := decide_eq_true y1
   have HS2 : Hid (out = Tb.dD (aI rs ⟨nm, es⟩) G0 (l.take (i + 1))) := by show _ = _; rw [HS.out, if_pos (.inl y1), List.append_nil]
   have hol2 : Hid (out.length ≤ i + 1) := Nat.le_succ_of_le hol.out
   clear HS
   go_upto_region 24 with fail
   refine wp_region_held_drew (S := fun w' => w'.cell? ⟨gb, go + i, none⟩ = some (.int .i64 x)) (by kernel_rfl) SS.out (fun hHeld => ?_)
   refine tkA 0 rfl ?_
   refine tkA 1 rfl ?_
   refine tkA 2 rfl ?_
   refine tkA 3 rfl ?_
   refine rdH 4 rfl fun K hK => ?_
   go_simp
   refine (qE _).mono ?_
   rintro e w10 ⟨rfl, hb10⟩
   have hb : Below wr.heap.size wr w10 := bq hb10
   have S7 := KS.out w10 hb
   refine hK.out _ _ ?_ (fun hHeld => ?_)
   ·exact S7
   clear hK K
   try simp only [Act.put, j]
   refine tkA 5 rfl ?_
   refine tkA 6 rfl ?_
   refine tkD 7 rfl ?_
   refine tkD 8 rfl ?_
   refine tkD 9 rfl ?_
   refine tkD 10 rfl ?_
   refine tkD 11 rfl ?_
   refine tkD 12 rfl ?_
   refine tkA 13 rfl ?_
   refine wpAnyH_done (by kernel_rfl) ?_ _
   have H2 := hid (uN H.out hb)
   clear H SS KS S7 hb hb10 hHeld y0 hgb hd1 y1 HO
   go_wp2
   go_roundw
   case rel => exact ⟨i + 1, out, W, _, by omega, by go_num, by rw [HBD.out], hol2, HS2, HW, H2⟩
   case measure => simp [intOf]; omega
  have hd1 : decide (x ≤ -62135596800) = false := decide_eq_false y1
  by_cases y2 : 253402300799 < x
  case pos =>
   have hd2 : decide (253402300799 < x) = true := decide_eq_true y2
   have hd3 : decide (x > 253402300799) = true := decide_eq_true y2
   have HS2 : Hid (out = Tb.dD (aI rs ⟨nm, es⟩) G0 (l.take (i + 1))) := by show _ = _; rw [HS.out, if_pos (.inr y2), List.append_nil]
   have hol2 : Hid (out.length ≤ i + 1) := Nat.le_succ_of_le hol.out
   clear HS
   go_upto_region 24 with fail
   refine wp_region_held_drew (S := fun w' => w'.cell? ⟨gb, go + i, none⟩ = some (.int .i64 x)) (by kernel_rfl) SS.out (fun hHeld => ?_)
   refine tkA 0 rfl ?_
   refine tkA 1 rfl ?_
   refine tkA 2 rfl ?_
   refine tkA 3 rfl ?_
   refine rdH 4 rfl fun K hK => ?_
   go_simp
   refine (qE _).mono ?_
   rintro e w10 ⟨rfl, hb10⟩
   have hb : Below wr.heap.size wr w10 := bq hb10
   have S7 := KS.out w10 hb
   refine hK.out _ _ ?_ (fun hHeld => ?_)
   ·exact S7
   clear hK K
   try simp only [Act.put, j]
   refine tkA 5 rfl ?_
   refine tkA 6 rfl ?_
   refine tkA 7 rfl ?_
   refine tkA 8 rfl ?_
   refine tkA 9 rfl ?_
   refine tkA 10 rfl ?_
   refine rdH 11 rfl fun K hK => ?_
   go_simp
   refine (Ga _).mono ?_
   rintro e w11 ⟨rfl, hb11⟩
   have hb2 := hb.trans (hb11.mono hb.size)
   have S8 := KS.out w11 hb2
   refine hK.out _ _ ?_ (fun hHeld => ?_)
   ·exact S8
   clear hK K
   try simp only [Act.put, j]
   refine tkA 12 rfl ?_
   refine tkA 13 rfl ?_
   refine wpAnyH_done (by kernel_rfl) ?_ _
   have H2 := hid (uN H.out hb2)
   clear H SS KS S7 S8 hb hb2 hb10 hb11 hHeld y0 hgb hd1 y1 hd2 hd3 y2 HO
   go_wp2
   go_roundw
   case rel => exact ⟨i + 1, out, W, _, by omega, by go_num, by rw [HBD.out], hol2, HS2, HW, H2⟩
   case measure => simp [intOf]; omega
  have hd2 : decide (253402300799 < x) = false := decide_eq_false y2
  have hd3 : decide (x > 253402300799) = false := decide_eq_false y2
  obtain ⟨D, hD⟩ : ∃ D, aI rs ⟨nm, es⟩ x = D := ⟨_, rfl⟩
  have HS2 : Hid (Tb.dD (aI rs ⟨nm, es⟩) G0 (l.take (i + 1)) = out ++ (if D = W then [] else [⟨x, D⟩])) := by show _ = _; rw [HS.out, if_neg (by omega), hD]
  have dk := P5 (z := ⟨nm, es⟩) OK.out x
  rw [hD] at dk
  have DK := hid dk
  have HD := hid hD
  clear HS hD dk
  go_upto_region 24 with fail
  refine wp_region_held_drew (S := fun w' => w'.cell? ⟨gb, go + i, none⟩ = some (.int .i64 x)) (by kernel_rfl) SS.out (fun hHeld => ?_)
  refine tkA 0 rfl ?_
  refine tkA 1 rfl ?_
  refine tkA 2 rfl ?_
  refine tkA 3 rfl ?_
  refine rdH 4 rfl fun K hK => ?_
  go_simp
  refine (qE _).mono ?_
  rintro e w10 ⟨rfl, hb10⟩
  have hb : Below wr.heap.size wr w10 := bq hb10
  have S7 := KS.out w10 hb
  refine hK.out _ _ ?_ (fun hHeld => ?_)
  ·exact S7
  clear hK K
  try simp only [Act.put, j]
  refine tkA 5 rfl ?_
  refine tkA 6 rfl ?_
  refine tkA 7 rfl ?_
  refine tkA 8 rfl ?_
  refine tkA 9 rfl ?_
  refine tkA 10 rfl ?_
  refine rdH 11 rfl fun K hK => ?_
  go_simp
  refine (Ga _).mono ?_
  rintro e w11 ⟨rfl, hb11⟩
  have hb2 := hb.trans (hb11.mono hb.size)
  have S8 := KS.out w11 hb2
  refine hK.out _ _ ?_ (fun hHeld => ?_)
  ·exact S8
  clear hK K
  try simp only [Act.put, j]
  refine tkA 12 rfl ?_
  refine tkA 13 rfl ?_
  refine wpAnyH_done (by kernel_rfl) ?_ _
  have H2 := hid (uN H.out hb2)
  have hgb2 := q4N hgb hb2.size
  have S8' := hid S8
  clear H SS KS S7 S8 hb hb10 hb11 hHeld y0 hgb hd1 y1 hd2 hd3 y2 HO
  have BW5 : Hid (Below w5.heap.size w5 w11) := H2.out.bel
  have KT11 := hid (fun wz (hb : Below w11.heap.size w11 wz) => KT.out wz (aL BW5.out BW5.out.size hb))
  have KS : Hid (∀ wz, Below w11.heap.size w11 wz → (wz.cell? ⟨TB, 0, none⟩ = some (af nm) ∧ wz.cell? ⟨TB, 1, none⟩ = some (.slice a es.length c) ∧ wz.cell? ⟨TB, 2, none⟩ = some (.slice va L.length vc) ∧ wz.cell? ⟨TB, 3, none⟩ = some (.slice ta ps.length tc) ∧ wz.cell? ⟨gb, go + i, none⟩ = some (.int .i64 x))) := fun wz hb => by
   obtain ⟨t0, t1, t2, t3⟩ := KT11.out wz hb
   exact ⟨t0, t1, t2, t3, (hb.cell (p := ⟨gb, go + i, none⟩) hgb2).trans S8'.out⟩
  have SS := hid (KS.out w11 (q4B _ _))
  have CVa : Hid (∀ W, Below w11.heap.size w11 W → Calls Tryz.prog 26 #[.agg #[af nm, .slice a es.length c, .slice va L.length vc, .slice ta ps.length tc], .int .i64 x] W fun e w' => e = .returned (.agg #[.int .i64 D.shift, .int .i64 D.save, af D.name]) ∧ Below W.heap.size W w') := fun W hW => by
   have := CV.out x W (aL BW5.out BW5.out.size hW)
   rw [HD.out] at this
   exact this
  clear hb2
  go_upto_region 25 with fail
  go_cut [16] from 120 to 125 (fun s16 wc => ∃ T, s16 = .pointer (some ⟨T, 0, none⟩) ∧ w11.heap.size ≤ T ∧ Hid (ag wc T [.int .i64 D.shift, .int .i64 D.save, af D.name]) ∧ Hid (Below w11.heap.size w11 wc))
  case first =>
   refine wp_region_held_drew (S := fun w' => w'.cell? ⟨TB, 0, none⟩ = some (af nm) ∧ w'.cell? ⟨TB, 1, none⟩ = some (.slice a es.length c) ∧ w'.cell? ⟨TB, 2, none⟩ = some (.slice va L.length vc) ∧ w'.cell? ⟨TB, 3, none⟩ = some (.slice ta ps.length tc) ∧ w'.cell? ⟨gb, go + i, none⟩ = some (.int .i64 x)) (by kernel_rfl) SS.out (fun hHeld => ?_)
   refine tkA 0 rfl ?_
   refine tkA 1 rfl ?_
   refine tkA 2 rfl ?_
   refine tkA 3 rfl ?_
   refine tkA 4 rfl ?_
   have BD : Below w11.heap.size w11 w11.drew := ⟨rfl, rfl, rfl, Nat.le_refl _, fun _ _ => rfl⟩
   refine wpAnyH_ready (rs := [5, 6]) (by kernel_rfl) (by simp) ?_
   refine AllReadyH.cons rfl (fun K hK => ?_) ?_
   ·go_simp
    refine (CVa.out _ BD).mono ?_
    rintro e w7n0 ⟨rfl, hb7⟩
    have hb0 := BD.trans (hb7.mono (BD).size)
    have S70 := KS.out _ hb0
    refine hK.out _ _ S70 (fun hHeld2 => ?_)
    clear hK K
    try simp only [Act.put, j]
    have B8 : Below w11.heap.size w11 (w7n0.alloc (.cells #[.int .i64 0, .int .i64 0, .string ⟨#[]⟩] 31)) := hb0.trans (((q4B w7n0.heap.size w7n0).alloc (Nat.le_refl _) _).mono (hb0).size)
    have S8 := KS.out _ B8
    refine rdH 6 rfl fun K hK => ?_
    go_simp
    refine hK.out _ _ S8 (fun hHeld2 => ?_)
    clear hK K
    try simp only [Act.put, j]
    have B9 : Below w11.heap.size w11 (w7n0.alloc (.cells #[.int .i64 D.shift, .int .i64 D.save, af D.name] 31)) := hb0.trans (((q4B w7n0.heap.size w7n0).alloc (Nat.le_refl _) _).mono (hb0).size)
    have S9 := KS.out _ B9
    have T9 : ag (w7n0.alloc (.cells #[.int .i64 D.shift, .int .i64 D.save, af D.name] 31)) w7n0.heap.size [.int .i64 D.shift, .int .i64 D.save, af D.name] := aC w7n0 [.int .i64 D.shift, .int .i64 D.save, af D.name] 31
    have N9 : w11.heap.size ≤ w7n0.heap.size := (hb0).size
    refine rdH 7 rfl fun K hK => ?_
    go_simp
    refine hK.out _ _ S9 (fun hHeld2 => ?_)
    clear hK K
    try simp only [Act.put, j]
    refine wpAnyH_done (by kernel_rfl) ?_ _
    go_wp2_with fail
    go_meet
    exact ⟨_, rfl, N9, T9, B9⟩
   refine AllReadyH.cons rfl (fun K hK => ?_) AllReadyH.nil
   have BA : Below w11.heap.size w11 (w11.drew.alloc (.cells #[.int .i64 0, .int .i64 0, .string ⟨#[]⟩] 31)) := BD.trans (((q4B w11.drew.heap.size w11.drew).alloc (Nat.le_refl _) _).mono (BD).size)
   have TA : ag (w11.drew.alloc (.cells #[.int .i64 0, .int .i64 0, .string ⟨#[]⟩] 31)) w11.heap.size [.int .i64 0, .int .i64 0, .string ⟨#[]⟩] := aC w11.drew [.int .i64 0, .int .i64 0, .string ⟨#[]⟩] 31
   go_simp
   have SA := KS.out _ BA
   refine hK.out _ _ SA (fun hHeld2 => ?_)
   clear hK K
   try simp only [Act.put, j]
   refine rdH 5 rfl fun K hK => ?_
   go_simp
   refine (CVa.out _ BA).mono ?_
   rintro e w7n0 ⟨rfl, hb7⟩
   have hb0 := BA.trans (hb7.mono (BA).size)
   have S70 := KS.out _ hb0
   have T70 : ag w7n0 _ [.int .i64 0, .int .i64 0, .string ⟨#[]⟩] := ah TA hb7
   refine hK.out _ _ S70 (fun hHeld2 => ?_)
   clear hK K
   try simp only [Act.put, j]
   obtain ⟨⟨q0, k0⟩, ⟨q1, k1⟩, ⟨q2, k2⟩, sT⟩ := cp3 T70
   have N9 : w11.heap.size ≤ w11.heap.size := (BD).size
   have B9 := (ax (ax (ax hb0 N9 0 (.int .i64 D.shift)) N9 1 (.int .i64 D.save)) N9 2 (af D.name))
   have S9 := KS.out _ B9
   have T9 := (aS (aS (aS T70 0 (.int .i64 D.shift) (by simp)) 1 (.int .i64 D.save) (by simp)) 2 (af D.name) (by simp))
   simp only [List.set_cons_zero, List.set_cons_succ] at T9
   refine rdH 7 rfl fun K hK => ?_
   go_simp
   refine hK.out _ _ S9 (fun hHeld2 => ?_)
   clear hK K
   try simp only [Act.put, j]
   refine wpAnyH_done (by kernel_rfl) ?_ _
   go_wp2_with fail
   go_meet
   exact ⟨_, rfl, N9, T9, B9⟩
  case rest =>
  obtain ⟨NB, rfl, hNB, CN, BN⟩ := hcut
  obtain ⟨w12, hw12⟩ : ∃ y, wc = y := ⟨_, rfl⟩
  rw [hw12] at CN BN ⊢
  have H3 := hid (uN H2.out BN.out)
  have y0 : w12.cell? ⟨gb, go + i, none⟩ = some (.int .i64 x) := (BN.out.cell (p := ⟨gb, go + i, none⟩) hgb2).trans S8'.out
  have hgb3 := q4N hgb2 BN.out.size
  have hNB6 : Hid (M6 ≤ NB) := Nat.le_trans H2.out.ord.2.2.2 hNB
  have HNO : Hid (∀ g, (Value.slice ca out.length cc).ownBlock = some g → g ≠ NB) := fun g hg => by have := (H2.out.own.lt g hg).2; omega
  have Y0 := hid y0
  clear hw12 SS KS CVa BN H2 hgb2 S8' KT11 BW5 y0
  go_upto_region 26 with fail
  go_cut [128] from 126 to 128 (fun v wc => wc = w12 ∧ v = .bool (decide (D = W)))
  case first =>
   obtain ⟨⟨n0, _⟩, ⟨n1, _⟩, ⟨n2, _⟩, sn⟩ := cp3 CN.out
   obtain ⟨⟨u0, _⟩, ⟨u1, _⟩, ⟨u2, _⟩, su⟩ := cp3 H3.out.was
   clear H3 CN HS2 DK HD HW
   obtain ⟨d1, d2, d3⟩ := D
   obtain ⟨v1, v2, v3⟩ := W
   by_cases hq : (⟨d1, d2, d3⟩ : Tb.Lc) = ⟨v1, v2, v3⟩
   case pos =>
    simp only [Tb.Lc.mk.injEq] at hq
    obtain ⟨rfl, rfl, rfl⟩ := hq
    go_wp2_with fail
    go_meet
    exact ⟨rfl, by simp⟩
   rcases Mx hq with h1 | ⟨rfl, h1⟩ | ⟨rfl, rfl, h1⟩
   all_goals
    dsimp only at h1
    go_wp2_with fail
    go_meet
    exact ⟨rfl, by simp [h1]⟩
  case rest =>
  obtain ⟨hwc, rfl⟩ := hcut
  rw [hwc]
  clear hwc
  by_cases hq : D = W
  case pos =>
   have HS3 : Hid (out = Tb.dD (aI rs ⟨nm, es⟩) G0 (l.take (i + 1))) := by show _ = _; rw [HS2.out, if_pos hq, List.append_nil]
   have hol2 : Hid (out.length ≤ i + 1) := Nat.le_succ_of_le hol.out
   have hdq : decide (D = W) = true := by simp [hq]
   rw [hdq]
   clear HS2 hdq hq CN Y0
   go_wp2
   go_roundw
   case rel => exact ⟨i + 1, out, W, _, by omega, by go_num, by rw [HBD.out], hol2, HS3, HW, H3⟩
   case measure => simp [intOf]; omega
  have HS3 : Hid (out ++ [⟨x, D⟩] = Tb.dD (aI rs ⟨nm, es⟩) G0 (l.take (i + 1))) := by show _ = _; rw [HS2.out, if_neg hq]
  have hol2 : Hid ((out ++ ([⟨x, D⟩] : List Tb.Cg)).length ≤ i + 1) := by show _ ≤ _; have := hol.out; rw [List.length_append]; simp; omega
  have HW2 : Hid (D = kF G0 (out ++ [⟨x, D⟩])) := by show _ = _; rw [FK]
  have hdq : decide (D = W) = false := by simp [hq]
  rw [hdq]
  have ED : Hid (Tb.aI D = if aW D.name = true then 0 else 1) := wT DK.out.1 DK.out.2.1
  have BS : Hid (jM G0 (out ++ [⟨x, D⟩]) = if bd = 0 then Tb.aI D else bd) := by show _ = _; rw [LF, HBD.out, ED.out]
  have hD9 : D.name.length ≤ 2000000 := DK.out.2.2
  obtain ⟨cb, hcb⟩ : ∃ cb, (bd == 0) = cb := ⟨_, rfl⟩
  clear HS2 hdq hq ED DK HD
  go_upto_if 130 with fail
  go_cut [14] from 131 to 132 (fun bv wc => bv = .int .i64 (jM G0 (out ++ [⟨x, D⟩])) ∧ Below w12.heap.size w12 wc)
  case first =>
   cases cb
   case false =>
    have e : bd ≠ 0 := by simpa using hcb
    have e2 : jM G0 (out ++ [⟨x, D⟩]) = bd := by rw [BS.out, if_neg e]
    have E2 := hid e2
    clear e e2 hcb
    go_wp2_with fail
    go_meet
    exact ⟨by rw [E2.out], q4B _ _⟩
   have e : bd = 0 := by simpa using hcb
   have e2 : jM G0 (out ++ [⟨x, D⟩]) = Tb.aI D := by rw [BS.out, if_pos e]
   have HC := hid (pz D w12 (by unfold maxLen; omega))
   obtain ⟨⟨n0, _⟩, ⟨n1, _⟩, ⟨n2, _⟩, sn⟩ := cp3 CN.out
   have E2 := hid e2
   clear e e2 hcb
   go_wp2_with fail
   refine HC.out.mono ?_
   rintro e w13 ⟨rfl, hb⟩
   go_wp2_with fail
   go_meet
   exact ⟨by rw [E2.out], hb⟩
  case rest =>
  obtain ⟨rfl, BW⟩ := hcut
  obtain ⟨w13, hw13⟩ : ∃ y, wc = y := ⟨_, rfl⟩
  rw [hw13] at BW ⊢
  have H4 := hid (uN H3.out BW)
  have CN4 := hid (ah CN.out BW)
  have Y4 := hid ((BW.cell (p := ⟨gb, go + i, none⟩) hgb3).trans Y0.out)
  obtain ⟨t3, m3⟩ := aa H4.out.t 3 rfl
  have stt := H4.out.t.1
  obtain ⟨⟨n0, _⟩, ⟨n1, _⟩, ⟨n2, _⟩, sn⟩ := cp3 CN4.out
  have SS := hid (show w13.cell? ⟨NB, 0, none⟩ = some (.int .i64 D.shift) ∧ w13.cell? ⟨NB, 1, none⟩ = some (.int .i64 D.save) ∧ w13.cell? ⟨NB, 2, none⟩ = some (af D.name) ∧ w13.cell? ⟨gb, go + i, none⟩ = some (.int .i64 x) from ⟨n0, n1, n2, Y4.out⟩)
  have hgw : gb < w5.heap.size := by
   obtain ⟨gb', go', e1, hgb', _⟩ := aN RA.out HXI.out
   simp only [Option.some.injEq, Addr.mk.injEq] at e1
   rw [e1.1]; exact hgb'
  have K9 : Hid (∀ wz, uY w5 w5.heap.size TT WB M6 G0 W (.slice ca out.length cc) out w13 → (∀ o, (w13.alloc o).grownBy wz (Value.slice ca out.length cc).ownBlock → wz.cell? ⟨NB, 0, none⟩ = some (.int .i64 D.shift) ∧ wz.cell? ⟨NB, 1, none⟩ = some (.int .i64 D.save) ∧ wz.cell? ⟨NB, 2, none⟩ = some (af D.name) ∧ wz.cell? ⟨gb, go + i, none⟩ = some (.int .i64 x))) := fun wz hT o hg => by
   have c := Ui hT CN4.out HNO.out hg
   have bl := (Ab hT (v' := .slice none 0 0) (n := 0) (xs := []) (World.ownsRow_nil _ _ _ _) hg).1
   exact ⟨(aa c 0 rfl).1, (aa c 1 rfl).1, (aa c 2 rfl).1, (bl.cell (p := ⟨gb, go + i, none⟩) hgw).trans (((H4.out.bel.cell (p := ⟨gb, go + i, none⟩) hgw).symm).trans Y4.out)⟩
  have h4o := H4.out
  have hNT : ¬ NB = TT := by have := H4.out.ord; have := hNB6.out; omega
  have hgT : ¬ gb = TT := by have := H4.out.ord; omega
  have OW9 : w13.ownsRow M6 86 4 (.slice ca out.length cc) out.length (out.flatMap bB) := H4.out.own
  have hm9 := H4.out.ord.2.2.2
  clear hw13 H3 CN Y0 hgb3 BW BS hcb HW
  go_upto_region 29 with fail
  refine wp_region_held_drew (S := fun w' => w'.cell? ⟨NB, 0, none⟩ = some (.int .i64 D.shift) ∧ w'.cell? ⟨NB, 1, none⟩ = some (.int .i64 D.save) ∧ w'.cell? ⟨NB, 2, none⟩ = some (af D.name) ∧ w'.cell? ⟨gb, go + i, none⟩ = some (.int .i64 x)) (by kernel_rfl) SS.out (fun hHeld => ?_)
  refine tkA 0 rfl ?_
  refine tkA 2 rfl ?_
  refine tkA 3 rfl ?_
  refine tkA 4 rfl ?_
  refine tkA 5 rfl ?_
  refine tkA 6 rfl ?_
  refine tkA 7 rfl ?_
  have SA : (w13.alloc (.cells #[.int .i64 x, .int .i64 D.shift, .int .i64 D.save, af D.name] 86)).cell? ⟨NB, 0, none⟩ = some (.int .i64 D.shift) ∧ (w13.alloc (.cells #[.int .i64 x, .int .i64 D.shift, .int .i64 D.save, af D.name] 86)).cell? ⟨NB, 1, none⟩ = some (.int .i64 D.save) ∧ (w13.alloc (.cells #[.int .i64 x, .int .i64 D.shift, .int .i64 D.save, af D.name] 86)).cell? ⟨NB, 2, none⟩ = some (af D.name) ∧ (w13.alloc (.cells #[.int .i64 x, .int .i64 D.shift, .int .i64 D.save, af D.name] 86)).cell? ⟨gb, go + i, none⟩ = some (.int .i64 x) := K9.out _ h4o (.cells #[.int .i64 x, .int .i64 D.shift, .int .i64 D.save, af D.name] 86) (grownBy_refl _ _)
  refine wpAnyH_ready (rs := [1, 8]) (by kernel_rfl) (by simp) ?_
  refine AllReadyH.cons rfl (fun K hK => ?_) ?_
  ·go_simp
   refine hK.out _ _ SS.out (fun hHeld2 => ?_)
   clear hK K
   try simp only [Act.put, j]
   refine rdH 8 rfl fun K hK => ?_
   go_simp
   refine hK.out _ _ SA (fun hHeld2 => ?_)
   clear hK K
   try simp only [Act.put, j]
   refine rdH 9 rfl fun K hK => ?_
   refine bC rfl _ _ 74 rfl M6 86 j0 (.agg #[.int .i64 0, .int .i64 0, .int .i64 0, .string ⟨#[]⟩]) 4 40 Tryz.underlying74 hj jz0 jz1 jz2 rfl (by decide) (.slice ca out.length cc) _ _ rfl (OW9.alloc _) ⟨w13.heap.size, 0, none⟩ 1 1 (bB ⟨x, D⟩) rfl rfl (dO w13 (bB ⟨x, D⟩)) (Dk _) (by have := hol.out; unfold maxLen; omega) (by have := hol.out; omega) (by simp; omega) ?_
   intro v' w14 hown9 hgrow9
   have hg9 : (w13.alloc (.cells (bB ⟨x, D⟩).toArray 86)).grownBy w14 (Value.slice ca out.length cc).ownBlock := ⟨hgrow9.os, hgrow9.tape, hgrow9.output, hgrow9.size, hgrow9.block⟩
   obtain ⟨oa, oc, rfl, t3', m3', st3'⟩ := QR h4o hown9 hg9
   have S14 := K9.out w14 h4o _ hg9
   have H5 := hid (QQ (c := ⟨x, D⟩) h4o hown9 hg9)
   refine hK.out _ _ S14 (fun hHeld2 => ?_)
   clear hK K
   try simp only [Act.put, j]
   refine tkA 10 rfl ?_
   have S15 := PR (n := 3) (u := .slice oa (out.length + 1) oc) S14 hNT hgT
   refine rdH 11 rfl fun K hK => ?_
   go_simp
   refine hK.out _ _ S15 (fun hHeld2 => ?_)
   clear hK K
   try simp only [Act.put, j]
   refine wpAnyH_done (by kernel_rfl) ?_ _
   obtain ⟨w16, hw16⟩ : ∃ y, w14.setCell ⟨TT, 3, none⟩ (.slice oa (out.length + 1) oc) = y := ⟨_, rfl⟩
   rw [hw16] at H5 S15 ⊢
   obtain ⟨n0, n1, n2, _⟩ := S15
   obtain ⟨⟨u0, b0⟩, ⟨u1, b1⟩, ⟨u2, b2⟩, su⟩ := cp3 H5.out.was
   have H6 := hid (QS H5.out D)
   clear hown9 hgrow9 hg9 S14 hw16 t3' m3' st3' SA SS h4o OW9 K9 H5 hHeld t3 m3 stt CN4 Y4 H4
   go_wp2
   go_roundw
   case rel => exact ⟨i + 1, out ++ [⟨x, D⟩], D, _, by omega, by go_num, rfl, hol2, HS3, HW2, H6⟩
   case measure => simp [intOf]; omega
  refine AllReadyH.cons rfl (fun K hK => ?_) AllReadyH.nil
  go_simp
  refine hK.out _ _ SA (fun hHeld2 => ?_)
  clear hK K
  try simp only [Act.put, j]
  refine rdH 1 rfl fun K hK => ?_
  go_simp
  refine hK.out _ _ SA (fun hHeld2 => ?_)
  clear hK K
  try simp only [Act.put, j]
  refine rdH 9 rfl fun K hK => ?_
  refine bC rfl _ _ 74 rfl M6 86 j0 (.agg #[.int .i64 0, .int .i64 0, .int .i64 0, .string ⟨#[]⟩]) 4 40 Tryz.underlying74 hj jz0 jz1 jz2 rfl (by decide) (.slice ca out.length cc) _ _ rfl (OW9.alloc _) ⟨w13.heap.size, 0, none⟩ 1 1 (bB ⟨x, D⟩) rfl rfl (dO w13 (bB ⟨x, D⟩)) (Dk _) (by have := hol.out; unfold maxLen; omega) (by have := hol.out; omega) (by simp; omega) ?_
  intro v' w14 hown9 hgrow9
  have hg9 : (w13.alloc (.cells (bB ⟨x, D⟩).toArray 86)).grownBy w14 (Value.slice ca out.length cc).ownBlock := ⟨hgrow9.os, hgrow9.tape, hgrow9.output, hgrow9.size, hgrow9.block⟩
  obtain ⟨oa, oc, rfl, t3', m3', st3'⟩ := QR h4o hown9 hg9
  have S14 := K9.out w14 h4o _ hg9
  have H5 := hid (QQ (c := ⟨x, D⟩) h4o hown9 hg9)
  refine hK.out _ _ S14 (fun hHeld2 => ?_)
  clear hK K
  try simp only [Act.put, j]
  refine tkA 10 rfl ?_
  have S15 := PR (n := 3) (u := .slice oa (out.length + 1) oc) S14 hNT hgT
  refine rdH 11 rfl fun K hK => ?_
  go_simp
  refine hK.out _ _ S15 (fun hHeld2 => ?_)
  clear hK K
  try simp only [Act.put, j]
  refine wpAnyH_done (by kernel_rfl) ?_ _
  obtain ⟨w16, hw16⟩ : ∃ y, w14.setCell ⟨TT, 3, none⟩ (.slice oa (out.length + 1) oc) = y := ⟨_, rfl⟩
  rw [hw16] at H5 S15 ⊢
  obtain ⟨n0, n1, n2, _⟩ := S15
  obtain ⟨⟨u0, b0⟩, ⟨u1, b1⟩, ⟨u2, b2⟩, su⟩ := cp3 H5.out.was
  have H6 := hid (QS H5.out D)
  clear hown9 hgrow9 hg9 S14 hw16 t3' m3' st3' SA SS h4o OW9 K9 H5 hHeld t3 m3 stt CN4 Y4 H4
  go_wp2
  go_roundw
  case rel => exact ⟨i + 1, out ++ [⟨x, D⟩], D, _, by omega, by go_num, rfl, hol2, HS3, HW2, H6⟩
  case measure => simp [intOf]; omega
end
section
open Go.RowKit Go.Shelf
attribute [local go_sem] Oper.semAt_some
attribute [local go_sem ↓] Go.wp_at_zero Go.wp_at_succ

theorem O0 {x : Sx.Er} {b : Bool} (h : Sx.dS x b = 0) (hr : x.rules ≠ []) : x.save = 0 := by
 unfold Sx.dS at h
 split at h
 ·cases h
 split at h
 ·cases h
 split at h
 ·cases h
 split at h
 ·cases h
 ·rename_i g
  simpa [hr] using g
theorem Sv {s : Sx.Sr} {xs : List ZV} {v : Value} {w : World} {nm : Tx.Bs} (hz : kC w v s.zones xs) (h : gY s xs nm = 0) : Ou s.rules (dJ s xs nm).eras := by
 obtain ⟨ok, zin, h8, h4⟩ := uX hz h
 have hzE := ok.zone _ zin
 refine ⟨by omega, nU hzE, fun e he => (h4 e he).fmt, fun e he => ⟨(h4 e he).sh0, (h4 e he).sh1⟩, fun e he => ⟨(h4 e he).sv0, (h4 e he).sv1, fun hr => ?_⟩, fun e he t ht => ?_, fun e he => ?_⟩
 ·unfold Sx.dm at hzE
  split at hzE
  ·cases hzE
  ·obtain ⟨b, hb⟩ := Sx.tV hzE e he
   exact O0 hb hr
 ·unfold gF at ht
  split at ht
  ·cases ht
  ·obtain ⟨r, hr, e1, e2⟩ := Sx.Ad ht
   have hr0 := ok.rule r hr
   have ro := Sx.xP hr0
   rw [e1, e2]
   refine ⟨ro.save.1, ro.save.2, ?_⟩
   unfold Sx.dz at hr0
   split at hr0
   ·cases hr0
   ·rename_i g
    simp [Sx.dV] at g
    omega
 ·unfold gF
  split
  ·simp
  ·exact Sx.oJ _ _ _
end
section
open Go.RowKit

theorem rJ (f : Tb.Lc) (u v : Value) (l : List Tb.Cg) (w : World) (hu : mF w u l) (hv : mF w v l) (hl : l.length ≤ 1000000) :
  Calls Tryz.prog 78 #[tbV f u, tbV f v] w fun e w' => e = .returned (.bool true) ∧ Below w.heap.size w w' := by
 have hu' := hu
 have hv' := hv
 obtain ⟨ua, ucap, rfl, _⟩ := hu'
 obtain ⟨va, vcap, rfl, _⟩ := hv'
 have HU := hid hu
 have HV := hid hv
 clear hu hv
 obtain ⟨W, hW⟩ : ∃ W, (w.alloc (.cells [Value.int .i64 f.shift, .int .i64 f.save, af f.name, .slice ua l.length ucap].toArray 76)).alloc (.cells [Value.int .i64 f.shift, .int .i64 f.save, af f.name, .slice va l.length vcap].toArray 76) = W := ⟨_, rfl⟩
 have B1 : Hid (Below w.heap.size w W) := by
  rw [← hW]; show Below _ _ _
  exact ((q4B _ _).alloc (Nat.le_refl _) _).alloc (by simp) _
 have X1 : Hid (ag W w.heap.size [.int .i64 f.shift, .int .i64 f.save, af f.name, .slice ua l.length ucap]) := by
  rw [← hW]; exact aH (aC _ _ _) _
 have Y1 : Hid (ag W (w.heap.size + 1) [.int .i64 f.shift, .int .i64 f.save, af f.name, .slice va l.length vcap]) := by
  rw [← hW]; show ag _ _ _
  have := aC (w.alloc (.cells [Value.int .i64 f.shift, .int .i64 f.save, af f.name, .slice ua l.length ucap].toArray 76)) [Value.int .i64 f.shift, .int .i64 f.save, af f.name, .slice va l.length vcap] 76
  simpa using this
 have HW := hid hW
 clear hW
 go_enter Tryz.func78, Tryz.ntmps78
 go_wp2_with fail
 go_loopw [5] (fun b wr => ∃ i : Nat, i ≤ l.length ∧ b = .int .i64 i ∧ Hid (Below w.heap.size w wr) ∧ Hid (ag wr w.heap.size [.int .i64 f.shift, .int .i64 f.save, af f.name, .slice ua l.length ucap]) ∧ Hid (ag wr (w.heap.size + 1) [.int .i64 f.shift, .int .i64 f.save, af f.name, .slice va l.length vcap])) (fun b _ => l.length - (intOf b).toNat)
 case atStart => exact ⟨0, by omega, rfl, by rw [← HW.out] at B1; exact B1, by rw [← HW.out] at X1; exact X1, by rw [← HW.out] at Y1; exact Y1⟩
 case round =>
  clear HW B1 X1 Y1
  obtain ⟨i, hi, rfl, B0, X0, Y0⟩ := hrel
  obtain ⟨x3, f3⟩ := aa X0.out 3 rfl
  obtain ⟨y3, g3⟩ := aa Y0.out 3 rfl
  have sx := X0.out.1
  have sy := Y0.out.1
  by_cases hlt : i < l.length
  ·obtain ⟨c, hn⟩ : ∃ c, l[i]? = some c := ⟨_, q4G hlt⟩
   obtain ⟨ub, uo, _, e1, ul, u0, u1, u2, u3⟩ := qK (aO HU.out B0.out) hn
   obtain ⟨vb, vo, _, e2, vl, v0, v1, v2, v3⟩ := qK (aO HV.out B0.out) hn
   simp only [Value.slice.injEq] at e1 e2
   obtain ⟨rfl, _, rfl⟩ := e1
   obtain ⟨rfl, _, rfl⟩ := e2
   clear hn
   go_wp2_with fail
   go_quiet (fail)
   go_wp2
   go_roundw
   case rel => exact ⟨i + 1, by omega, by go_num, below_drewN B0.out _, X0.out, Y0.out⟩
   case measure => simp [intOf]; omega
  ·go_wp2
   go_ret
   exact ⟨rfl, B0.out⟩
end
section
open Go.RowKit

/- what is wrong with a change, behind one -/
def EU (was : Tb.Lc) (p : Int) (c : Tb.Cg) : Int := if Tb.mq c.at_ = false then 3 else if c.at_ ≤ p then 4 else if Tb.aI c.lc ≠ 0 then Tb.aI c.lc else if c.lc = was then 4 else 0
theorem Oc (w : World) (a b : List Value) (t : TypeId) {V : World} (hV : (w.alloc (.cells a.toArray t)).alloc (.cells b.toArray t) = V) :
  ag V w.heap.size a ∧ ag V (w.heap.size + 1) b ∧ Below w.heap.size w V := by
 subst hV
 refine ⟨aH (aC _ _ _) _, ?_, ((q4B _ _).alloc (Nat.le_refl _) _).alloc (by simp) _⟩
 have := aC (w.alloc (.cells a.toArray t)) b t
 simpa using this
theorem xy (p : Int) (o : Tb.Lc) (c : Tb.Cg) (w : World) (hn : c.lc.name.length ≤ maxLen) :
  Calls Tryz.prog 74 #[cgV ⟨p, o⟩, cgV c] w fun e w' => e = .returned (.int .i64 (EU o p c)) ∧ Below w.heap.size w w' := by
 obtain ⟨ca, cl⟩ := c
 obtain ⟨R, hR⟩ : ∃ R, EU o p ⟨ca, cl⟩ = R := ⟨_, rfl⟩
 rw [hR]
 have HR : Hid (R = if Tb.mq ca = false then 3 else if ca ≤ p then 4 else if Tb.aI cl ≠ 0 then Tb.aI cl else if cl = o then 4 else 0) := by show _ = _; rw [← hR]; rfl
 have HN : Hid (cl.name.length ≤ maxLen) := hn
 clear hR hn
 obtain ⟨V, hV⟩ : ∃ V, (w.alloc (.cells (bB ⟨p, o⟩).toArray 86)).alloc (.cells (bB ⟨ca, cl⟩).toArray 86) = V := ⟨_, rfl⟩
 obtain ⟨X, Y, B⟩ := Oc w _ _ _ hV
 have HX := hid X
 have HY := hid Y
 have HB := hid B
 have hV' : (w.alloc (.cells #[.int .i64 p, .int .i64 o.shift, .int .i64 o.save, .string ⟨o.name.toArray⟩] 86)).alloc (.cells #[.int .i64 ca, .int .i64 cl.shift, .int .i64 cl.save, .string ⟨cl.name.toArray⟩] 86) = V := hV
 have HV := hid hV'
 clear X Y B hV hV'
 obtain ⟨T, hT⟩ : ∃ T, Tb.mq ca = T := ⟨_, rfl⟩
 have HT := hid hT
 clear hT
 cases T
 case false =>
  have H2 : Hid (R = 3) := by show _ = _; rw [HR.out, if_pos HT.out]
  clear HR
  go_enter Tryz.func74, Tryz.ntmps74
  go_wp2_with (go_at_call 47; refine (kH _ _ HT.out).mono ?_; rintro e w1 ⟨rfl, rfl⟩)
  go_ret
  exact ⟨ai (by rw [H2.out]), by rw [HV.out]; exact HB.out⟩
 by_cases hp : ca ≤ p
 ·have H2 : Hid (R = 4) := by show _ = _; rw [HR.out, if_neg (by simp [HT.out]), if_pos hp]
  clear HR
  go_enter Tryz.func74, Tryz.ntmps74
  go_wp2_with (go_at_call 47; refine (kH _ _ HT.out).mono ?_; rintro e w1 ⟨rfl, rfl⟩)
  go_ret
  exact ⟨ai (by rw [H2.out]), by rw [HV.out]; exact HB.out⟩
 have HR2 : Hid (R = if Tb.aI cl ≠ 0 then Tb.aI cl else if cl = o then 4 else 0) := by show _ = _; rw [HR.out, if_neg (by simp [HT.out]), if_neg hp]
 clear HR
 go_enter Tryz.func74, Tryz.ntmps74
 go_wp2_with (go_at_call 47; refine (kH _ _ HT.out).mono ?_; rintro e w1 ⟨rfl, rfl⟩)
 rw [HV.out]
 clear HV HT
 refine (oZ cl _ HN.out).mono ?_
 rintro e w5 ⟨rfl, hb5⟩
 have XU := hid (ah HX.out hb5)
 have YU := hid (ah HY.out hb5)
 have BU : Hid (Below w.heap.size w w5) := HB.out.trans (hb5.mono HB.out.size)
 clear HX HY HB hb5 HN
 obtain ⟨L, hL⟩ : ∃ L, Tb.aI cl = L := ⟨_, rfl⟩
 rw [hL] at HR2 ⊢
 clear hL
 by_cases h0 : L = 0
 case neg =>
  have H2 : Hid (R = L) := by show _ = _; rw [HR2.out, if_pos h0]
  have h0' : (L != 0) = true := by simp [h0]
  clear HR2
  go_wp2
  go_ret
  exact ⟨ai (by rw [H2.out]), BU.out⟩
 subst h0
 have HR3 : Hid (R = if cl = o then 4 else 0) := by show _ = _; rw [HR2.out]; simp
 clear HR2
 obtain ⟨x1, f1⟩ := aa XU.out 1 rfl
 obtain ⟨x2, f2⟩ := aa XU.out 2 rfl
 obtain ⟨x3, f3⟩ := aa XU.out 3 rfl
 obtain ⟨y1, g1⟩ := aa YU.out 1 rfl
 obtain ⟨y2, g2⟩ := aa YU.out 2 rfl
 obtain ⟨y3, g3⟩ := aa YU.out 3 rfl
 have sx := XU.out.1
 have sy := YU.out.1
 by_cases hE : cl = o
 ·have H2 : Hid (R = 4) := by show _ = _; rw [HR3.out, if_pos hE]
  clear HR3
  subst hE
  go_wp2
  go_ret
  exact ⟨ai (by rw [H2.out]), BU.out⟩
 ·have H2 : Hid (R = 0) := by show _ = _; rw [HR3.out, if_neg hE]
  clear HR3
  obtain ⟨cs, cv, cn⟩ := cl
  obtain ⟨os, ov, on⟩ := o
  dsimp only at x1 x2 x3 y1 y2 y3 ⊢
  have h3 : ¬ cs = os ∨ (cs = os ∧ ¬ cv = ov) ∨ (cs = os ∧ cv = ov ∧ ¬ cn = on) := by
   by_cases q1 : cs = os <;> by_cases q2 : cv = ov <;> by_cases q3 : cn = on <;> simp_all
  clear hE
  rcases h3 with h3 | ⟨rfl, h3⟩ | ⟨rfl, rfl, h3⟩
  all_goals
   go_wp2
   go_ret
   exact ⟨ai (by rw [H2.out]), BU.out⟩

/- the time ahead: of the first change, a second ahead of all -/
def JP : Option Int → Int
 | none => -62135596801
 | some p => p
theorem Rx {was : Tb.Lc} {prev : Option Int} {c : Tb.Cg} {r : List Tb.Cg} : Tb.goE was prev (c :: r) = if EU was (JP prev) c ≠ 0 then EU was (JP prev) c else Tb.goE c.lc (some c.at_) r := by
 rw [Tb.FB]
 unfold EU Tb.mq
 cases hT : Sx.inB c.at_ Tb.least Tb.most
 ·simp
 ·have hl : Tb.late prev c.at_ = decide (c.at_ ≤ JP prev) := by
   cases prev with
   | none =>
     have : (-62135596800 : Int) ≤ c.at_ := by simp [Sx.inB] at hT; exact hT.1
     have h2 : ¬ c.at_ ≤ -62135596801 := by omega
     simp [Tb.late, JP, h2]
   | some p => rfl
  rw [hl]
  by_cases h1 : c.at_ ≤ JP prev
  ·simp [h1]
  ·by_cases h2 : Tb.aI c.lc = 0
   ·by_cases h3 : c.lc = was
    ·have h2' : Tb.aI was = 0 := h3 ▸ h2
     simp [h1, h2', h3]
    ·simp [h1, h2, h3]
   ·simp [h1, h2]
end
section
open Go.RowKit

def zN (ch : List Tb.Cg) : Nat → Option Int
 | 0 => none
 | k + 1 => (ch[k]?).map (·.at_)
end
namespace Tb

theorem zQ : ∀ (l : List Cg) (c : Cg), xx (c :: l) → ∀ d ∈ l, c.at_ < d.at_
 | [], _, _, _, h => by simp at h
 | a :: r, c, h, d, hd => by
   obtain ⟨h1, h2⟩ := h
   simp at hd
   rcases hd with rfl | hd
   ·exact h1
   ·exact Int.lt_trans h1 (zQ r a h2 d hd)
theorem vQ {c : Cg} {l : List Cg} (h : xx (c :: l)) : xx l := by
 cases l with
 | nil => trivial
 | cons d r => exact h.2
/- what is left to gather, from a change on -/
def left (n f s : Int) (ch : List Cg) (i : Nat) : List Int := if i ≤ ch.length then spans n f s (ch.drop i) else []
end Tb
section
open Go.RowKit

/- a table that can be handed on: its texts have a length -/
structure Tb.EG (t : Tb.Tbl) : Prop where
 ch : t.ch.length ≤ maxLen
 first : t.first.name.length ≤ maxLen
 names : ∀ c ∈ t.ch, c.lc.name.length ≤ maxLen
end
section
open Go.RowKit

theorem zI (t : Tb.Tbl) (v : Value) (w : World) (h : mF w v t.ch) (hS : Tb.EG t) :
  Calls Tryz.prog 31 #[tbV t.first v] w fun e w' => e = .returned (.int .i64 (Tb.oD t)) ∧ Below w.heap.size w w' := by
 obtain ⟨hl, hf, hn⟩ := hS
 obtain ⟨f, ch⟩ := t
 obtain ⟨R, hR⟩ : ∃ R, Tb.oD ⟨f, ch⟩ = R := ⟨_, rfl⟩
 rw [hR]
 have HR : Hid (R = if 1000 < ch.length then 2 else if Tb.aI f ≠ 0 then Tb.aI f else Tb.goE f none ch) := by show _ = _; rw [← hR]; rfl
 clear hR
 simp only at h hl hf hn
 have h' := h
 obtain ⟨a, cap, rfl, hc⟩ := h'
 have H := hid h
 have HN := hid hn
 have HF := hid hf
 clear h hc hn hf
 unfold maxLen at hl
 by_cases h1000 : 1000 < ch.length
 ·have HR2 : Hid (R = 2) := by show _ = _; rw [HR.out, if_pos h1000]
  go_enter Tryz.func31, Tryz.ntmps31
  go_wp2_with fail
  go_ret
  exact ⟨ai (by rw [HR2.out]), (q4B _ _).alloc (Nat.le_refl _) _⟩
 have HR2 : Hid (R = if Tb.aI f ≠ 0 then Tb.aI f else Tb.goE f none ch) := by show _ = _; rw [HR.out, if_neg h1000]
 clear HR hl
 go_enter Tryz.func31, Tryz.ntmps31
 go_wp2_with fail
 refine (oZ f _ HF.out).mono ?_
 rintro e w1 ⟨rfl, hb1⟩
 obtain ⟨L, hL⟩ : ∃ L, Tb.aI f = L := ⟨_, rfl⟩
 rw [hL] at HR2
 rw [hL]
 clear hL
 have X1 : Hid (ag w1 w.heap.size (tbL f (.slice a ch.length cap))) := ah (aC w (tbL f (.slice a ch.length cap)) 76) hb1
 have B1 : Hid (Below w.heap.size w w1) := ((q4B w.heap.size w).alloc (Nat.le_refl _) _).trans (hb1.mono (by simp))
 clear hb1
 by_cases h0 : L = 0
 case neg =>
  have HR3 : Hid (R = L) := by show _ = _; rw [HR2.out, if_pos h0]
  have h0' : (L != 0) = true := by simp [h0]
  go_wp2
  go_ret
  exact ⟨ai (by rw [HR3.out]), B1.out⟩
 have HR3 : Hid (R = Tb.goE f (zN ch 0) (ch.drop 0)) := by show _ = _; rw [HR2.out, if_neg (by simp [h0])]; rfl
 subst h0
 clear HR2
 obtain ⟨⟨x0, f0⟩, ⟨x1, f1⟩, ⟨x2, f2⟩, ⟨x3, f3⟩, sx⟩ := cp4 X1.out
 go_wp2_with fail
 obtain ⟨M, hM⟩ : ∃ M, w1.heap.size = M := ⟨_, rfl⟩
 have X2 := hid (aH X1.out (.cells (bB ⟨-62135596801, f⟩).toArray 86))
 have B2 := hid (Below.alloc B1.out B1.out.size (.cells (bB ⟨-62135596801, f⟩).toArray 86))
 have Y2 : Hid (ag (w1.alloc (.cells (bB ⟨-62135596801, f⟩).toArray 86)) M (bB ⟨-62135596801, f⟩)) := by rw [← hM]; exact aC _ _ _
 have hNM : ¬ w.heap.size = M := by omega
 have hNM' : w.heap.size < M := by omega
 rw [hM]
 clear X1 B1 x0 f0 x1 f1 x2 f2 x3 f3 sx hM
 go_loopw [24] (fun b wr => ∃ (i : Nat) (p : Int) (o : Tb.Lc), i ≤ ch.length ∧ b = .int .i64 i ∧ Hid (R = Tb.goE o (zN ch i) (ch.drop i)) ∧ Hid (p = JP (zN ch i)) ∧ Hid (Below w.heap.size w wr) ∧ Hid (ag wr w.heap.size (tbL f (.slice a ch.length cap))) ∧ Hid (ag wr M (bB ⟨p, o⟩))) (fun b _ => ch.length - (intOf b).toNat)
 case atStart => exact ⟨0, -62135596801, f, by omega, rfl, HR3, rfl, B2, X2, Y2⟩
 case round =>
  clear B2 X2 Y2 HR3
  obtain ⟨i, p, o, hi, rfl, HR, HP, B0, X0, Y0⟩ := hrel
  by_cases hlt : i < ch.length
  case neg =>
   have HR2 : Hid (R = 0) := by show _ = _; rw [HR.out, List.drop_eq_nil_of_le (by omega)]; rfl
   go_wp2
   go_ret
   exact ⟨ai (by rw [HR2.out]), B0.out⟩
  obtain ⟨c, hcc⟩ : ∃ c, ch[i]? = some c := ⟨_, q4G hlt⟩
  obtain ⟨bb, bo, bcap, e, hbb, c0, c1, c2, c3⟩ := qK (aO H.out B0.out) hcc
  simp only [Value.slice.injEq] at e
  obtain ⟨rfl, _, rfl⟩ := e
  have HC := hid hcc
  have HR1 : Hid (R = if EU o p c ≠ 0 then EU o p c else Tb.goE c.lc (some c.at_) (ch.drop (i + 1))) := by show _ = _; rw [HR.out, Tb.eD hcc, Rx, ← HP.out]
  clear hcc HR HP
  have BV := hid (Below.alloc B0.out B0.out.size (.cells (bB c).toArray 86))
  have XV := hid (aH X0.out (.cells (bB c).toArray 86))
  have YV := hid (aH Y0.out (.cells (bB c).toArray 86))
  have ZV := hid (aC wr (bB c) 86)
  have sx := X0.out.1
  have sy := Y0.out.1
  obtain ⟨⟨y0, g0⟩, ⟨y1, g1⟩, ⟨y2, g2⟩, ⟨y3, g3⟩, -⟩ := cp4 Y0.out
  obtain ⟨C, hC⟩ : ∃ C, wr.heap.size = C := ⟨_, rfl⟩
  have hMC : M < C := by omega
  have hNC : w.heap.size < C := by omega
  rw [hC] at ZV
  go_wp2_with fail
  refine (xy p o c _ (HN.out c (List.mem_of_getElem? HC.out))).mono ?_
  rintro e w5 ⟨rfl, hb5⟩
  have XU := hid (ah XV.out hb5)
  have YU := hid (ah YV.out hb5)
  have ZU := hid (ah ZV.out hb5)
  have BU : Hid (Below w.heap.size w w5) := BV.out.trans (hb5.mono BV.out.size)
  clear XV YV ZV BV hb5 sx sy y0 g0 y1 g1 y2 g2 y3 g3 B0 X0 Y0 c0 c1 c2 c3 hbb hC
  obtain ⟨L, hL⟩ : ∃ L, EU o p c = L := ⟨_, rfl⟩
  rw [hL] at HR1 ⊢
  clear hL
  by_cases h0 : L = 0
  case neg =>
   have HR2 : Hid (R = L) := by show _ = _; rw [HR1.out, if_pos h0]
   have h0' : (L != 0) = true := by simp [h0]
   clear HR1
   go_wp2
   go_ret
   exact ⟨ai (by rw [HR2.out]), BU.out⟩
  subst h0
  have HR2 : Hid (R = Tb.goE c.lc (some c.at_) (ch.drop (i + 1))) := by show _ = _; rw [HR1.out]; simp
  clear HR1
  obtain ⟨⟨z0, k0⟩, ⟨z1, k1⟩, ⟨z2, k2⟩, ⟨z3, k3⟩, -⟩ := cp4 ZU.out
  obtain ⟨⟨y0, g0⟩, ⟨y1, g1⟩, ⟨y2, g2⟩, ⟨y3, g3⟩, -⟩ := cp4 YU.out
  have sz := ZU.out.1
  have sx := XU.out.1
  have sy := YU.out.1
  go_wp2
  go_roundw
  case rel =>
   refine ⟨i + 1, c.at_, c.lc, by omega, by go_num, ?_, ?_, ?_, ?_, ?_⟩
   ·show R = _
    rw [HR2.out]
    congr 1
    simp [zN, HC.out]
   ·show _ = _
    simp [zN, HC.out, JP]
   ·exact aB (aB (aB (aB BU.out (by omega) _) (by omega) _) (by omega) _) (by omega) _
   ·exact bz (bz (bz (bz XU.out (by omega)) (by omega)) (by omega)) (by omega)
   ·exact aS (aS (aS (aS YU.out 0 _ (by simp [bB])) 1 _ (by simp [bB])) 2 _ (by simp [bB])) 3 _ (by simp [bB])
  case measure => simp [intOf]; omega
end
end Go.Proofs.YtkhlkohlccndgaaGreat
namespace Go.Proofs
open Go.Shelf
def Tryz.zk : Go.Shelf.Ren := ⟨fun | 16 => 136 | n => n, fun | 3 => 3 | 35 => 94 | 4 => 4 | 38 => 230 | n => n, fun | n => n⟩
theorem Tryz.Jm : Go.Proofs.SlLaysO.n16 Tryz.prog Tryz.zk := {
 mixed := by kernel_rfl
 f16 := Tryz.func136.trans (congrArg some (by kernel_rfl))
 t3 := Tryz.underlying3
 a3 := Tryz.isAgg3
 z3 := Tryz.sizeOf3
 v3 := Tryz.zeroValue3
 t4 := Tryz.underlying4
 a4 := Tryz.isAgg4
 z4 := Tryz.sizeOf4
 v4 := Tryz.zeroValue4
 t35 := Tryz.underlying94
 a35 := Tryz.isAgg94
 z35 := Tryz.sizeOf94
 v35 := Tryz.zeroValue94
 t38 := Tryz.underlying230
 a38 := Tryz.isAgg230
 z38 := Tryz.sizeOf230
 v38 := Tryz.zeroValue230 }
end Go.Proofs
namespace Go.Proofs.YtkhlkohlccndgaaGreat
section
open Go.RowKit Go.Lib Go.Sort

/- counting over places is counting over what lies there -/
theorem AA {α : Type} (l : List α) (f : Option α → Bool) : (List.range l.length).countP (fun i => f l[i]?) = l.countP (fun c => f (some c)) := by
 have h : (List.range l.length).map (fun i => l[i]?) = l.map some := by
  apply List.ext_getElem
  ·simp
  ·intro i h1 h2
   simp at h1
   simp [h1]
 have e : (List.range l.length).countP (fun i => f l[i]?) = ((List.range l.length).map (fun i => l[i]?)).countP f := by rw [List.countP_map]; rfl
 rw [e, h, List.countP_map]
 rfl
namespace Tb
/- how many changes are no later than a time -/
def cnt (n : Int) (l : List Cg) : Nat := l.countP (fun c => decide (c.at_ ≤ n))
theorem OC {n : Int} : ∀ {l : List Cg} {c : Cg}, xx (c :: l) → n < c.at_ → cnt n (c :: l) = 0 := by
 intro l c hr hc
 unfold cnt
 rw [List.countP_eq_zero]
 intro d hd
 simp at hd
 rcases hd with rfl | hd
 ·simp; exact hc
 ·have := zQ l c hr d hd
  simp; omega
theorem qH (n : Int) : ∀ (l : List Cg) (o : Lc), xx l → iY o n l = (match cnt n l with | 0 => o | k + 1 => match l[k]? with | some c => c.lc | none => o)
 | [], o, _ => rfl
 | c :: r, o, hr => by
   simp only [iY]
   by_cases hc : c.at_ ≤ n
   ·rw [if_pos hc, qH n r c.lc (vQ hr)]
    have e : cnt n (c :: r) = cnt n r + 1 := by unfold cnt; rw [List.countP_cons]; simp [hc]
    rw [e]
    cases hk : cnt n r with
    | zero => rfl
    | succ k =>
      have hl : k < r.length := by have : cnt n r ≤ r.length := List.countP_le_length; omega
      simp [hl]
   ·have z := OC (n := n) hr (by omega)
    rw [z, if_neg hc, qH n r o (vQ hr)]
    have e : cnt n (c :: r) = cnt n r := by unfold cnt; rw [List.countP_cons]; simp [hc]
    rw [← e, z]
theorem MJ {t : Tbl} {n : Int} (hr : xx t.ch) (h : cnt n t.ch = 0) : look t n = t.first := by unfold look; rw [qH n _ _ hr, h]
theorem MI {t : Tbl} {n : Int} {k : Nat} {c : Cg} (hr : xx t.ch) (h : cnt n t.ch = k + 1) (hc : t.ch[k]? = some c) : look t n = c.lc := by unfold look; rw [qH n _ _ hr, h]; simp only [hc]
theorem Tp (n : Int) (l : List Cg) : cnt n l ≤ l.length := List.countP_le_length
/- is the change at a place later than a time? -/
def uk (n : Int) : Option Cg → Bool
 | some c => decide (n < c.at_)
 | none => true
theorem GK : ∀ {l : List Cg} {i j : Nat} {c d : Cg}, xx l → i ≤ j → l[i]? = some c → l[j]? = some d → c.at_ ≤ d.at_
 | [], i, j, c, d, _, _, h, _ => by simp at h
 | a :: r, 0, 0, c, d, _, _, h1, h2 => by rw [h1] at h2; cases h2; exact Int.le_refl _
 | a :: r, 0, j + 1, c, d, hr, _, h1, h2 => by
   simp at h1 h2; subst h1
   exact Int.le_of_lt (zQ r a hr d (List.mem_of_getElem? h2))
 | a :: r, i + 1, 0, c, d, _, h, _, _ => by omega
 | a :: r, i + 1, j + 1, c, d, hr, h, h1, h2 => GK (vQ hr) (Nat.le_of_succ_le_succ h) (by simpa using h1) (by simpa using h2)
/- what was told, by how many changes were no later -/
def Om (R f : Lc) (ch : List Cg) : Nat → Prop
 | 0 => R = f
 | j + 1 => ∃ c, ch[j]? = some c ∧ R = c.lc
end Tb

theorem Mw (N M : Nat) (f : Tb.Lc) (a : Option Addr) (b o cap len i : Nat) (c n : Int) (W : World) (hi : i < len) (ha : a = some ⟨b, o, none⟩)
  (ht : W.cell? ⟨N, 3, none⟩ = some (.slice a len cap)) (hn : W.cell? ⟨M, 0, none⟩ = some (.int .i64 n)) (hc : W.cell? ⟨b, o + i * 4, none⟩ = some (.int .i64 c)) :
  Calls Tryz.prog 137 (#[.int .i64 i] ++ #[.pointer (some ⟨N, 0, none⟩), .pointer (some ⟨M, 0, none⟩)]) W fun e w' => e = .returned (.bool (decide (n < c))) ∧ ∃ q, w' = W.drewN q := by
 subst ha
 have hiz : (i : Int) < (len : Int) := by omega
 go_enter Tryz.func137, Tryz.ntmps137
 go_wp2
 go_region
 all_goals go_wp2
 all_goals go_ret
 all_goals exact ⟨by first | rfl | simp, 1, rfl⟩

theorem xC (t : Tb.Tbl) (v : Value) (n : Int) (w : World) (h : mF w v t.ch) (hr : Tb.xx t.ch) (hl : t.ch.length ≤ 1000) :
  Calls Tryz.prog 75 #[tbV t.first v, .int .i64 n] w fun e w' => e = .returned (lcV (Tb.look t n)) ∧ Below w.heap.size w w' := by
 obtain ⟨f, ch⟩ := t
 simp only at h hr hl
 have h' := h
 obtain ⟨a, cap, rfl, hc⟩ := h'
 clear hc
 obtain ⟨W0, hW⟩ : ∃ W0, ((w.alloc (.cells (tbL f (.slice a ch.length cap)).toArray 76)).alloc (.cells [Value.int .i64 n].toArray 3)).alloc (.cells (lcL lc0).toArray 31) = W0 := ⟨_, rfl⟩
 have B0 : Below w.heap.size w W0 := by
  rw [← hW]
  exact (((q4B _ _).alloc (Nat.le_refl _) _).alloc (by simp) _).alloc (by simp; omega) _
 have X0 : ag W0 w.heap.size (tbL f (.slice a ch.length cap)) := by rw [← hW]; exact aH (aH (aC _ _ _) _) _
 have A0 : ag W0 (w.heap.size + 1) [Value.int .i64 n] := by
  rw [← hW]
  have := aH (aC (w.alloc (.cells (tbL f (.slice a ch.length cap)).toArray 76)) [Value.int .i64 n] 3) (.cells (lcL lc0).toArray 31)
  simpa using this
 have Z0 : ag W0 (w.heap.size + 1 + 1) (lcL lc0) := by
  rw [← hW]
  have := aC ((w.alloc (.cells (tbL f (.slice a ch.length cap)).toArray 76)).alloc (.cells [Value.int .i64 n].toArray 3)) (lcL lc0) 31
  simpa using this
 have eg : ∀ args w, (callFunc 137 args).run Tryz.prog w = .ok (.enter 137 args) w := enters_of Tryz.func137 (by kernel_rfl) rfl
 have hS := Any.sort_Search Tryz.Jm 137 #[.pointer (some ⟨w.heap.size, 0, none⟩), .pointer (some ⟨w.heap.size + 1, 0, none⟩)] ch.length (fun i => Tb.uk n ch[i]?) W0 eg (by omega)
  (fun m os i hi => by
   obtain ⟨c, hcc⟩ : ∃ c, ch[i]? = some c := ⟨_, q4G hi⟩
   obtain ⟨b, o, cap', e, hb, c0, _⟩ := qK (aO h B0) hcc
   simp only [Value.slice.injEq] at e
   have := Mw w.heap.size (w.heap.size + 1) f a b o cap ch.length i c.at_ n (grow (W0.drewN m) os) hi e.1 (cell_grown X0.1 (aa X0 3 rfl).1 m os) (cell_grown A0.1 (aa A0 0 rfl).1 m os) (cell_grown hb c0 m os)
   rw [hcc]
   exact this.mono fun _ _ ⟨he, q, hq⟩ => ⟨he, q, #[], by rw [hq, grow_empty]⟩)
  (fun i j hij hj hp => by
   obtain ⟨c, hcc⟩ : ∃ c, ch[i]? = some c := ⟨_, q4G (by omega)⟩
   obtain ⟨d, hd⟩ : ∃ d, ch[j]? = some d := ⟨_, q4G hj⟩
   have q := Tb.GK hr hij hcc hd
   rw [hcc] at hp
   rw [hd]
   simp [Tb.uk] at hp ⊢
   omega)
 rw [AA ch (fun o => !Tb.uk n o), show ch.countP (fun c => !Tb.uk n (some c)) = Tb.cnt n ch from (by unfold Tb.cnt; congr 1; funext c; by_cases q : c.at_ ≤ n <;> simp [Tb.uk, q] <;> omega)] at hS
 obtain ⟨k, hk⟩ : ∃ k, Tb.cnt n ch = k := ⟨_, rfl⟩
 rw [hk] at hS
 have hS2 : Calls Tryz.prog 136 #[.int .i64 ch.length, .func (.func 137) #[] #[.pointer (some ⟨w.heap.size, 0, none⟩), .pointer (some ⟨w.heap.size + 1, 0, none⟩)]] W0 fun e w' => e = .returned (.int .i64 k) ∧ Below W0.heap.size W0 w' :=
  Calls.mono hS fun _ _ ⟨he, q, os, hq⟩ => ⟨he, by rw [hq]; exact below_grown_sl _ _ _ _ (Nat.le_refl _)⟩
 have hkl : k ≤ ch.length := by rw [← hk]; exact Tb.Tp _ _
 have HH := hid h
 have HX := hid X0
 have HZ := hid Z0
 have HB := hid B0
 have HW := hid hW
 obtain ⟨R, hR⟩ : ∃ R, Tb.look ⟨f, ch⟩ n = R := ⟨_, rfl⟩
 rw [hR]
 have HS := hid hS2
 have HK : Hid (Tb.Om R f ch k) := by
  show Tb.Om R f ch k
  clear HS hS2 hS
  cases k with
  | zero => exact hR.symm.trans (Tb.MJ (t := ⟨f, ch⟩) hr hk)
  | succ j =>
    obtain ⟨c, hcc⟩ : ∃ c, ch[j]? = some c := ⟨_, q4G (by omega)⟩
    exact ⟨c, hcc, hR.symm.trans (Tb.MI (t := ⟨f, ch⟩) hr hk hcc)⟩
 clear hS hS2 hk hr X0 Z0 B0 A0 hW hR eg h
 rw [← HW.out] at HS
 go_enter Tryz.func75, Tryz.ntmps75
 go_wp2_with fail
 refine HS.out.mono ?_
 rintro e w1 ⟨rfl, hb1⟩
 rw [HW.out] at hb1
 have XU := hid (ah HX.out hb1)
 have ZU := hid (ah HZ.out hb1)
 have BU : Hid (Below w.heap.size w w1) := HB.out.trans (hb1.mono HB.out.size)
 clear HS HX HZ HB HW hb1
 obtain ⟨⟨x0, f0⟩, ⟨x1, f1⟩, ⟨x2, f2⟩, ⟨x3, f3⟩, -⟩ := cp4 XU.out
 obtain ⟨⟨z0, g0⟩, ⟨z1, g1⟩, ⟨z2, g2⟩, -⟩ := cp3 ZU.out
 have sx := XU.out.1
 have sz := ZU.out.1
 cases k with
 | zero =>
   have HR : Hid (R = f) := HK.out
   clear HK
   go_wp2
   refine bodyPost_ret (v := lcV f) (by simp [results, Tryz.results75, go_sem, *]) rfl ⟨by rw [HR.out], ?_⟩
   exact aB (aB (aB BU.out (by omega) _) (by omega) _) (by omega) _
 | succ j =>
   obtain ⟨c, hcc, hR⟩ := HK.out
   obtain ⟨bb, bo, bcap, e, hbb, c0, c1, c2, c3⟩ := qK (aO HH.out BU.out) hcc
   simp only [Value.slice.injEq] at e
   obtain ⟨rfl, _, rfl⟩ := e
   have HR := hid hR
   clear HK hR hcc
   go_wp2
   refine bodyPost_ret (v := lcV c.lc) (by simp [results, Tryz.results75, go_sem, *]) rfl ⟨by rw [HR.out], ?_⟩
   exact aB (aB (aB BU.out (by omega) _) (by omega) _) (by omega) _

theorem uH {t : Tb.Tbl} (h : Tb.oD t = 0) : Tb.xx t.ch ∧ t.ch.length ≤ 1000 := by
 obtain ⟨g1, _, g3⟩ := Tb.Jb h
 exact ⟨(Tb.FC t.ch t.first none g3).1, g1⟩
/- what Look says is wrong -/
def Tb.qG (t : Tb.Tbl) (at_ : Int) : Int := if Tb.oD t ≠ 0 then Tb.oD t else if Tb.mq at_ = false then 3 else 0
def Tb.lookO (t : Tb.Tbl) (at_ : Int) : Tb.Lc := if Tb.qG t at_ = 0 then Tb.look t at_ else lc0
theorem Cn (t : Tb.Tbl) (v : Value) (n : Int) (w : World) (h : mF w v t.ch) (hS : Tb.EG t) :
  Calls Tryz.prog 32 #[tbV t.first v, .int .i64 n] w fun e w' => e = .returned (.tuple #[lcV (Tb.lookO t n), .int .i64 (Tb.qG t n)]) ∧ Below w.heap.size w w' := by
 have h' := h
 obtain ⟨a, cap, rfl, hc⟩ := h'
 clear hc
 obtain ⟨E, hE⟩ : ∃ E, Tb.oD t = E := ⟨_, rfl⟩
 obtain ⟨T, hT⟩ : ∃ T, Tb.mq n = T := ⟨_, rfl⟩
 have HC : Hid (∀ W, Below w.heap.size w W → Calls Tryz.prog 31 #[tbV t.first (.slice a t.ch.length cap)] W fun e w' => e = .returned (.int .i64 E) ∧ Below W.heap.size W w') := fun W hW => by
  rw [← hE]; exact zI t _ W (aO h hW) hS
 have HM : Hid (E = 0 → ∀ W, Below w.heap.size w W → Calls Tryz.prog 75 #[tbV t.first (.slice a t.ch.length cap), .int .i64 n] W fun e w' => e = .returned (lcV (Tb.look t n)) ∧ Below W.heap.size W w') := fun h0 W hW =>
  xC t _ n W (aO h hW) (uH (hE.trans h0)).1 (uH (hE.trans h0)).2
 have HT := hid hT
 obtain ⟨R, hR⟩ : ∃ R, Tb.qG t n = R := ⟨_, rfl⟩
 have HR : Hid (R = if E ≠ 0 then E else if T = false then 3 else 0) := by show _ = _; rw [← hR, Tb.qG, hE, hT]
 obtain ⟨K, hK⟩ : ∃ K, Tb.look t n = K := ⟨_, rfl⟩
 obtain ⟨Q, hQ⟩ : ∃ Q, Tb.lookO t n = Q := ⟨_, rfl⟩
 have HQ : Hid (Q = if R = 0 then K else lc0) := by show _ = _; rw [← hQ, Tb.lookO, hR, hK]
 rw [hR, hQ]
 rw [hK] at HM
 obtain ⟨f, ch⟩ := t
 dsimp only at HC HM ⊢
 clear hE hT hR h hS hK hQ
 obtain ⟨W0, hW⟩ : ∃ W0, (w.alloc (.cells (tbL f (.slice a ch.length cap)).toArray 76)).alloc (.cells (lcL lc0).toArray 31) = W0 := ⟨_, rfl⟩
 have B0 : Hid (Below w.heap.size w W0) := by
  rw [← hW]
  exact ((q4B _ _).alloc (Nat.le_refl _) _).alloc (by simp) _
 have X0 : Hid (ag W0 w.heap.size (tbL f (.slice a ch.length cap))) := by rw [← hW]; exact aH (aC _ _ _) _
 have Z0 : Hid (ag W0 (w.heap.size + 1) (lcL lc0)) := by
  rw [← hW]; show ag _ _ _
  have := aC (w.alloc (.cells (tbL f (.slice a ch.length cap)).toArray 76)) (lcL lc0) 31
  simpa using this
 have HS := hid (HC.out W0 B0.out)
 have HW := hid hW
 clear hW HC
 rw [← HW.out] at HS
 go_enter Tryz.func32, Tryz.ntmps32
 go_wp2_with fail
 refine HS.out.mono ?_
 rintro e w1 ⟨rfl, hb1⟩
 rw [HW.out] at hb1
 have XU := hid (ah X0.out hb1)
 have ZU := hid (ah Z0.out hb1)
 have BU : Hid (Below w.heap.size w w1) := B0.out.trans (hb1.mono B0.out.size)
 clear HS X0 Z0 B0 HW hb1
 obtain ⟨⟨x0, f0⟩, ⟨x1, f1⟩, ⟨x2, f2⟩, ⟨x3, f3⟩, -⟩ := cp4 XU.out
 obtain ⟨⟨z0, g0⟩, ⟨z1, g1⟩, ⟨z2, g2⟩, -⟩ := cp3 ZU.out
 have sx := XU.out.1
 have sz := ZU.out.1
 by_cases h0 : E = 0
 case neg =>
  have HR2 : Hid (R = E) := by show _ = _; rw [HR.out, if_pos h0]
  have h0' : (E != 0) = true := by simp [h0]
  have HR3 : Hid (Q = lc0) := by show _ = _; rw [HQ.out, HR2.out, if_neg h0]
  clear HR HM HQ
  go_wp2
  refine bodyPost_ret (v := .tuple #[lcV lc0, .int .i64 E]) (by simp [results, Tryz.results32, go_sem, lc0, *]) rfl ⟨by rw [HR3.out, HR2.out], ?_⟩
  exact aB (aB (aB BU.out (by omega) _) (by omega) _) (by omega) _
 have HM2 := hid (HM.out h0 w1 BU.out)
 subst h0
 clear HM
 cases T
 case false =>
  have HR2 : Hid (R = 3) := by show _ = _; rw [HR.out]; rfl
  have HR3 : Hid (Q = lc0) := by show _ = _; rw [HQ.out, HR2.out]; rfl
  clear HR HM2 HQ
  go_wp2_with (go_at_call 47; refine (kH _ _ HT.out).mono ?_; rintro e w2 ⟨rfl, rfl⟩)
  refine bodyPost_ret (v := .tuple #[lcV lc0, .int .i64 3]) (by simp [results, Tryz.results32, go_sem, lc0, *]) rfl ⟨by rw [HR3.out, HR2.out], ?_⟩
  exact aB (aB (aB BU.out (by omega) _) (by omega) _) (by omega) _
 case true =>
  have HR2 : Hid (R = 0) := by show _ = _; rw [HR.out]; rfl
  have HR3 : Hid (Q = K) := by show _ = _; rw [HQ.out, HR2.out]; rfl
  clear HR HQ
  go_wp2_with (go_at_call 47; refine (kH _ _ HT.out).mono ?_; rintro e w2 ⟨rfl, rfl⟩)
  refine HM2.out.mono ?_
  rintro e w5 ⟨rfl, hb5⟩
  have ZV := hid (ah ZU.out hb5)
  have BV : Hid (Below w.heap.size w w5) := BU.out.trans (hb5.mono BU.out.size)
  clear HM2 XU ZU BU hb5 x0 f0 x1 f1 x2 f2 x3 f3 z0 g0 z1 g1 z2 g2 sx sz
  obtain ⟨⟨z0, g0⟩, ⟨z1, g1⟩, ⟨z2, g2⟩, sz⟩ := cp3 ZV.out
  go_wp2
  refine bodyPost_ret (v := .tuple #[lcV K, .int .i64 0]) (by simp [results, Tryz.results32, go_sem, lc0, *]) rfl ⟨by rw [HR3.out, HR2.out], ?_⟩
  exact aB (aB (aB BV.out (by omega) _) (by omega) _) (by omega) _
end
end Go.Proofs.YtkhlkohlccndgaaGreat
