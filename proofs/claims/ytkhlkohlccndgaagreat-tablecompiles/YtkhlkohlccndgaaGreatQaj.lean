/- Part of the proof: Ec Rh. -/
import Derived.Test.YtkhlkohlccndgaaGreatQz
import Derived.Test.YtkhlkohlccndgaaGreatQai
import Derived.Test.YtkhlkohlccndgaaGreatQae
import Derived.Test.YtkhlkohlccndgaaGreatQad
import Derived.Test.YtkhlkohlccndgaaGreatQac
set_option linter.unusedVariables false
set_option linter.unusedSimpArgs false
set_option maxRecDepth 100000
set_option maxHeartbeats 16000000
namespace Go.Proofs.YtkhlkohlccndgaaGreat
section
open Go.RowKit
attribute [local go_sem] Oper.semAt_some
attribute [local go_sem ↓] Go.wp_at_zero Go.wp_at_succ

theorem xh (rs : List Sx.Rl) (rv : Value) (name : Tx.Bs) (shift : Int) (w : World) (h : bN w rv rs) (hs : ∀ r ∈ rs, r.name.length ≤ maxLen ∧ r.letter.length ≤ maxLen) :
  Calls Tryz.prog 59 #[rv, af name, .int .i64 shift] w (EI rs name shift w) := by
 obtain ⟨N, hN⟩ : ∃ N, w.heap.size = N := ⟨_, rfl⟩
 obtain ⟨ra, rcap, rfl⟩ := bQ h
 have RC := hid h
 have HS := hid hs
 have B : Hid (Below N w w) := q4B _ _
 by_cases m1 : 40 < rs.length
 case pos =>
  have hE := Sx.Ib (name := name) (shift := shift) m1
  have q : (40 : Int) < (rs.length : Int) := by omega
  go_enter Tryz.func59, Tryz.ntmps59
  go_wp2
  go_ret2
  exact qQ hE (by decide) (q4B _ _)
 have q40 : ¬ (40 : Int) < (rs.length : Int) := by omega
 have h40 : rs.length ≤ 40 := by omega
 obtain ⟨R, hR⟩ : ∃ R, Sx.eB ⟨rs, [], []⟩ = R := ⟨_, rfl⟩
 have H0 : Hid (R = Sx.orE (Sx.aA Sx.dz (rs.drop 0)) (Sx.orE 0 0)) := by show _ = _; rw [← hR]; exact Sx.sO m1
 have HR := hid hR
 clear m1 h hs hR
 go_enter Tryz.func59, Tryz.ntmps59
 go_wp2_with fail
 clear q40
 go_loopw [8] (fun a wr => ∃ i : Nat, i ≤ rs.length ∧ a = .int .i64 i ∧ Hid (Below N w wr) ∧ Hid (R = Sx.orE (Sx.aA Sx.dz (rs.drop i)) (Sx.orE 0 0))) (fun a _ => rs.length - (intOf a).toNat)
 case atStart => exact ⟨0, by omega, rfl, B, H0⟩
 case round =>
  clear B H0
  obtain ⟨k, hk, rfl, B, HK⟩ := hrel
  by_cases hlt : k < rs.length
  case pos =>
   obtain ⟨x, hx⟩ : ∃ x, rs[k]? = some x := ⟨_, q4G hlt⟩
   obtain ⟨rb, ro, e1, hrb, hc⟩ := aN (au RC.out (hN ▸ B.out)) hx
   subst e1
   obtain ⟨c0, c1, c2, c3, c4, c5, c6, c7, c8, c9, c10⟩ := oh hc
   have HX := hid hx
   have SX := hid (HS.out x (List.mem_of_getElem? hx)).2
   clear hc hx
   go_wp2_with fail
   refine (pW x _ SX.out).mono ?_
   rintro e w1 ⟨rfl, hb⟩
   have B1 : Hid (Below N w w1) := B.out.trans (hb.mono (hN ▸ B.out.size))
   clear hb B c0 c1 c2 c3 c4 c5 c6 c7 c8 c9 c10 hrb
   obtain ⟨E, hE⟩ : ∃ E, Sx.dz x = E := ⟨_, rfl⟩
   rw [hE]
   by_cases h0 : E = 0
   case neg =>
    have HR2 : R = E := by rw [← hE]; exact nu _ HX.out HK.out (by rw [hE]; exact h0)
    have hT := Sx.Kl (name := name) (shift := shift) (HR.out.trans HR2) h0
    have h0' : (E != 0) = true := by simp [h0]
    clear hE
    go_wp2
    go_ret2
    exact qQ hT h0 (hN ▸ B1.out)
   have HR2 : Hid (R = Sx.orE (Sx.aA Sx.dz (rs.drop (k + 1))) (Sx.orE 0 0)) := zy _ HX.out HK.out (by rw [hE]; exact h0)
   clear hE HK
   subst h0
   go_wp2
   go_roundw
   case rel => exact ⟨k + 1, by omega, by go_num, B1, HR2⟩
   case measure => simp [intOf]; omega
  have hR0 : R = 0 := DW _ hlt HK.out
  subst hR0
  have hS : Sx.eB ⟨rs, [], []⟩ = 0 := HR.out
  have OK := hid (Sx.GN hS)
  have HSR := hid hS
  obtain ⟨Y, hY⟩ : ∃ Y, Sx.inB shift (-64800) 64800 = Y := ⟨_, rfl⟩
  have HY := hid hY
  clear hY hS HK HR
  go_wp2_with fail
  refine (ak _ _ _ _ (mH HY.out)).mono ?_
  rintro e w1 ⟨rfl, hw⟩
  subst hw
  cases Y
  case false =>
   have hT := Sx.Ev (name := name) HSR.out HY.out
   go_wp2
   go_ret2
   exact qQ hT (by decide) (hN ▸ B.out)
  have hsh : -64800 ≤ shift ∧ shift ≤ 64800 := by have := HY.out; simpa [Sx.inB] using this
  clear hlt hk
  go_wp2_with fail
  go_loopw [10, 11, 12] (fun th al yv wr => ∃ (k : Nat) (P : List Sx.Trn), k ≤ 201 ∧ yv = .int .i64 (1900 + (k : Int)) ∧ th = .bool (Sx.kR rs name k 0) ∧ P.length ≤ k * 40 ∧ Hid (P.Perm (Sx.jl rs name k)) ∧ Hid (Sx.xX P) ∧ Hid (OwnTrn wr N al P) ∧ Hid (Below N w wr) ∧ (P = [] → al = .slice none 0 0)) (fun _ _ yv _ => (2101 - intOf yv).toNat)
  case atStart => exact ⟨0, [], by omega, rfl, rfl, by simp, .refl _, .nil, zz _ _, B, fun _ => rfl⟩
  case round =>
   clear B
   obtain ⟨k, P, hk, rfl, rfl, hP, PE, SO, OW, B, hnil⟩ := hrel
   by_cases hk2 : k = 201
   case pos =>
    subst hk2
    rw [show (1900 + ((201 : Nat) : Int)) = 2101 from rfl]
    have IO : Sx.Dh rs name P := ⟨(PE.out.map _).trans (Sx.KF name OK.out), Sx.J8 SO.out⟩
    have hTE := Sx.Eu (shift := shift) HSR.out HY.out IO
    obtain ⟨TH, hTH⟩ : ∃ b, (rs.any fun r => r.name == name) = b := ⟨_, rfl⟩
    have e0 : Sx.kR rs name 201 0 = TH := by rw [← hTH]; rfl
    rw [e0]
    rw [hTH] at hTE
    have HTE := hid hTE
    have HIO := hid IO
    have HOKP : Hid (∀ p ∈ P, Sx.fV p.2 ∧ -3456000000 ≤ p.1 ∧ p.1 ≤ 5184172800) := fun p hp => by
     obtain ⟨h1, y, h2, h3, h4⟩ := Sx.MO (Nat.le_refl _) (PE.out.mem_iff.1 hp)
     have ok := OK.out _ h1
     have on := (Sx.uA ok h2 h3).2
     have ab := ok.at_
     exact ⟨ok, by omega, by omega⟩
    obtain ⟨al, acap, rfl⟩ := aF OW.out
    clear hTE IO e0 hTH hnil PE SO hk
    cases TH
    case false =>
     have hT := HTE.out
     rw [if_pos rfl] at hT
     go_wp2
     go_ret2
     exact qQ hT (by decide) (hN ▸ B.out)
    have hT : Hid (Sx.aY rs name shift = if Sx.apart (P.map Sx.j6) = false then 4 else if 1000 < P.length then 2 else 0) := by have := HTE.out; rw [if_neg (by simp)] at this; exact this
    obtain ⟨Q, hQ⟩ : ∃ Q, P.map Sx.j6 = Q := ⟨_, rfl⟩
    have hQg : Hid (∀ (j : Nat) (p : Sx.Trn), P[j]? = some p → Q[j]? = some (Sx.j6 p)) := fun j p hj => by rw [← hQ, List.getElem?_map, hj]; rfl
    have hQl : Q.length = P.length := by rw [← hQ, List.length_map]
    have HQ := hid hQ
    rw [hQ] at hT
    obtain ⟨i0, hi0, hz0, hz1, hz2⟩ := info_parts Tryz.TP
    have hP8 : P.length ≤ 8040 := by omega
    clear HTE hQ hP
    go_wp2_with fail
    go_loopw [18, 19] (fun ov iv wr => ∃ (i : Nat) (out : List Sx.Tm), i ≤ P.length ∧ iv = .int .i64 i ∧ out.length = i ∧ Hid (out = Sx.bV shift 0 (Q.take i)) ∧ Hid (∀ (j : Nat) (a b : Sx.Tn), j + 1 < i → Q[j]? = some a → Q[j + 1]? = some b → 172800 ≤ b.stands - a.stands) ∧ Hid (oQ wr N ov out) ∧ Hid (OwnTrn wr N (.slice al P.length acap) P) ∧ Hid (Below N w wr)) (fun _ iv _ => P.length - (intOf iv).toNat)
    case atStart => exact ⟨0, [], Nat.zero_le _, rfl, rfl, by show _ = _; rw [List.take_zero]; rfl, fun j a b h => absurd h (by omega), vM _ _, OW, B⟩
    case round =>
     clear OW B
     obtain ⟨i, out, hi, rfl, hol, HO, HA, OT, OW, B⟩ := hrel
     obtain ⟨ol, ocap, rfl⟩ := aF OT.out
     by_cases hlt : i < P.length
     case neg =>
      have e : i = P.length := by omega
      subst e
      have ha : Sx.apart Q = true := Sx.Ow fun j a b h1 h2 => HA.out j a b (by have := (q4L.1 h2).1; omega) h1 h2
      have hT2 : Sx.aY rs name shift = if 1000 < P.length then 2 else 0 := by have := hT.out; rw [if_neg (by simp [ha])] at this; exact this
      have q : ¬ (P.length : Int) < (P.length : Int) := by omega
      rw [hol]
      clear hlt hT HA
      by_cases h1000 : 1000 < P.length
      ·rw [if_pos h1000] at hT2
       have q2 : (1000 : Int) < (P.length : Int) := by omega
       go_wp2
       go_ret2
       exact qQ hT2 (by decide) (hN ▸ B.out)
      ·rw [if_neg h1000] at hT2
       have q2 : ¬ (1000 : Int) < (P.length : Int) := by omega
       have hout : Sx.times rs name shift = out := by
        have h3 := Sx.Ic HIO.out (by rw [HQ.out]; exact ha) hT2
        rw [h3, HO.out, HQ.out, ← hQl, List.take_length]
       go_wp2
       go_ret2
       exact SE hT2 hout (hN ▸ (hol ▸ OT.out)) (hN ▸ B.out)
     obtain ⟨p, hp⟩ : ∃ p, P[i]? = some p := ⟨_, q4G hlt⟩
     obtain ⟨okp, pb1, pb2⟩ := HOKP.out p (List.mem_of_getElem? hp)
     have hcl := okp.clock
     have hsv := okp.save
     have hqi := hQg.out i p hp
     have hQt : Hid (Sx.bV shift 0 (Q.take (i + 1)) = Sx.bV shift 0 (Q.take i) ++ [Sx.dX shift (Sx.prev 0 Q i) (Sx.j6 p)]) := by
      show _ = _
      rw [List.take_add_one, hqi, Option.toList_some, Sx.qm]
      have hl : (Q.take i).length = i := by rw [List.length_take]; omega
      rw [hl]
      congr 3
      cases i with
      | zero => rfl
      | succ j =>
        show (((Q.take (j + 1)) ++ [Sx.j6 p])[j]?.map Sx.Tn.save).getD 0 = ((Q[j]?).map Sx.Tn.save).getD 0
        rw [List.getElem?_append_left (by omega), List.getElem?_take, if_pos (by omega)]
     have RP := qI OW.out
     obtain ⟨gb, go, e1, hgb, hc⟩ := aN RP hp
     subst e1
     have t0 : wr.cell? ⟨gb, go + i * 12, none⟩ = some (.int .i64 p.1) := by have := hc 0 _ rfl; simpa using this
     have t9 : wr.cell? ⟨gb, go + i * 12 + 9, none⟩ = some (.int .i64 p.2.clock) := hc 9 _ rfl
     have t10 : wr.cell? ⟨gb, go + i * 12 + 10, none⟩ = some (.int .i64 p.2.save) := hc 10 _ rfl
     have t11 : wr.cell? ⟨gb, go + i * 12 + 11, none⟩ = some (af p.2.letter) := hc 11 _ rfl
     have RS : Hid (∀ W, OwnTrn W N (.slice (some ⟨gb, go, none⟩) P.length acap) P → W.cell? ⟨gb, go + i * 12 + 10, none⟩ = some (.int .i64 p.2.save) ∧ W.cell? ⟨gb, go + i * 12 + 11, none⟩ = some (af p.2.letter)) := fun W hW => by
      obtain ⟨b', o', e2, _, hc'⟩ := aN (qI hW) hp
      simp only [Option.some.injEq, Addr.mk.injEq] at e2
      obtain ⟨rfl, rfl, _⟩ := e2
      exact ⟨hc' 10 _ rfl, hc' 11 _ rfl⟩
     have q : (i : Int) < (P.length : Int) := by omega
     have HP := hid hp
     clear hc hp okp
     cases i with
     | zero =>
       have hprev : Sx.prev 0 Q 0 = 0 := rfl
       simp only [Nat.zero_mul, Nat.add_zero] at t0 t9 t10 t11
       have HA2 : Hid (∀ (j : Nat) (a b : Sx.Tn), j + 1 < 0 + 1 → Q[j]? = some a → Q[j + 1]? = some b → 172800 ≤ b.stands - a.stands) := fun j a b h => absurd h (by omega)
       have hc3 : p.2.clock = 1 ∨ p.2.clock = 2 ∨ p.2.clock = 3 := by omega
       rcases hc3 with hck | hck | hck
       ·have v0 : wrap64 (p.1 - shift) = p.1 - shift := by unfold wrap64; omega
        have u0 : IntKind.i64.wrap (p.1 - shift) = p.1 - shift := IntWalk.i64_in _ (by omega)
        have v1 : wrap64 (shift) = shift := by unfold wrap64; omega
        have u1 : IntKind.i64.wrap (shift) = shift := IntWalk.i64_in _ (by omega)
        have eT : Sx.dX shift (Sx.prev 0 Q 0) (Sx.j6 p) = ⟨p.1 - shift, p.2.save, p.2.letter⟩ := by
         rw [hprev]
         unfold Sx.dX Sx.j6
         simp only [hck]
         simp
         try omega
        rw [hck] at t9
        go_upto_region 45 with fail
        have OTn := OT.out
        rw [hol] at OTn
        refine wp_region_held_drew (S := fun w' => w'.cell? ⟨gb, go + 0 * 12 + 10, none⟩ = some (.int .i64 p.2.save) ∧ w'.cell? ⟨gb, go + 0 * 12 + 11, none⟩ = some (af p.2.letter)) (by kernel_rfl) (RS.out wr OW.out) (fun hHeld => ?_)
        refine tkC 0 rfl ?_
        refine tkC 1 rfl ?_
        refine tkC 2 rfl ?_
        refine tkC 3 rfl ?_
        refine tkC 4 rfl ?_
        refine tkC 5 rfl ?_
        refine tkC 6 rfl ?_
        refine tkC 7 rfl ?_
        refine tkC 8 rfl ?_
        refine tkC 9 rfl ?_
        refine tkC 10 rfl ?_
        refine tkC 11 rfl ?_
        refine tkC 12 rfl ?_
        refine tkC 13 rfl ?_
        refine tkC 14 rfl ?_
        refine rdH 15 rfl fun K hK => ?_
        go_simp
        refine hK.out _ _ (RS.out _ (World.ownsRow.alloc (w := wr) OW.out _)) (fun hHeld2 => ?_)
        clear hK K
        try simp only [Act.put, j]
        refine rdH 16 rfl fun K hK => ?_
        refine bC rfl _ _ 68 rfl N 72 i0 (.agg #[.int .i64 0, .int .i64 0, .string ⟨#[]⟩]) 3 32 Tryz.underlying68 hi0 hz0 hz1 hz2 rfl (by decide) (.slice ol 0 ocap) _ _ rfl (World.ownsRow.alloc (w := wr) OTn _) ⟨wr.heap.size, 0, none⟩ 1 1 (dF ⟨p.1 - shift, p.2.save, p.2.letter⟩) rfl rfl (dO wr (dF ⟨p.1 - shift, p.2.save, p.2.letter⟩)) (vZ _) (by unfold maxLen; omega) (by omega) (by have := B.out.size; rw [hN] at this; simp; omega) ?_
        intro v' w9 hown9 hgrow9
        have hg9 : (wr.alloc (.cells (dF ⟨p.1 - shift, p.2.save, p.2.letter⟩).toArray 72)).grownBy w9 (Value.slice ol 0 ocap).ownBlock := ⟨hgrow9.os, hgrow9.tape, hgrow9.output, hgrow9.size, hgrow9.block⟩
        obtain ⟨OT9, OW9, B9⟩ := ve OTn OW.out B.out (by have := B.out.size; rw [hN] at this; exact this) hown9 hg9
        have HO9 := hid OT9
        have HW9 := hid OW9
        have HB9 := hid B9
        clear OT9 OW9 B9 hown9 hgrow9 hg9
        refine hK.out _ _ (RS.out w9 HW9.out) (fun hHeld2 => ?_)
        clear hK K
        try simp only [Act.put, j]
        refine tkA 17 rfl ?_
        refine wpAnyH_done (by kernel_rfl) ?_ _
        go_wp2_with fail
        go_roundw
        case rel => exact ⟨0 + 1, out ++ [⟨p.1 - shift, p.2.save, p.2.letter⟩], by omega, by go_num, by rw [List.length_append, hol]; rfl, by show _ = _; rw [hQt.out, HO.out, ← eT], HA2, HO9, HW9, HB9⟩
        case measure => simp [intOf]; omega
       ·have v0 : wrap64 (p.1 - shift) = p.1 - shift := by unfold wrap64; omega
        have u0 : IntKind.i64.wrap (p.1 - shift) = p.1 - shift := IntWalk.i64_in _ (by omega)
        have eT : Sx.dX shift (Sx.prev 0 Q 0) (Sx.j6 p) = ⟨p.1 - shift, p.2.save, p.2.letter⟩ := by
         rw [hprev]
         unfold Sx.dX Sx.j6
         simp only [hck]
         simp
         try omega
        rw [hck] at t9
        go_upto_region 45 with fail
        have OTn := OT.out
        rw [hol] at OTn
        refine wp_region_held_drew (S := fun w' => w'.cell? ⟨gb, go + 0 * 12 + 10, none⟩ = some (.int .i64 p.2.save) ∧ w'.cell? ⟨gb, go + 0 * 12 + 11, none⟩ = some (af p.2.letter)) (by kernel_rfl) (RS.out wr OW.out) (fun hHeld => ?_)
        refine tkC 0 rfl ?_
        refine tkC 1 rfl ?_
        refine tkC 2 rfl ?_
        refine tkC 3 rfl ?_
        refine tkC 4 rfl ?_
        refine tkC 5 rfl ?_
        refine tkC 6 rfl ?_
        refine tkC 7 rfl ?_
        refine tkC 8 rfl ?_
        refine tkC 9 rfl ?_
        refine tkC 10 rfl ?_
        refine tkC 11 rfl ?_
        refine tkC 12 rfl ?_
        refine tkC 13 rfl ?_
        refine tkC 14 rfl ?_
        refine rdH 15 rfl fun K hK => ?_
        go_simp
        refine hK.out _ _ (RS.out _ (World.ownsRow.alloc (w := wr) OW.out _)) (fun hHeld2 => ?_)
        clear hK K
        try simp only [Act.put, j]
        refine rdH 16 rfl fun K hK => ?_
        refine bC rfl _ _ 68 rfl N 72 i0 (.agg #[.int .i64 0, .int .i64 0, .string ⟨#[]⟩]) 3 32 Tryz.underlying68 hi0 hz0 hz1 hz2 rfl (by decide) (.slice ol 0 ocap) _ _ rfl (World.ownsRow.alloc (w := wr) OTn _) ⟨wr.heap.size, 0, none⟩ 1 1 (dF ⟨p.1 - shift, p.2.save, p.2.letter⟩) rfl rfl (dO wr (dF ⟨p.1 - shift, p.2.save, p.2.letter⟩)) (vZ _) (by unfold maxLen; omega) (by omega) (by have := B.out.size; rw [hN] at this; simp; omega) ?_
        intro v' w9 hown9 hgrow9
        have hg9 : (wr.alloc (.cells (dF ⟨p.1 - shift, p.2.save, p.2.letter⟩).toArray 72)).grownBy w9 (Value.slice ol 0 ocap).ownBlock := ⟨hgrow9.os, hgrow9.tape, hgrow9.output, hgrow9.size, hgrow9.block⟩
        obtain ⟨OT9, OW9, B9⟩ := ve OTn OW.out B.out (by have := B.out.size; rw [hN] at this; exact this) hown9 hg9
        have HO9 := hid OT9
        have HW9 := hid OW9
        have HB9 := hid B9
        clear OT9 OW9 B9 hown9 hgrow9 hg9
        refine hK.out _ _ (RS.out w9 HW9.out) (fun hHeld2 => ?_)
        clear hK K
        try simp only [Act.put, j]
        refine tkA 17 rfl ?_
        refine wpAnyH_done (by kernel_rfl) ?_ _
        go_wp2_with fail
        go_roundw
        case rel => exact ⟨0 + 1, out ++ [⟨p.1 - shift, p.2.save, p.2.letter⟩], by omega, by go_num, by rw [List.length_append, hol]; rfl, by show _ = _; rw [hQt.out, HO.out, ← eT], HA2, HO9, HW9, HB9⟩
        case measure => simp [intOf]; omega
       ·have eT : Sx.dX shift (Sx.prev 0 Q 0) (Sx.j6 p) = ⟨p.1, p.2.save, p.2.letter⟩ := by
         rw [hprev]
         unfold Sx.dX Sx.j6
         simp only [hck]
         simp
         try omega
        rw [hck] at t9
        go_upto_region 45 with fail
        have OTn := OT.out
        rw [hol] at OTn
        refine wp_region_held_drew (S := fun w' => w'.cell? ⟨gb, go + 0 * 12 + 10, none⟩ = some (.int .i64 p.2.save) ∧ w'.cell? ⟨gb, go + 0 * 12 + 11, none⟩ = some (af p.2.letter)) (by kernel_rfl) (RS.out wr OW.out) (fun hHeld => ?_)
        refine tkC 0 rfl ?_
        refine tkC 1 rfl ?_
        refine tkC 2 rfl ?_
        refine tkC 3 rfl ?_
        refine tkC 4 rfl ?_
        refine tkC 5 rfl ?_
        refine tkC 6 rfl ?_
        refine tkC 7 rfl ?_
        refine tkC 8 rfl ?_
        refine tkC 9 rfl ?_
        refine tkC 10 rfl ?_
        refine tkC 11 rfl ?_
        refine tkC 12 rfl ?_
        refine tkC 13 rfl ?_
        refine tkC 14 rfl ?_
        refine rdH 15 rfl fun K hK => ?_
        go_simp
        refine hK.out _ _ (RS.out _ (World.ownsRow.alloc (w := wr) OW.out _)) (fun hHeld2 => ?_)
        clear hK K
        try simp only [Act.put, j]
        refine rdH 16 rfl fun K hK => ?_
        refine bC rfl _ _ 68 rfl N 72 i0 (.agg #[.int .i64 0, .int .i64 0, .string ⟨#[]⟩]) 3 32 Tryz.underlying68 hi0 hz0 hz1 hz2 rfl (by decide) (.slice ol 0 ocap) _ _ rfl (World.ownsRow.alloc (w := wr) OTn _) ⟨wr.heap.size, 0, none⟩ 1 1 (dF ⟨p.1, p.2.save, p.2.letter⟩) rfl rfl (dO wr (dF ⟨p.1, p.2.save, p.2.letter⟩)) (vZ _) (by unfold maxLen; omega) (by omega) (by have := B.out.size; rw [hN] at this; simp; omega) ?_
        intro v' w9 hown9 hgrow9
        have hg9 : (wr.alloc (.cells (dF ⟨p.1, p.2.save, p.2.letter⟩).toArray 72)).grownBy w9 (Value.slice ol 0 ocap).ownBlock := ⟨hgrow9.os, hgrow9.tape, hgrow9.output, hgrow9.size, hgrow9.block⟩
        obtain ⟨OT9, OW9, B9⟩ := ve OTn OW.out B.out (by have := B.out.size; rw [hN] at this; exact this) hown9 hg9
        have HO9 := hid OT9
        have HW9 := hid OW9
        have HB9 := hid B9
        clear OT9 OW9 B9 hown9 hgrow9 hg9
        refine hK.out _ _ (RS.out w9 HW9.out) (fun hHeld2 => ?_)
        clear hK K
        try simp only [Act.put, j]
        refine tkA 17 rfl ?_
        refine wpAnyH_done (by kernel_rfl) ?_ _
        go_wp2_with fail
        go_roundw
        case rel => exact ⟨0 + 1, out ++ [⟨p.1, p.2.save, p.2.letter⟩], by omega, by go_num, by rw [List.length_append, hol]; rfl, by show _ = _; rw [hQt.out, HO.out, ← eT], HA2, HO9, HW9, HB9⟩
        case measure => simp [intOf]; omega
     | succ j =>
       have hcast : ((j + 1 : Nat) : Int) = (j : Int) + 1 := rfl
       rw [hcast] at q ⊢
       obtain ⟨pj, hpj⟩ : ∃ x, P[j]? = some x := ⟨_, q4G (by omega)⟩
       obtain ⟨okj, qb1, qb2⟩ := HOKP.out pj (List.mem_of_getElem? hpj)
       have hsj := okj.save
       have hprev : Sx.prev 0 Q (j + 1) = pj.2.save := by
        show ((Q[j]?).map Sx.Tn.save).getD 0 = _
        rw [hQg.out j pj hpj]; rfl
       obtain ⟨gb', go', e1, hgb', hc⟩ := aN (qI OW.out) hpj
       simp only [Option.some.injEq, Addr.mk.injEq] at e1
       obtain ⟨rfl, rfl, _⟩ := e1
       have s0 : wr.cell? ⟨gb, go + j * 12, none⟩ = some (.int .i64 pj.1) := by have := hc 0 _ rfl; simpa using this
       have s10 : wr.cell? ⟨gb, go + j * 12 + 10, none⟩ = some (.int .i64 pj.2.save) := hc 10 _ rfl
       have hqj := hQg.out j pj hpj
       have hqi := hQg.out (j + 1) p HP.out
       have e1 : IntKind.i64.wrap ((j : Int) + 1 - 1) = (j : Int) := by rw [Int.add_sub_cancel]; exact IntWalk.i64_in _ (by omega)
       have e2 : IntKind.i64.wrap (j : Int) = (j : Int) := IntWalk.i64_in _ (by omega)
       have b1 : (j : Int) < (P.length : Int) := by omega
       have b3 : (0 : Int) ≤ (j : Int) + 1 := by omega
       have d1 : wrap64 (p.1 - pj.1) = p.1 - pj.1 := by unfold wrap64; omega
       have d2 : IntKind.i64.wrap (p.1 - pj.1) = p.1 - pj.1 := IntWalk.i64_in _ (by omega)
       by_cases hd : p.1 - pj.1 < 172800
       case pos =>
        have ha : Sx.apart Q = false := by
         cases h : Sx.apart Q
         ·rfl
         ·have := Sx.A9 h hqj hqi
          have h1 : (Sx.j6 p).stands = p.1 := rfl
          have h2 : (Sx.j6 pj).stands = pj.1 := rfl
          omega
        have hT4 : Sx.aY rs name shift = 4 := by rw [hT.out, if_pos ha]
        clear hqj hqi hc hpj
        go_wp2
        go_ret2
        exact qQ hT4 (by decide) (hN ▸ B.out)
       have HA2 : Hid (∀ (n : Nat) (a b : Sx.Tn), n + 1 < j + 1 + 1 → Q[n]? = some a → Q[n + 1]? = some b → 172800 ≤ b.stands - a.stands) := fun n a b h h1 h2 => by
        rcases Nat.lt_or_ge (n + 1) (j + 1) with z | z
        ·exact HA.out n a b z h1 h2
        ·have e : n = j := by omega
         subst e
         rw [hqj] at h1
         rw [hqi] at h2
         simp at h1 h2
         subst h1
         subst h2
         show 172800 ≤ p.1 - pj.1
         omega
       clear hqj hqi hc hpj okj
       have hc3 : p.2.clock = 1 ∨ p.2.clock = 2 ∨ p.2.clock = 3 := by omega
       rcases hc3 with hck | hck | hck
       ·have v0 : wrap64 (shift + pj.2.save) = shift + pj.2.save := by unfold wrap64; omega
        have u0 : IntKind.i64.wrap (shift + pj.2.save) = shift + pj.2.save := IntWalk.i64_in _ (by omega)
        have v1 : wrap64 (p.1 - (shift + pj.2.save)) = p.1 - (shift + pj.2.save) := by unfold wrap64; omega
        have u1 : IntKind.i64.wrap (p.1 - (shift + pj.2.save)) = p.1 - (shift + pj.2.save) := IntWalk.i64_in _ (by omega)
        have eT : Sx.dX shift (Sx.prev 0 Q (j + 1)) (Sx.j6 p) = ⟨p.1 - (shift + pj.2.save), p.2.save, p.2.letter⟩ := by
         rw [hprev]
         unfold Sx.dX Sx.j6
         simp only [hck]
         simp
         try omega
        rw [hck] at t9
        go_upto_region 45 with fail
        have OTn := OT.out
        rw [hol] at OTn
        refine wp_region_held_drew (S := fun w' => w'.cell? ⟨gb, go + (j + 1) * 12 + 10, none⟩ = some (.int .i64 p.2.save) ∧ w'.cell? ⟨gb, go + (j + 1) * 12 + 11, none⟩ = some (af p.2.letter)) (by kernel_rfl) (RS.out wr OW.out) (fun hHeld => ?_)
        refine tkA 0 rfl ?_
        refine tkA 1 rfl ?_
        refine tkA 2 rfl ?_
        refine tkA 3 rfl ?_
        refine tkA 4 rfl ?_
        refine tkA 5 rfl ?_
        refine tkA 6 rfl ?_
        refine tkA 7 rfl ?_
        refine tkA 8 rfl ?_
        refine tkA 9 rfl ?_
        refine tkA 10 rfl ?_
        refine tkA 11 rfl ?_
        refine tkA 12 rfl ?_
        refine tkA 13 rfl ?_
        refine tkA 14 rfl ?_
        refine rdH 15 rfl fun K hK => ?_
        go_simp
        refine hK.out _ _ (RS.out _ (World.ownsRow.alloc (w := wr) OW.out _)) (fun hHeld2 => ?_)
        clear hK K
        try simp only [Act.put, j]
        refine rdH 16 rfl fun K hK => ?_
        refine bC rfl _ _ 68 rfl N 72 i0 (.agg #[.int .i64 0, .int .i64 0, .string ⟨#[]⟩]) 3 32 Tryz.underlying68 hi0 hz0 hz1 hz2 rfl (by decide) (.slice ol (j + 1) ocap) _ _ rfl (World.ownsRow.alloc (w := wr) OTn _) ⟨wr.heap.size, 0, none⟩ 1 1 (dF ⟨p.1 - (shift + pj.2.save), p.2.save, p.2.letter⟩) rfl rfl (dO wr (dF ⟨p.1 - (shift + pj.2.save), p.2.save, p.2.letter⟩)) (vZ _) (by unfold maxLen; omega) (by omega) (by have := B.out.size; rw [hN] at this; simp; omega) ?_
        intro v' w9 hown9 hgrow9
        have hg9 : (wr.alloc (.cells (dF ⟨p.1 - (shift + pj.2.save), p.2.save, p.2.letter⟩).toArray 72)).grownBy w9 (Value.slice ol (j + 1) ocap).ownBlock := ⟨hgrow9.os, hgrow9.tape, hgrow9.output, hgrow9.size, hgrow9.block⟩
        obtain ⟨OT9, OW9, B9⟩ := ve OTn OW.out B.out (by have := B.out.size; rw [hN] at this; exact this) hown9 hg9
        have HO9 := hid OT9
        have HW9 := hid OW9
        have HB9 := hid B9
        clear OT9 OW9 B9 hown9 hgrow9 hg9
        refine hK.out _ _ (RS.out w9 HW9.out) (fun hHeld2 => ?_)
        clear hK K
        try simp only [Act.put, j]
        refine tkA 17 rfl ?_
        refine wpAnyH_done (by kernel_rfl) ?_ _
        go_wp2_with fail
        go_roundw
        case rel => exact ⟨(j + 1) + 1, out ++ [⟨p.1 - (shift + pj.2.save), p.2.save, p.2.letter⟩], by omega, by go_num, by rw [List.length_append, hol]; rfl, by show _ = _; rw [hQt.out, HO.out, ← eT], HA2, HO9, HW9, HB9⟩
        case measure => simp [intOf]; omega
       ·have v0 : wrap64 (p.1 - shift) = p.1 - shift := by unfold wrap64; omega
        have u0 : IntKind.i64.wrap (p.1 - shift) = p.1 - shift := IntWalk.i64_in _ (by omega)
        have eT : Sx.dX shift (Sx.prev 0 Q (j + 1)) (Sx.j6 p) = ⟨p.1 - shift, p.2.save, p.2.letter⟩ := by
         rw [hprev]
         unfold Sx.dX Sx.j6
         simp only [hck]
         simp
         try omega
        rw [hck] at t9
        go_upto_region 45 with fail
        have OTn := OT.out
        rw [hol] at OTn
        refine wp_region_held_drew (S := fun w' => w'.cell? ⟨gb, go + (j + 1) * 12 + 10, none⟩ = some (.int .i64 p.2.save) ∧ w'.cell? ⟨gb, go + (j + 1) * 12 + 11, none⟩ = some (af p.2.letter)) (by kernel_rfl) (RS.out wr OW.out) (fun hHeld => ?_)
        refine tkA 0 rfl ?_
        refine tkA 1 rfl ?_
        refine tkA 2 rfl ?_
        refine tkA 3 rfl ?_
        refine tkA 4 rfl ?_
        refine tkA 5 rfl ?_
        refine tkA 6 rfl ?_
        refine tkA 7 rfl ?_
        refine tkA 8 rfl ?_
        refine tkA 9 rfl ?_
        refine tkA 10 rfl ?_
        refine tkA 11 rfl ?_
        refine tkA 12 rfl ?_
        refine tkA 13 rfl ?_
        refine tkA 14 rfl ?_
        refine rdH 15 rfl fun K hK => ?_
        go_simp
        refine hK.out _ _ (RS.out _ (World.ownsRow.alloc (w := wr) OW.out _)) (fun hHeld2 => ?_)
        clear hK K
        try simp only [Act.put, j]
        refine rdH 16 rfl fun K hK => ?_
        refine bC rfl _ _ 68 rfl N 72 i0 (.agg #[.int .i64 0, .int .i64 0, .string ⟨#[]⟩]) 3 32 Tryz.underlying68 hi0 hz0 hz1 hz2 rfl (by decide) (.slice ol (j + 1) ocap) _ _ rfl (World.ownsRow.alloc (w := wr) OTn _) ⟨wr.heap.size, 0, none⟩ 1 1 (dF ⟨p.1 - shift, p.2.save, p.2.letter⟩) rfl rfl (dO wr (dF ⟨p.1 - shift, p.2.save, p.2.letter⟩)) (vZ _) (by unfold maxLen; omega) (by omega) (by have := B.out.size; rw [hN] at this; simp; omega) ?_
        intro v' w9 hown9 hgrow9
        have hg9 : (wr.alloc (.cells (dF ⟨p.1 - shift, p.2.save, p.2.letter⟩).toArray 72)).grownBy w9 (Value.slice ol (j + 1) ocap).ownBlock := ⟨hgrow9.os, hgrow9.tape, hgrow9.output, hgrow9.size, hgrow9.block⟩
        obtain ⟨OT9, OW9, B9⟩ := ve OTn OW.out B.out (by have := B.out.size; rw [hN] at this; exact this) hown9 hg9
        have HO9 := hid OT9
        have HW9 := hid OW9
        have HB9 := hid B9
        clear OT9 OW9 B9 hown9 hgrow9 hg9
        refine hK.out _ _ (RS.out w9 HW9.out) (fun hHeld2 => ?_)
        clear hK K
        try simp only [Act.put, j]
        refine tkA 17 rfl ?_
        refine wpAnyH_done (by kernel_rfl) ?_ _
        go_wp2_with fail
        go_roundw
        case rel => exact ⟨(j + 1) + 1, out ++ [⟨p.1 - shift, p.2.save, p.2.letter⟩], by omega, by go_num, by rw [List.length_append, hol]; rfl, by show _ = _; rw [hQt.out, HO.out, ← eT], HA2, HO9, HW9, HB9⟩
        case measure => simp [intOf]; omega
       ·have eT : Sx.dX shift (Sx.prev 0 Q (j + 1)) (Sx.j6 p) = ⟨p.1, p.2.save, p.2.letter⟩ := by
         rw [hprev]
         unfold Sx.dX Sx.j6
         simp only [hck]
         simp
         try omega
        rw [hck] at t9
        go_upto_region 45 with fail
        have OTn := OT.out
        rw [hol] at OTn
        refine wp_region_held_drew (S := fun w' => w'.cell? ⟨gb, go + (j + 1) * 12 + 10, none⟩ = some (.int .i64 p.2.save) ∧ w'.cell? ⟨gb, go + (j + 1) * 12 + 11, none⟩ = some (af p.2.letter)) (by kernel_rfl) (RS.out wr OW.out) (fun hHeld => ?_)
        refine tkA 0 rfl ?_
        refine tkA 1 rfl ?_
        refine tkA 2 rfl ?_
        refine tkA 3 rfl ?_
        refine tkA 4 rfl ?_
        refine tkA 5 rfl ?_
        refine tkA 6 rfl ?_
        refine tkA 7 rfl ?_
        refine tkA 8 rfl ?_
        refine tkA 9 rfl ?_
        refine tkA 10 rfl ?_
        refine tkA 11 rfl ?_
        refine tkA 12 rfl ?_
        refine tkA 13 rfl ?_
        refine tkA 14 rfl ?_
        refine rdH 15 rfl fun K hK => ?_
        go_simp
        refine hK.out _ _ (RS.out _ (World.ownsRow.alloc (w := wr) OW.out _)) (fun hHeld2 => ?_)
        clear hK K
        try simp only [Act.put, j]
        refine rdH 16 rfl fun K hK => ?_
        refine bC rfl _ _ 68 rfl N 72 i0 (.agg #[.int .i64 0, .int .i64 0, .string ⟨#[]⟩]) 3 32 Tryz.underlying68 hi0 hz0 hz1 hz2 rfl (by decide) (.slice ol (j + 1) ocap) _ _ rfl (World.ownsRow.alloc (w := wr) OTn _) ⟨wr.heap.size, 0, none⟩ 1 1 (dF ⟨p.1, p.2.save, p.2.letter⟩) rfl rfl (dO wr (dF ⟨p.1, p.2.save, p.2.letter⟩)) (vZ _) (by unfold maxLen; omega) (by omega) (by have := B.out.size; rw [hN] at this; simp; omega) ?_
        intro v' w9 hown9 hgrow9
        have hg9 : (wr.alloc (.cells (dF ⟨p.1, p.2.save, p.2.letter⟩).toArray 72)).grownBy w9 (Value.slice ol (j + 1) ocap).ownBlock := ⟨hgrow9.os, hgrow9.tape, hgrow9.output, hgrow9.size, hgrow9.block⟩
        obtain ⟨OT9, OW9, B9⟩ := ve OTn OW.out B.out (by have := B.out.size; rw [hN] at this; exact this) hown9 hg9
        have HO9 := hid OT9
        have HW9 := hid OW9
        have HB9 := hid B9
        clear OT9 OW9 B9 hown9 hgrow9 hg9
        refine hK.out _ _ (RS.out w9 HW9.out) (fun hHeld2 => ?_)
        clear hK K
        try simp only [Act.put, j]
        refine tkA 17 rfl ?_
        refine wpAnyH_done (by kernel_rfl) ?_ _
        go_wp2_with fail
        go_roundw
        case rel => exact ⟨(j + 1) + 1, out ++ [⟨p.1, p.2.save, p.2.letter⟩], by omega, by go_num, by rw [List.length_append, hol]; rfl, by show _ = _; rw [hQt.out, HO.out, ← eT], HA2, HO9, HW9, HB9⟩
        case measure => simp [intOf]; omega
   have hk' : k ≤ 200 := by omega
   clear hk hk2
   obtain ⟨y, hy⟩ : ∃ y : Int, 1900 + (k : Int) = y := ⟨_, rfl⟩
   rw [hy]
   have yb : 1900 ≤ y ∧ y ≤ 2100 := by omega
   have PE0 : Hid (P.Perm (Sx.jl rs name k ++ Sx.kN (rs.take 0) name y)) := by show List.Perm _ _; have := PE.out; simpa [Sx.kN] using this
   have HYK := hid hy
   clear PE hy
   go_wp2_with fail
   go_loopw [10, 11, 13] (fun th al iv wr => ∃ (i : Nat) (P : List Sx.Trn), i ≤ rs.length ∧ iv = .int .i64 i ∧ th = .bool (Sx.kR rs name k i) ∧ P.length ≤ k * 40 + i ∧ Hid (P.Perm (Sx.jl rs name k ++ Sx.kN (rs.take i) name y)) ∧ Hid (Sx.xX P) ∧ Hid (OwnTrn wr N al P) ∧ Hid (Below N w wr) ∧ (P = [] → al = .slice none 0 0)) (fun _ _ iv _ => rs.length - (intOf iv).toNat)
   case atStart => exact ⟨0, P, Nat.zero_le _, rfl, rfl, by omega, PE0, SO, OW, B, hnil⟩
   case round =>
    clear PE0 SO OW B hP hnil P
    obtain ⟨i, P, hi, rfl, rfl, hP, PE, SO, OW, B, hnil⟩ := hrel
    obtain ⟨al, acap, rfl⟩ := aF OW.out
    by_cases hlt : i < rs.length
    case neg =>
     have e : i = rs.length := by omega
     subst e
     have PE2 : Hid (P.Perm (Sx.jl rs name (k + 1))) := by show List.Perm _ _; rw [Sx.Im, HYK.out]; have := PE.out; rw [List.take_length] at this; exact this
     rw [Sx.Hy]
     have hye := HYK.out
     have q : ¬ (rs.length : Int) < (rs.length : Int) := by omega
     have w1 : wrap64 (y + 1) = 1900 + ((k + 1 : Nat) : Int) := by unfold wrap64; omega
     clear hlt PE
     go_wp2
     go_roundw
     case rel => exact ⟨k + 1, P, by omega, by go_num, rfl, by omega, PE2, SO, OW, B, hnil⟩
     case measure => simp [intOf]; omega
    obtain ⟨r, hx⟩ : ∃ x, rs[i]? = some x := ⟨_, q4G hlt⟩
    obtain ⟨rb, ro, e1, hrb, hc⟩ := aN (au RC.out (hN ▸ B.out)) hx
    subst e1
    obtain ⟨c0, c1, c2, c3, c4, c5, c6, c7, c8, c9, c10⟩ := oh hc
    have HX := hid hx
    have HOK := hid (OK.out r (List.mem_of_getElem? hx))
    have HT : Hid (Sx.kR rs name k (i + 1) = (Sx.kR rs name k i || r.name == name)) := Sx.Hw name k hx
    have HYT : Hid (Sx.kN (rs.take (i + 1)) name y = Sx.kN (rs.take i) name y ++ (if Sx.FI name y r = true then [Sx.CW y r] else [])) := Sx.KD name y hx
    obtain ⟨TB, hTB⟩ : ∃ b, Sx.kR rs name k i = b := ⟨_, rfl⟩
    rw [hTB] at HT ⊢
    have q : (i : Int) < (rs.length : Int) := by omega
    have BB := hid (B.out)
    clear hc hx hTB
    cases e2 : (r.name == name)
    case false =>
     have hnm' : (r.name != name) = true := by simp [bne, e2]
     have PE2 : Hid (P.Perm (Sx.jl rs name k ++ Sx.kN (rs.take (i + 1)) name y)) := by show List.Perm _ _; rw [HYT.out, if_neg (by simp [Sx.FI, e2]), List.append_nil]; exact PE.out
     rw [e2, Bool.or_false] at HT
     go_wp2
     go_roundw
     case rel => exact ⟨i + 1, P, by omega, by go_num, by rw [HT.out], by omega, PE2, SO, OW, B, hnil⟩
     case measure => simp [intOf]; omega
    have hnm' : (r.name != name) = false := by simp [bne, e2]
    rw [e2, Bool.or_true] at HT
    obtain ⟨I, hI⟩ : ∃ b, Sx.inB y r.frm r.to = b := ⟨_, rfl⟩
    have HI := hid hI
    have eI : Sx.FI name y r = I := by unfold Sx.FI; rw [e2, hI, Bool.true_and]
    rw [eI] at HYT
    clear hI eI
    have SS := hid (show wr.cell? ⟨rb, ro + i * 11 + 1, none⟩ = some (.int .i64 r.frm) ∧ wr.cell? ⟨rb, ro + i * 11 + 2, none⟩ = some (.int .i64 r.to) from ⟨c1, c2⟩)
    have KS : Hid (∀ wz, Below wr.heap.size wr wz → (wz.cell? ⟨rb, ro + i * 11 + 1, none⟩ = some (.int .i64 r.frm) ∧ wz.cell? ⟨rb, ro + i * 11 + 2, none⟩ = some (.int .i64 r.to))) := fun wz hb => ⟨(hb.cell (p := ⟨rb, ro + i * 11 + 1, none⟩) hrb).trans c1, (hb.cell (p := ⟨rb, ro + i * 11 + 2, none⟩) hrb).trans c2⟩
    go_upto_region 21 with fail
    refine wp_region_held_drew (S := fun w' => w'.cell? ⟨rb, ro + i * 11 + 1, none⟩ = some (.int .i64 r.frm) ∧ w'.cell? ⟨rb, ro + i * 11 + 2, none⟩ = some (.int .i64 r.to)) (by kernel_rfl) SS.out (fun hHeld => ?_)
    refine tkA 0 rfl ?_
    refine tkA 1 rfl ?_
    refine tkA 2 rfl ?_
    refine tkA 3 rfl ?_
    refine tkA 4 rfl ?_
    refine tkA 5 rfl ?_
    refine tkA 6 rfl ?_
    refine tkA 7 rfl ?_
    refine tkA 8 rfl ?_
    refine tkA 9 rfl ?_
    refine tkA 10 rfl ?_
    refine rdH 11 rfl fun K hK => ?_
    go_simp
    refine (ak _ _ _ _ (mH HI.out)).mono ?_
    rintro e w7 ⟨rfl, hw7⟩
    have hb : Below wr.heap.size wr w7 := hw7 ▸ (show Below wr.heap.size wr wr.drew from ⟨rfl, rfl, rfl, Nat.le_refl _, fun _ _ => rfl⟩)
    have S7 := KS.out w7 hb
    clear hw7
    refine hK.out _ _ ?_ (fun hHeld => ?_)
    ·exact S7
    clear hK K
    try simp only [Act.put, j]
    refine tkA 12 rfl ?_
    refine wpAnyH_done (by kernel_rfl) ?_ _
    replace B : Hid (Below N w w7) := B.out.trans (hb.mono (hN ▸ B.out.size))
    replace OW := hid (nY OW.out hb)
    have hrb7 := q4N hrb hb.size
    have c3' := (hb.cell (p := ⟨rb, ro + i * 11 + 3, none⟩) hrb).trans c3
    have c4' := (hb.cell (p := ⟨rb, ro + i * 11 + 4, none⟩) hrb).trans c4
    have c5' := (hb.cell (p := ⟨rb, ro + i * 11 + 5, none⟩) hrb).trans c5
    have c6' := (hb.cell (p := ⟨rb, ro + i * 11 + 6, none⟩) hrb).trans c6
    clear c0 c1 c2 c3 c4 c5 c6 c7 c8 c9 c10 hrb hb S7 SS KS hHeld BB
    cases I
    case false =>
     have PE2 : Hid (P.Perm (Sx.jl rs name k ++ Sx.kN (rs.take (i + 1)) name y)) := by show List.Perm _ _; rw [HYT.out, if_neg (by simp), List.append_nil]; exact PE.out
     go_wp2
     go_roundw
     case rel => exact ⟨i + 1, P, by omega, by go_num, by rw [HT.out], by omega, PE2, SO, OW, B, hnil⟩
     case measure => simp [intOf]; omega
    have HYT2 : Hid (Sx.kN (rs.take (i + 1)) name y = Sx.kN (rs.take i) name y ++ [Sx.CW y r]) := by show _ = _; rw [HYT.out, if_pos rfl]
    obtain ⟨on0, d1, d2⟩ := Sx.uA HOK.out yb.1 yb.2
    have hrb := hrb7
    have c3 := c3'
    have c4 := c4'
    have c5 := c5'
    have c6 := c6'
    clear HYT HI c3' c4' c5' c6' hrb7
    have CA := hid (fun W (hW : Below w7.heap.size w7 W) => GM y r.month r.kind r.wk r.n W on0)
    clear on0
    have SS := hid (show w7.cell? ⟨rb, ro + i * 11 + 3, none⟩ = some (.int .i64 r.month) ∧ w7.cell? ⟨rb, ro + i * 11 + 4, none⟩ = some (.int .i64 r.kind) ∧ w7.cell? ⟨rb, ro + i * 11 + 5, none⟩ = some (.int .i64 r.wk) ∧ w7.cell? ⟨rb, ro + i * 11 + 6, none⟩ = some (.int .i64 r.n) from ⟨c3, c4, c5, c6⟩)
    have KS : Hid (∀ wz, Below w7.heap.size w7 wz → (wz.cell? ⟨rb, ro + i * 11 + 3, none⟩ = some (.int .i64 r.month) ∧ wz.cell? ⟨rb, ro + i * 11 + 4, none⟩ = some (.int .i64 r.kind) ∧ wz.cell? ⟨rb, ro + i * 11 + 5, none⟩ = some (.int .i64 r.wk) ∧ wz.cell? ⟨rb, ro + i * 11 + 6, none⟩ = some (.int .i64 r.n))) := fun wz hb => ⟨(hb.cell (p := ⟨rb, ro + i * 11 + 3, none⟩) hrb).trans c3, (hb.cell (p := ⟨rb, ro + i * 11 + 4, none⟩) hrb).trans c4, (hb.cell (p := ⟨rb, ro + i * 11 + 5, none⟩) hrb).trans c5, (hb.cell (p := ⟨rb, ro + i * 11 + 6, none⟩) hrb).trans c6⟩
    go_upto_region 22 with fail
    go_cut [14, 15] from 72 to 86 (fun s14 s15 wc => ∃ D a b c, s14 = .pointer (some ⟨D, 0, none⟩) ∧ s15 = .int .i64 0 ∧ w7.heap.size ≤ D ∧ Hid (Cv.iK a b c = true) ∧ Hid (Cv.num a b c = Cv.tgt y r.month r.kind r.wk r.n) ∧ Hid (ag wc D [.int .i64 a, .int .i64 b, .int .i64 c]) ∧ Hid (Below w7.heap.size w7 wc))
    case first =>
     refine wp_region_held_drew (S := fun w' => w'.cell? ⟨rb, ro + i * 11 + 3, none⟩ = some (.int .i64 r.month) ∧ w'.cell? ⟨rb, ro + i * 11 + 4, none⟩ = some (.int .i64 r.kind) ∧ w'.cell? ⟨rb, ro + i * 11 + 5, none⟩ = some (.int .i64 r.wk) ∧ w'.cell? ⟨rb, ro + i * 11 + 6, none⟩ = some (.int .i64 r.n)) (by kernel_rfl) SS.out (fun hHeld => ?_)
     refine tkA 0 rfl ?_
     refine tkA 1 rfl ?_
     refine tkA 2 rfl ?_
     refine tkA 3 rfl ?_
     refine tkA 4 rfl ?_
     refine tkA 5 rfl ?_
     refine tkA 6 rfl ?_
     refine tkA 7 rfl ?_
     refine tkA 8 rfl ?_
     refine tkA 9 rfl ?_
     refine tkA 10 rfl ?_
     refine wpAnyH_ready (rs := [11,15]) (by kernel_rfl) (by simp) ?_
     refine AllReadyH.cons rfl (fun K hK => ?_) ?_
     ·go_simp
      refine (CA.out _ (show Below w7.heap.size w7 w7.drew from ⟨rfl, rfl, rfl, Nat.le_refl _, fun _ _ => rfl⟩)).mono ?_
      rintro e w72 ⟨a, b, c, rfl, hv, hn7, hb7⟩
      have hb := bq hb7
      have S7 := KS.out w72 hb
      refine hK.out _ _ S7 (fun hHeld2 => ?_)
      clear hK K
      try simp only [Act.put, j]
      refine tkA 12 rfl ?_
      refine tkA 13 rfl ?_
      refine tkA 14 rfl ?_
      have B8 : Below w7.heap.size w7 (w72.alloc (.cells #[.int .i64 0, .int .i64 0, .int .i64 0] 63)) := hb.trans (((q4B w72.heap.size w72).alloc (Nat.le_refl _) _).mono hb.size)
      have S8 := KS.out _ B8
      refine rdH 15 rfl fun K hK => ?_
      go_simp
      refine hK.out _ _ S8 (fun hHeld2 => ?_)
      clear hK K
      try simp only [Act.put, j]
      have B9 : Below w7.heap.size w7 (w72.alloc (.cells #[.int .i64 a, .int .i64 b, .int .i64 c] 63)) := hb.trans (((q4B w72.heap.size w72).alloc (Nat.le_refl _) _).mono hb.size)
      have S9 := KS.out _ B9
      have T9 : ag (w72.alloc (.cells #[.int .i64 a, .int .i64 b, .int .i64 c] 63)) w72.heap.size [.int .i64 a, .int .i64 b, .int .i64 c] := aC w72 [.int .i64 a, .int .i64 b, .int .i64 c] 63
      have N9 : w7.heap.size ≤ w72.heap.size := hb.size
      refine rdH 16 rfl fun K hK => ?_
      go_simp
      refine hK.out _ _ S9 (fun hHeld2 => ?_)
      clear hK K
      try simp only [Act.put, j]
      refine tkA 17 rfl ?_
      refine wpAnyH_done (by kernel_rfl) ?_ _
      go_wp2_with fail
      go_meet
      exact ⟨_, a, b, c, rfl, rfl, N9, hv, hn7, T9, B9⟩
     refine AllReadyH.cons rfl (fun K hK => ?_) AllReadyH.nil
     have BB : Below w7.heap.size w7 (w7.drew.alloc (.cells #[.int .i64 0, .int .i64 0, .int .i64 0] 63)) := (show Below w7.heap.size w7 w7.drew from ⟨rfl, rfl, rfl, Nat.le_refl _, fun _ _ => rfl⟩).trans ((q4B w7.drew.heap.size w7.drew).alloc (Nat.le_refl _) _)
     have TB := aC w7.drew [.int .i64 0, .int .i64 0, .int .i64 0] 63
     go_simp
     have S7 := KS.out _ BB
     refine hK.out _ _ S7 (fun hHeld2 => ?_)
     clear hK K
     try simp only [Act.put, j]
     refine rdH 11 rfl fun K hK => ?_
     go_simp
     refine (CA.out _ BB).mono ?_
     rintro e w72 ⟨a, b, c, rfl, hv, hn7, hb7⟩
     have hb := BB.trans (hb7.mono BB.size)
     have S8 := KS.out w72 hb
     have T7 : ag w72 w7.heap.size [.int .i64 0, .int .i64 0, .int .i64 0] := ah TB hb7
     obtain ⟨⟨q0, k0⟩, ⟨q1, k1⟩, ⟨q2, k2⟩, sT⟩ := cp3 T7
     refine hK.out _ _ S8 (fun hHeld2 => ?_)
     clear hK K
     try simp only [Act.put, j]
     refine tkA 12 rfl ?_
     refine tkA 13 rfl ?_
     refine tkA 14 rfl ?_
     have B9 := (ax (ax (ax hb (Nat.le_refl _) 0 (.int .i64 a)) (Nat.le_refl _) 1 (.int .i64 b)) (Nat.le_refl _) 2 (.int .i64 c))
     have S9 := KS.out _ B9
     have T9 := (aS (aS (aS T7 0 (.int .i64 a) (by simp)) 1 (.int .i64 b) (by simp)) 2 (.int .i64 c) (by simp))
     simp only [List.set_cons_zero, List.set_cons_succ] at T9
     have N9 : w7.heap.size ≤ w7.heap.size := Nat.le_refl _
     refine rdH 16 rfl fun K hK => ?_
     go_simp
     refine hK.out _ _ S9 (fun hHeld2 => ?_)
     clear hK K
     try simp only [Act.put, j]
     refine tkA 17 rfl ?_
     refine wpAnyH_done (by kernel_rfl) ?_ _
     go_wp2_with fail
     go_meet
     exact ⟨_, a, b, c, rfl, rfl, N9, hv, hn7, T9, B9⟩
    case rest =>
    obtain ⟨D, a, b, c, rfl, rfl, hD, hv, hn7, CD, BD⟩ := hcut
    obtain ⟨w8, hw8⟩ : ∃ W8, wc = W8 := ⟨_, rfl⟩
    rw [hw8] at CD BD ⊢
    clear hw8 SS KS CA
    replace B : Hid (Below N w w8) := B.out.trans (BD.out.mono (hN ▸ B.out.size))
    replace OW := hid (nY OW.out BD.out)
    obtain ⟨rb', ro', e1, hrb8, hc⟩ := aN (au RC.out (hN ▸ B.out)) HX.out
    simp only [Option.some.injEq, Addr.mk.injEq] at e1
    obtain ⟨rfl, rfl, _⟩ := e1
    clear c3 c4 c5 c6 hrb
    obtain ⟨c0, c1, c2, c3, c4, c5, c6, c7, c8, c9, c10⟩ := oh hc
    have hrb := hrb8
    obtain ⟨⟨x0, _⟩, ⟨x1, _⟩, ⟨x2, _⟩, sx⟩ := cp3 CD.out
    clear hrb8
    obtain ⟨T, hT⟩ : ∃ T, Cv.tgt y r.month r.kind r.wk r.n * 86400 + r.at_ = T := ⟨_, rfl⟩
    have HTR : Hid (Sx.CW y r = (T, r)) := by show _ = _; unfold Sx.CW; rw [hT]
    have ab := HOK.out.at_
    have tb : -3456000000 ≤ T ∧ T ≤ 5184172800 := by omega
    obtain ⟨G, hG⟩ : ∃ G, Cv.tgt y r.month r.kind r.wk r.n = G := ⟨_, rfl⟩
    rw [hG] at hT hn7 d1 d2
    have w64a : IntKind.i64.wrap (G * 86400) = G * 86400 := IntWalk.i64_in _ (by omega)
    have w64b : IntKind.i64.wrap (G * 86400 + r.at_) = T := (IntWalk.i64_in _ (by omega)).trans hT
    have CA : Hid (∀ W, Below w8.heap.size w8 W → Calls Tryz.prog 123 #[.agg #[.int .i64 a, .int .i64 b, .int .i64 c]] W fun e w' => e = .returned (.int .i64 G) ∧ Below W.heap.size W w') := fun W hW => by
     obtain ⟨v1, v2, v3, v4, v5, v6⟩ := Cv.jg.1 hv.out
     have := fC a b c W v1 (by omega) v3 v4 (by omega) (by have := Cv.jU a b; omega)
     rw [hn7.out] at this
     exact this
    clear hT hG ab HOK hv hn7
    have RR : w8.rangeAt rb (ro + i * 11) (aG r) := hc
    have SS := hid (show w8.cell? ⟨D, 0, none⟩ = some (.int .i64 a) ∧ w8.cell? ⟨D, 1, none⟩ = some (.int .i64 b) ∧ w8.cell? ⟨D, 2, none⟩ = some (.int .i64 c) ∧ w8.cell? ⟨rb, ro + i * 11 + 7, none⟩ = some (.int .i64 r.at_) ∧ w8.rangeAt rb (ro + i * 11) (aG r) from ⟨x0, x1, x2, c7, RR⟩)
    have KS : Hid (∀ wz, Below w8.heap.size w8 wz → (wz.cell? ⟨D, 0, none⟩ = some (.int .i64 a) ∧ wz.cell? ⟨D, 1, none⟩ = some (.int .i64 b) ∧ wz.cell? ⟨D, 2, none⟩ = some (.int .i64 c) ∧ wz.cell? ⟨rb, ro + i * 11 + 7, none⟩ = some (.int .i64 r.at_) ∧ wz.rangeAt rb (ro + i * 11) (aG r))) := fun wz hb => ⟨(hb.cell (p := ⟨D, 0, none⟩) sx).trans x0, (hb.cell (p := ⟨D, 1, none⟩) sx).trans x1, (hb.cell (p := ⟨D, 2, none⟩) sx).trans x2, (hb.cell (p := ⟨rb, ro + i * 11 + 7, none⟩) hrb).trans c7, fun j v hv => (hb.cell (p := ⟨rb, ro + i * 11 + j, none⟩) hrb).trans (RR j v hv)⟩
    go_upto_region 23 with fail
    go_cut [16] from 87 to 100 (fun s16 wc => ∃ D, s16 = .pointer (some ⟨D, 0, none⟩) ∧ w8.heap.size ≤ D ∧ Hid (ag wc D [.int .i64 T, af r.name, .int .i64 r.frm, .int .i64 r.to, .int .i64 r.month, .int .i64 r.kind, .int .i64 r.wk, .int .i64 r.n, .int .i64 r.at_, .int .i64 r.clock, .int .i64 r.save, af r.letter]) ∧ Hid (Blk wc D 189 12) ∧ Hid (Below w8.heap.size w8 wc))
    case first =>
     refine wp_region_held_drew (S := fun w' => w'.cell? ⟨D, 0, none⟩ = some (.int .i64 a) ∧ w'.cell? ⟨D, 1, none⟩ = some (.int .i64 b) ∧ w'.cell? ⟨D, 2, none⟩ = some (.int .i64 c) ∧ w'.cell? ⟨rb, ro + i * 11 + 7, none⟩ = some (.int .i64 r.at_) ∧ w'.rangeAt rb (ro + i * 11) (aG r)) (by kernel_rfl) SS.out (fun hHeld => ?_)
     refine tkH 0 ?vz1 rfl ?z1 ?_
     case z1 => (intro w hSw; (obtain ⟨x0, x1, x2, c7, RR⟩ := hSw); go_simp; try with_reducible rfl)
     try simp only [Act.put, j]
     refine tkH 3 ?vz2 rfl ?z2 ?_
     case z2 => (intro w hSw; (obtain ⟨x0, x1, x2, c7, RR⟩ := hSw); go_simp; try with_reducible rfl)
     try simp only [Act.put, j]
     refine tkH 4 ?vz3 rfl ?z3 ?_
     case z3 => (intro w hSw; (obtain ⟨x0, x1, x2, c7, RR⟩ := hSw); go_simp; try with_reducible rfl)
     try simp only [Act.put, j]
     refine tkH 5 ?vz4 rfl ?z4 ?_
     case z4 => (intro w hSw; (obtain ⟨x0, x1, x2, c7, RR⟩ := hSw); go_simp; try with_reducible rfl)
     try simp only [Act.put, j]
     refine tkH 6 ?vz5 rfl ?z5 ?_
     case z5 => (intro w hSw; (obtain ⟨x0, x1, x2, c7, RR⟩ := hSw); go_simp; try with_reducible rfl)
     try simp only [Act.put, j]
     refine tkH 7 ?vz6 rfl ?z6 ?_
     case z6 => (intro w hSw; (obtain ⟨x0, x1, x2, c7, RR⟩ := hSw); go_simp; try with_reducible rfl)
     try simp only [Act.put, j]
     refine tkH 9 ?vz7 rfl ?z7 ?_
     case z7 => (intro w hSw; (obtain ⟨x0, x1, x2, c7, RR⟩ := hSw); go_simp; try with_reducible rfl)
     try simp only [Act.put, j]
     refine tkH 10 ?vz8 rfl ?z8 ?_
     case z8 => (intro w hSw; (obtain ⟨x0, x1, x2, c7, RR⟩ := hSw); go_simp; try with_reducible rfl)
     try simp only [Act.put, j]
     refine tkH 11 ?vz9 rfl ?z9 ?_
     case z9 => (intro w hSw; (obtain ⟨x0, x1, x2, c7, RR⟩ := hSw); go_simp; try with_reducible rfl)
     try simp only [Act.put, j]
     refine wpAnyH_take (i := 12) (v := .agg #[af r.name, .int .i64 r.frm, .int .i64 r.to, .int .i64 r.month, .int .i64 r.kind, .int .i64 r.wk, .int .i64 r.n, .int .i64 r.at_, .int .i64 r.clock, .int .i64 r.save, af r.letter]) rfl (by kernel_rfl) (by kernel_rfl) (by kernel_rfl) (fun _ _ _ h => h) (yieldsIf_load_mid (by rfl) 40 (.tmp 98) rfl rb (ro + i * 11) rfl (aG r) _ (fun w hSw => hSw.2.2.2.2) Tryz.underlying40 rfl (by kernel_rfl)) (by assumption) ?_
     try simp only [Act.put, j]
     refine wpAnyH_ready (rs := [1,14]) (by kernel_rfl) (by simp) ?_
     refine AllReadyH.cons rfl (fun K hK => ?_) ?_
     ·go_simp
      refine (CA.out _ (show Below w8.heap.size w8 w8.drew from ⟨rfl, rfl, rfl, Nat.le_refl _, fun _ _ => rfl⟩)).mono ?_
      rintro e w73 ⟨rfl, hb7⟩
      have hb := bq hb7
      have S7 := KS.out w73 hb
      refine hK.out _ _ S7 (fun hHeld2 => ?_)
      clear hK K
      try simp only [Act.put, j]
      refine tkH 2 ?vz10 rfl ?z10 ?_
      case z10 => (intro w hSw; (obtain ⟨x0, x1, x2, c7, RR⟩ := hSw); go_simp; try with_reducible rfl)
      try simp only [Act.put, j]
      refine tkH 8 ?vz11 rfl ?z11 ?_
      case z11 => (intro w hSw; (obtain ⟨x0, x1, x2, c7, RR⟩ := hSw); go_simp; try with_reducible rfl)
      try simp only [Act.put, j]
      refine tkH 13 ?vz12 rfl ?z12 ?_
      case z12 => (intro w hSw; (obtain ⟨x0, x1, x2, c7, RR⟩ := hSw); go_simp; try with_reducible rfl)
      try simp only [Act.put, j]
      have B8 : Below w8.heap.size w8 (w73.alloc (.cells #[.int .i64 0, .string ⟨#[]⟩, .int .i64 0, .int .i64 0, .int .i64 0, .int .i64 0, .int .i64 0, .int .i64 0, .int .i64 0, .int .i64 0, .int .i64 0, .string ⟨#[]⟩] 189)) := hb.trans (((q4B w73.heap.size w73).alloc (Nat.le_refl _) _).mono hb.size)
      have S8 := KS.out _ B8
      refine rdH 14 rfl fun K hK => ?_
      go_simp
      refine hK.out _ _ S8 (fun hHeld2 => ?_)
      clear hK K
      try simp only [Act.put, j]
      have T0 := aC w73 [.int .i64 0, .string ⟨#[]⟩, .int .i64 0, .int .i64 0, .int .i64 0, .int .i64 0, .int .i64 0, .int .i64 0, .int .i64 0, .int .i64 0, .int .i64 0, .string ⟨#[]⟩] 189
      have N9 : w8.heap.size ≤ w73.heap.size := hb.size
      have B9 : Below w8.heap.size w8 ((w73.alloc (.cells #[.int .i64 0, .string ⟨#[]⟩, .int .i64 0, .int .i64 0, .int .i64 0, .int .i64 0, .int .i64 0, .int .i64 0, .int .i64 0, .int .i64 0, .int .i64 0, .string ⟨#[]⟩] 189)).setCells w73.heap.size 0 [.int .i64 T, af r.name, .int .i64 r.frm, .int .i64 r.to, .int .i64 r.month, .int .i64 r.kind, .int .i64 r.wk, .int .i64 r.n, .int .i64 r.at_, .int .i64 r.clock, .int .i64 r.save, af r.letter]) := below_setRow N9 _ B8
      have S9 := KS.out _ B9
      have T9 := Be (cs := [.int .i64 T, af r.name, .int .i64 r.frm, .int .i64 r.to, .int .i64 r.month, .int .i64 r.kind, .int .i64 r.wk, .int .i64 r.n, .int .i64 r.at_, .int .i64 r.clock, .int .i64 r.save, af r.letter]) T0 rfl
      have BK := rV (o := 0) [.int .i64 T, af r.name, .int .i64 r.frm, .int .i64 r.to, .int .i64 r.month, .int .i64 r.kind, .int .i64 r.wk, .int .i64 r.n, .int .i64 r.at_, .int .i64 r.clock, .int .i64 r.save, af r.letter] (KP w73 [.int .i64 0, .string ⟨#[]⟩, .int .i64 0, .int .i64 0, .int .i64 0, .int .i64 0, .int .i64 0, .int .i64 0, .int .i64 0, .int .i64 0, .int .i64 0, .string ⟨#[]⟩] 189)
      refine rdH 15 rfl fun K hK => ?_
      rw [if_pos (by rfl)]
      refine wp_store_mid 189 (.tmp 16) (.tmp 100) rfl w73.heap.size 0 #[.int .i64 T, af r.name, .int .i64 r.frm, .int .i64 r.to, .int .i64 r.month, .int .i64 r.kind, .int .i64 r.wk, .int .i64 r.n, .int .i64 r.at_, .int .i64 r.clock, .int .i64 r.save, af r.letter] rfl rfl (show World.there _ _ 0 12 from EQ T0) (by kernel_rfl) (all_oneCell_toArray (cs := bf (T, r)) (oL (T, r))) ?_
      refine hK.out _ _ S9 (fun hHeld2 => ?_)
      clear hK K
      try simp only [Act.put, j]
      refine wpAnyH_done (by kernel_rfl) ?_ _
      go_wp2_with fail
      go_meet
      exact ⟨_, rfl, N9, T9, BK, B9⟩
     refine AllReadyH.cons rfl (fun K hK => ?_) AllReadyH.nil
     have BB : Below w8.heap.size w8 (w8.drew.alloc (.cells #[.int .i64 0, .string ⟨#[]⟩, .int .i64 0, .int .i64 0, .int .i64 0, .int .i64 0, .int .i64 0, .int .i64 0, .int .i64 0, .int .i64 0, .int .i64 0, .string ⟨#[]⟩] 189)) := (show Below w8.heap.size w8 w8.drew from ⟨rfl, rfl, rfl, Nat.le_refl _, fun _ _ => rfl⟩).trans ((q4B w8.drew.heap.size w8.drew).alloc (Nat.le_refl _) _)
     have TB := aC w8.drew [.int .i64 0, .string ⟨#[]⟩, .int .i64 0, .int .i64 0, .int .i64 0, .int .i64 0, .int .i64 0, .int .i64 0, .int .i64 0, .int .i64 0, .int .i64 0, .string ⟨#[]⟩] 189
     have BKB := KP w8.drew [.int .i64 0, .string ⟨#[]⟩, .int .i64 0, .int .i64 0, .int .i64 0, .int .i64 0, .int .i64 0, .int .i64 0, .int .i64 0, .int .i64 0, .int .i64 0, .string ⟨#[]⟩] 189
     go_simp
     have S7 := KS.out _ BB
     refine hK.out _ _ S7 (fun hHeld2 => ?_)
     clear hK K
     try simp only [Act.put, j]
     refine rdH 1 rfl fun K hK => ?_
     go_simp
     refine (CA.out _ BB).mono ?_
     rintro e w73 ⟨rfl, hb7⟩
     have hb := BB.trans (hb7.mono BB.size)
     have S8 := KS.out w73 hb
     refine hK.out _ _ S8 (fun hHeld2 => ?_)
     clear hK K
     try simp only [Act.put, j]
     refine tkH 2 ?vz13 rfl ?z13 ?_
     case z13 => (intro w hSw; (obtain ⟨x0, x1, x2, c7, RR⟩ := hSw); go_simp; try with_reducible rfl)
     try simp only [Act.put, j]
     refine tkH 8 ?vz14 rfl ?z14 ?_
     case z14 => (intro w hSw; (obtain ⟨x0, x1, x2, c7, RR⟩ := hSw); go_simp; try with_reducible rfl)
     try simp only [Act.put, j]
     refine tkH 13 ?vz15 rfl ?z15 ?_
     case z15 => (intro w hSw; (obtain ⟨x0, x1, x2, c7, RR⟩ := hSw); go_simp; try with_reducible rfl)
     try simp only [Act.put, j]
     have T0 : ag w73 w8.heap.size [.int .i64 0, .string ⟨#[]⟩, .int .i64 0, .int .i64 0, .int .i64 0, .int .i64 0, .int .i64 0, .int .i64 0, .int .i64 0, .int .i64 0, .int .i64 0, .string ⟨#[]⟩] := ah TB hb7
     have N9 : w8.heap.size ≤ w8.heap.size := Nat.le_refl _
     have B9 : Below w8.heap.size w8 (w73.setCells w8.heap.size 0 [.int .i64 T, af r.name, .int .i64 r.frm, .int .i64 r.to, .int .i64 r.month, .int .i64 r.kind, .int .i64 r.wk, .int .i64 r.n, .int .i64 r.at_, .int .i64 r.clock, .int .i64 r.save, af r.letter]) := below_setRow N9 _ hb
     have S9 := KS.out _ B9
     have T9 := Be (cs := [.int .i64 T, af r.name, .int .i64 r.frm, .int .i64 r.to, .int .i64 r.month, .int .i64 r.kind, .int .i64 r.wk, .int .i64 r.n, .int .i64 r.at_, .int .i64 r.clock, .int .i64 r.save, af r.letter]) T0 rfl
     have BK := rV (o := 0) [.int .i64 T, af r.name, .int .i64 r.frm, .int .i64 r.to, .int .i64 r.month, .int .i64 r.kind, .int .i64 r.wk, .int .i64 r.n, .int .i64 r.at_, .int .i64 r.clock, .int .i64 r.save, af r.letter] (Bb BKB hb7)
     refine rdH 15 rfl fun K hK => ?_
     rw [if_pos (by rfl)]
     refine wp_store_mid 189 (.tmp 16) (.tmp 100) rfl w8.heap.size 0 #[.int .i64 T, af r.name, .int .i64 r.frm, .int .i64 r.to, .int .i64 r.month, .int .i64 r.kind, .int .i64 r.wk, .int .i64 r.n, .int .i64 r.at_, .int .i64 r.clock, .int .i64 r.save, af r.letter] rfl rfl (show World.there _ _ 0 12 from EQ T0) (by kernel_rfl) (all_oneCell_toArray (cs := bf (T, r)) (oL (T, r))) ?_
     refine hK.out _ _ S9 (fun hHeld2 => ?_)
     clear hK K
     try simp only [Act.put, j]
     refine wpAnyH_done (by kernel_rfl) ?_ _
     go_wp2_with fail
     go_meet
     exact ⟨_, rfl, N9, T9, BK, B9⟩
    case rest =>
    obtain ⟨Z, rfl, hZ, CZ, BZ, BE⟩ := hcut
    obtain ⟨w9, hw9⟩ : ∃ W8, wc = W8 := ⟨_, rfl⟩
    rw [hw9] at CZ BZ BE ⊢
    clear hw9 SS KS CA c0 c1 c2 c3 c4 c5 c6 c7 c8 c9 c10 hrb x0 x1 x2 sx CD hD hc RR
    have B8N : Hid (N ≤ w8.heap.size) := by show _ ≤ _; have := B.out.size; rw [hN] at this; exact this
    replace B : Hid (Below N w w9) := B.out.trans (BE.out.mono (hN ▸ B.out.size))
    have hOZ : ∀ g, (Value.slice al P.length acap).ownBlock = some g → g < Z := fun g hg => q4N (OW.out.lt g hg).2 hZ
    replace OW := hid (nY OW.out BE.out)
    have hNs : N ≤ w9.heap.size := by have := B.out.size; rw [hN] at this; exact this
    have hNZ : N ≤ Z := Nat.le_trans (by have := B8N.out; exact this) hZ
    obtain ⟨Bs, hB1, hB2, hB3, hB4⟩ := QZ hnil OW.out hNs hNZ CZ.out.1
    obtain ⟨i0, hi0, hz0, hz1, hz2⟩ := info_parts Tryz.Rz
    have hP9 : P.length ≤ 8080 := by omega
    have HO3 := hid hB3
    have HB4 := hid hB4
    have HOZ := hid hOZ
    clear hnil OW hB3 hB4 hOZ
    obtain ⟨z0, f0⟩ := aa CZ.out 0 rfl
    obtain ⟨z1, f1⟩ := aa CZ.out 1 rfl
    obtain ⟨z2, f2⟩ := aa CZ.out 2 rfl
    obtain ⟨z3, f3⟩ := aa CZ.out 3 rfl
    obtain ⟨z4, f4⟩ := aa CZ.out 4 rfl
    obtain ⟨z5, f5⟩ := aa CZ.out 5 rfl
    obtain ⟨z6, f6⟩ := aa CZ.out 6 rfl
    obtain ⟨z7, f7⟩ := aa CZ.out 7 rfl
    obtain ⟨z8, f8⟩ := aa CZ.out 8 rfl
    obtain ⟨z9, f9⟩ := aa CZ.out 9 rfl
    obtain ⟨z10, f10⟩ := aa CZ.out 10 rfl
    obtain ⟨z11, f11⟩ := aa CZ.out 11 rfl
    have sz := CZ.out.1
    go_wp2_with (at_builtin; refine wpList_append_own _ rfl _ _ 187 rfl Bs 189 i0 (.agg #[.int .i64 0, .string ⟨#[]⟩, .int .i64 0, .int .i64 0, .int .i64 0, .int .i64 0, .int .i64 0, .int .i64 0, .int .i64 0, .int .i64 0, .int .i64 0, .string ⟨#[]⟩]) 12 112 Tryz.underlying187 hi0 hz0 hz1 hz2 rfl (by decide) _ _ _ rfl (World.ownsRow.alloc HO3.out _) _ 1 1 (bf (T, r)) rfl rfl (dO w9 (bf (T, r))) (oL _) (by unfold maxLen; omega) (by omega) (by simp; omega) ?_)
    intro v' w10 hown' hgrow _
    obtain ⟨g, cap, rfl, hgN, hZg, O10, C10, B10⟩ := Ri hB1 HO3.out HB4.out HOZ.out CZ.out BZ.out B.out hNs hown' hgrow
    have hPl := Nl O10
    replace O10 := hid hPl
    replace C10 := hid C10
    replace B10 := hid B10
    clear hown' hgrow hPl HO3 HB4 HOZ BZ CZ B BE z0 f0 z1 f1 z2 f2 z3 f3 z4 f4 z5 f5 z6 f6 z7 f7 z8 f8 z9 f9 z10 f10 z11 f11 sz hi0 hz0 hz1 hz2
    have c1 : IntKind.i64.wrap ((P.length : Int) + 1 - 1) = (P.length : Int) := by rw [Int.add_sub_cancel]; exact IntWalk.i64_in _ (by omega)
    have c2 : IntKind.i64.wrap (P.length : Int) = (P.length : Int) := IntWalk.i64_in _ (by omega)
    go_wp2_with fail
    go_loopw [17] (fun kv wr => ∃ q : Nat, q ≤ P.length ∧ kv = .int .i64 (q : Int) ∧ Hid (OwnTrn wr N (.slice (some ⟨g, 0, none⟩) (P.length + 1) cap) (Sx.putAt P q (T, r))) ∧ Hid (∀ (j : Nat) (x : Sx.Trn), q ≤ j → P[j]? = some x → T < x.1) ∧ Hid (ag wr Z (bf (T, r))) ∧ Hid (Below N w wr)) (fun kv _ => (intOf kv).toNat)
    case atStart => exact ⟨P.length, Nat.le_refl _, rfl, O10, fun j x h1 h2 => absurd (q4L.1 h2).1 (by omega), C10, B10⟩
    case round =>
     clear O10 C10 B10 c1 c2
     obtain ⟨q, hq, rfl, OQ, HL, CQ, BQ⟩ := hrel
     obtain ⟨z0, f0⟩ := aa CQ.out 0 rfl
     have sz := CQ.out.1
     have FIN : Hid ((∀ x, 0 < q → P[q - 1]? = some x → x.1 ≤ T) → ∃ P' : List Sx.Trn, P'.length ≤ k * 40 + (i + 1) ∧ Hid (P'.Perm (Sx.jl rs name k ++ Sx.kN (rs.take (i + 1)) name y)) ∧ Hid (Sx.xX P') ∧ Hid (OwnTrn wr N (.slice (some ⟨g, 0, none⟩) (P.length + 1) cap) P') ∧ (P' = [] → Value.slice (some ⟨g, 0, none⟩) (P.length + 1) cap = .slice none 0 0)) := fun h2 => by
      refine ⟨Sx.putAt P q (T, r), by rw [Sx.jr]; omega, ?_, Sx.D8 SO.out HL.out h2 hq, OQ, fun z => ?_⟩
      ·show List.Perm _ _
       rw [HYT2.out, HTR.out, ← List.append_assoc]
       exact (Sx.JL P q (T, r)).trans (PE.out.append_right _)
      ·have := Sx.jr P q (T, r); rw [z] at this; simp at this
     cases q with
     | zero =>
       obtain ⟨P', p1, p2, p3, p4, p5⟩ := FIN.out (fun x h => absurd h (by omega))
       clear FIN
       go_wp2_with fail
       go_quiet (fail)
       go_wp2
       go_roundw
       case rel => exact ⟨i + 1, P', by omega, by go_num, by rw [HT.out], p1, p2, p3, p4.out, below_drewN BQ.out _, p5⟩
       case measure => simp [intOf]; omega
     | succ q =>
       have hcast : ((q + 1 : Nat) : Int) = (q : Int) + 1 := rfl
       rw [hcast]
       obtain ⟨x, hx⟩ : ∃ x, P[q]? = some x := ⟨_, q4G (by omega)⟩
       have hx2 : (Sx.putAt P (q + 1) (T, r))[q]? = some x := by rw [Sx.Gv _ (by omega)]; exact hx
       have ht2 : (Sx.putAt P (q + 1) (T, r))[q + 1]? = some (T, r) := Sx.Qt _ hq
       have RDQ := qI OQ.out
       have R1 := Ck RDQ hx2
       have R2 := Ck RDQ ht2
       have gl : g < wr.heap.size := (OQ.out.lt g rfl).2
       have y0 : wr.cell? ⟨g, q * 12, none⟩ = some (.int .i64 x.1) := R1 0 _ rfl
       have e1 : IntKind.i64.wrap ((q : Int) + 1 - 1) = (q : Int) := by rw [Int.add_sub_cancel]; exact IntWalk.i64_in _ (by omega)
       have e2 : IntKind.i64.wrap (q : Int) = (q : Int) := IntWalk.i64_in _ (by omega)
       have b1 : (q : Int) < (P.length : Int) + 1 := by omega
       have b2 : (q : Int) + 1 < (P.length : Int) + 1 := by omega
       have b3 : (0 : Int) ≤ (q : Int) + 1 := by omega
       have HR1 := hid R1
       have HR2 := hid R2
       clear RDQ R1 R2
       by_cases hgt : T < x.1
       case neg =>
        obtain ⟨P', p1, p2, p3, p4, p5⟩ := FIN.out (fun u _ hu => by simp at hu; rw [hx] at hu; simp at hu; subst hu; omega)
        have hd : decide (x.1 > T) = false := by simp; omega
        clear FIN hx hx2 ht2 HR1 HR2
        go_wp2_with fail
        go_quiet (fail)
        go_wp2
        go_roundw
        case rel => exact ⟨i + 1, P', by omega, by go_num, by rw [HT.out], p1, p2, p3, p4.out, below_drewN BQ.out _, p5⟩
        case measure => simp [intOf]; omega
       have hd : decide (x.1 > T) = true := by simp; omega
       have OS := hid (fun (W : World) (hW : OwnTrn W N (.slice (some ⟨g, 0, none⟩) (P.length + 1) cap) (Sx.putAt P (q + 1) (T, r))) => Gl hx hW)
       have HL2 : Hid (∀ (j : Nat) (u : Sx.Trn), q ≤ j → P[j]? = some u → T < u.1) := fun j u hj hu => by
        rcases Nat.eq_or_lt_of_le hj with z | z
        ·subst z; rw [hx] at hu; simp at hu; subst hu; exact hgt
        ·exact HL.out j u z hu
       have T1 : wr.there g ((q + 1) * 12) 12 := CY OQ.out (Sx.jr P (q + 1) (T, r)) (by rw [Sx.jr]; omega)
       have T2 : wr.there g (q * 12) 12 := CY OQ.out (Sx.jr P (q + 1) (T, r)) (by rw [Sx.jr]; omega)
       have HT1 := hid T1
       have HT2 := hid T2
       have KY := hid (show wr.cell? ⟨g, q * 12, none⟩ = some (.int .i64 x.1) ∧ wr.cell? ⟨Z, 0, none⟩ = some (.int .i64 T) from ⟨y0, z0⟩)
       have b0 : (0 : Int) < (q : Int) + 1 := by omega
       clear FIN hx hx2 ht2 T1 T2 HL
       go_upto_region 26 with fail
       refine wp_region_held_drew (S := fun w' => w'.cell? ⟨g, q * 12, none⟩ = some (.int .i64 x.1) ∧ w'.cell? ⟨Z, 0, none⟩ = some (.int .i64 T)) (by kernel_rfl) KY.out (fun hHeld => ?_)
       refine tkA 0 rfl ?_
       refine tkA 1 rfl ?_
       refine tkA 2 rfl ?_
       refine tkA 3 rfl ?_
       refine tkA 4 rfl ?_
       refine tkA 5 rfl ?_
       refine tkA 6 rfl ?_
       refine tkA 7 rfl ?_
       refine tkA 8 rfl ?_
       refine tkA 9 rfl ?_
       refine tkA 10 rfl ?_
       refine tkA 11 rfl ?_
       refine tkA 12 rfl ?_
       refine wpAnyH_done (by kernel_rfl) ?_ _
       obtain ⟨W1, hW1⟩ : ∃ x, wr.drew = x := ⟨_, rfl⟩
       have OQ1 : Hid (OwnTrn W1 N (.slice (some ⟨g, 0, none⟩) (P.length + 1) cap) (Sx.putAt P (q + 1) (T, r))) := hW1 ▸ (World.ownsRow.drew OQ.out)
       have CQ1 : Hid (ag W1 Z (bf (T, r))) := hW1 ▸ qB CQ.out
       have BQ1 : Hid (Below N w W1) := hW1 ▸ below_drewN BQ.out 1
       have HA1 : Hid (W1.rangeAt g (q * 12) (bf x)) := hW1 ▸ HR1.out
       have HA2 : Hid (W1.rangeAt g ((q + 1) * 12) (bf (T, r))) := hW1 ▸ HR2.out
       have HB1 : Hid (W1.drew.there g ((q + 1) * 12) 12) := hW1 ▸ HT1.out
       have HB2 : Hid (W1.drew.there g (q * 12) 12) := hW1 ▸ HT2.out
       have FX : Hid (∀ W2, W1.drew.setCells g ((q + 1) * 12) (bf x) = W2 → W2.there g (q * 12) 12 ∧ OwnTrn (W2.setCells g (q * 12) (bf (T, r))) N (.slice (some ⟨g, 0, none⟩) (P.length + 1) cap) (Sx.putAt P q (T, r)) ∧ ag (W2.setCells g (q * 12) (bf (T, r))) Z (bf (T, r)) ∧ Below N w (W2.setCells g (q * 12) (bf (T, r)))) := by
        rintro W2 rfl
        exact ⟨World.there_setCells (w := W1.drew) HB2.out g ((q + 1) * 12) (bf x), OS.out W1.drew (World.ownsRow.drew OQ1.out), vg (w := W1.drew.setCells g ((q + 1) * 12) (bf x)) hZg _ (vg (w := W1.drew) hZg _ (qB CQ1.out)), below_setRow (w := W1.drew.setCells g ((q + 1) * 12) (bf x)) hgN _ (below_setRow (w := W1.drew) hgN _ (below_drewN BQ1.out 1))⟩
       rw [hW1]
       clear hW1 HR1 HR2 HT1 HT2 OQ CQ BQ KY y0 z0 f0 sz gl hHeld
       go_upto_region 28 with fail
       refine wp_region_held_drew (S := fun _ => True) (by kernel_rfl) trivial (fun hHeld => ?_)
       refine tkA 0 rfl ?_
       refine tkA 1 rfl ?_
       refine tkA 2 rfl ?_
       refine tkA 3 rfl ?_
       refine tkA 4 rfl ?_
       refine tkA 5 rfl ?_
       refine tkA 6 rfl ?_
       refine tkA 7 rfl ?_
       refine tkA 8 rfl ?_
       refine tkA 10 rfl ?_
       refine tkA 11 rfl ?_
       refine tkA 12 rfl ?_
       refine wpAnyH_ready (rs := [9, 13]) (by kernel_rfl) (by simp) ?_
       refine AllReadyH.cons rfl (fun K hK => ?_) ?_
       ·rw [if_pos (by rfl)]
        refine wp_load_mid 189 (.tmp 131) rfl g (q * 12) rfl (bf x) _ HA1.out Tryz.underlying189 rfl (by kernel_rfl) ?_
        refine hK.out _ _ trivial (fun hHeld2 => ?_)
        clear hK K
        try simp only [Act.put, j]
        refine rdH 13 rfl fun K hK => ?_
        rw [if_pos (by rfl)]
        refine wp_load_mid 189 (.tmp 135) rfl g ((q + 1) * 12) rfl (bf (T, r)) _ HA2.out Tryz.underlying189 rfl (by kernel_rfl) ?_
        refine hK.out _ _ trivial (fun hHeld2 => ?_)
        clear hK K
        try simp only [Act.put, j]
        refine tkA 14 rfl ?_
        refine rdH 15 rfl fun K hK => ?_
        rw [if_pos (by rfl)]
        refine wp_store_mid 189 (.tmp 137) (.tmp 132) rfl g ((q + 1) * 12) (bf x).toArray rfl rfl HB1.out (by kernel_rfl) (all_oneCell_toArray (oL _)) ?_
        simp only [List.toList_toArray]
        refine hK.out _ _ trivial (fun hHeld2 => ?_)
        clear hK K
        try simp only [Act.put, j]
        obtain ⟨W2, hW2⟩ : ∃ y, W1.drew.setCells g ((q + 1) * 12) (bf x) = y := ⟨_, rfl⟩
        obtain ⟨f1, f2, f3, f4⟩ := FX.out W2 hW2
        have HB3 := hid f1
        have F2 := hid f2
        have F3 := hid f3
        have F4 := hid f4
        rw [hW2]
        clear hW2 f1 f2 f3 f4
        refine tkA 16 rfl ?_
        refine rdH 17 rfl fun K hK => ?_
        rw [if_pos (by rfl)]
        refine wp_store_mid 189 (.tmp 138) (.tmp 136) rfl g (q * 12) (bf (T, r)).toArray rfl rfl HB3.out (by kernel_rfl) (all_oneCell_toArray (oL _)) ?_
        simp only [List.toList_toArray]
        refine hK.out _ _ trivial (fun hHeld2 => ?_)
        clear hK K
        try simp only [Act.put, j]
        refine wpAnyH_done (by kernel_rfl) ?_ _
        go_wp2_with fail
        go_roundw
        case rel => exact ⟨q, by omega, by go_num, F2, HL2, F3, F4⟩
        case measure => simp [intOf]
       refine AllReadyH.cons rfl (fun K hK => ?_) AllReadyH.nil
       rw [if_pos (by rfl)]
       refine wp_load_mid 189 (.tmp 135) rfl g ((q + 1) * 12) rfl (bf (T, r)) _ HA2.out Tryz.underlying189 rfl (by kernel_rfl) ?_
       refine hK.out _ _ trivial (fun hHeld2 => ?_)
       clear hK K
       try simp only [Act.put, j]
       refine rdH 9 rfl fun K hK => ?_
       rw [if_pos (by rfl)]
       refine wp_load_mid 189 (.tmp 131) rfl g (q * 12) rfl (bf x) _ HA1.out Tryz.underlying189 rfl (by kernel_rfl) ?_
       refine hK.out _ _ trivial (fun hHeld2 => ?_)
       clear hK K
       try simp only [Act.put, j]
       refine tkA 14 rfl ?_
       refine rdH 15 rfl fun K hK => ?_
       rw [if_pos (by rfl)]
       refine wp_store_mid 189 (.tmp 137) (.tmp 132) rfl g ((q + 1) * 12) (bf x).toArray rfl rfl HB1.out (by kernel_rfl) (all_oneCell_toArray (oL _)) ?_
       simp only [List.toList_toArray]
       refine hK.out _ _ trivial (fun hHeld2 => ?_)
       clear hK K
       try simp only [Act.put, j]
       obtain ⟨W2, hW2⟩ : ∃ y, W1.drew.setCells g ((q + 1) * 12) (bf x) = y := ⟨_, rfl⟩
       obtain ⟨f1, f2, f3, f4⟩ := FX.out W2 hW2
       have HB3 := hid f1
       have F2 := hid f2
       have F3 := hid f3
       have F4 := hid f4
       rw [hW2]
       clear hW2 f1 f2 f3 f4
       refine tkA 16 rfl ?_
       refine rdH 17 rfl fun K hK => ?_
       rw [if_pos (by rfl)]
       refine wp_store_mid 189 (.tmp 138) (.tmp 136) rfl g (q * 12) (bf (T, r)).toArray rfl rfl HB3.out (by kernel_rfl) (all_oneCell_toArray (oL _)) ?_
       simp only [List.toList_toArray]
       refine hK.out _ _ trivial (fun hHeld2 => ?_)
       clear hK K
       try simp only [Act.put, j]
       refine wpAnyH_done (by kernel_rfl) ?_ _
       go_wp2_with fail
       go_roundw
       case rel => exact ⟨q, by omega, by go_num, F2, HL2, F3, F4⟩
       case measure => simp [intOf]
end
section
open Go.RowKit Go.Shelf

def o6 {β : Type} (J : β → World → Prop) : Prop := ∀ s W o, J s W → J s (W.alloc o)
def rR {α : Type} (F : Fence) (n : Nat) (P : Program) (g : Nat) (lb : Array Value) (encs : α → Array Value) (Kp : World → World → Prop) (S Sp : List α → Prop) (w : World) : Prop :=
 ∀ (l : Nat) (J Jx : List α → World → Prop) (W : World), Below w.heap.size w W → o6 J → o6 Jx →
  (∀ pre x W1, J pre W1 → Sp (pre ++ [x]) → YieldAt F (n - 1) P l (encs x) W1 fun e W' =>
   (e = .returned (.bool true) ∧ J (pre ++ [x]) W' ∧ Kp W1 W') ∨ (e = .returned (.bool false) ∧ Jx (pre ++ [x]) W')) →
  J [] W →
  CallsIn F n P g (#[.func (.yield l) #[] #[]] ++ lb) W fun e W' => (∃ v, e = .returned v) ∧ ((∃ xs, S xs ∧ J xs W') ∨ (∃ pre, Sp pre ∧ Jx pre W'))
theorem A8 {β : Type} {B : Nat} {J : β → World → Prop} (h : xG B J) : o6 J := fun s W o hs => h s W _ none hs (World.grownBy_alloc W o none) (fun r e => by cases e)
theorem vR {α : Type} {F : Fence} {n : Nat} {P : Program} {g : Nat} {lb : Array Value} {encs : α → Array Value} {Kp : World → World → Prop} {S Sp : List α → Prop} {w : World} (h : rR F n P g lb encs Kp S Sp w) : SeqC F n P g lb encs Kp S Sp w :=
 fun l J Jx W hW hJ hJx hY h0 => h l J Jx W hW (A8 hJ) (A8 hJx) hY h0
theorem oP {α : Type} {F : Fence} {n : Nat} {P : Program} {g : Operand} {ps : Array Tmp} {assign body : Code} {Q : Exit → Act → World → Prop} {a : Act} {w : World}
  (hro : F.round = none) (h1 : 1 ≤ n) {gf : Nat} {lb : Array Value} (hg : a.eval g = .func (.func gf) #[] lb) (hFg : F.fn gf) (eg : ∀ args w, (callFunc gf args).run P w = .ok (.enter gf args) w)
  {encs : α → Array Value} {Kp : World → World → Prop} {S Sp : List α → Prop} {w0 : World} (hseq : rR F (n - 1) P gf lb encs Kp S Sp w0)
  (hKt : ∀ {A B C : World}, Kp A B → Kp B C → Kp A C) (hKb : ∀ (W : World) (l : Nat) (o o' : Obj), w.heap.size ≤ l → W.heap[l]? = some o → o.isCells = false → o.isWalk = false → Kp W (W.putObj l o'))
  (hb0 : Below w0.heap.size w0 w) (hps : ∀ x, (encs x).size = ps.size)
  (I : List α → World → Prop) (Ix : Code → List α → World → Prop) (hI : OwnFrom w.heap.size I) (hIx : ∀ c, OwnFrom w.heap.size (Ix c)) (h0 : I [] w)
  (Ax : α → Act → World → Prop) (hAx : ∀ x a', OwnFrom w.heap.size (fun (_ : Unit) W => Ax x a' W))
  (hassign : ∀ (l : Nat) (pre : List α) (x : α) (W : World) (K : Act → World → Prop), I pre W → w.heap.size + 2 ≤ W.heap.size → (∀ a' W', KeepsFrom w.heap.size W W' → Kp W W' → I pre W' → Ax x a' W' → K a' W') →
   assign.wpIn (F.inRound l) (n - 1 - 1) P (Exit.then K (fun _ _ _ => False)) { tmps := (ps.zip (encs x)).foldl (fun t (p, v) => t.setIfInBounds p v) a.tmps, defers := [] } W)
  (hbody : ∀ (l : Nat) (pre : List α) (x : α) (a' : Act) (W : World), w.heap.size ≤ l → (∃ r, W.heap[l]? = some (.loop r)) → I pre W → Ax x a' W → Sp (pre ++ [x]) → w.heap.size + 2 ≤ W.heap.size →
   body.wpIn (F.inRound l) (n - 1 - 1) P (ownPostG w.heap.size Kp I Ix (pre ++ [x]) W) a' W)
  (hdone : ∀ (D : Nat) (xs : List α) (W : World), w.heap.size ≤ D → S xs → I xs W → W.heap[D]? = some (.deferred (some [])) → Q .normal { a with defers := { target := .collected D, args := #[] } :: a.defers } W)
  (hstop : ∀ (D : Nat) (c : Code) (pre : List α) (W : World), w.heap.size ≤ D → Sp pre → Ix c pre W → W.heap[D]? = some (.deferred (some [])) → c.wpIn F n P Q { a with defers := { target := .collected D, args := #[] } :: a.defers } W) :
  (Code.rangeFunc g ps assign body).wpIn F n P Q a w := by
 refine wpIn_rangeFunc fun fn hfn => ?_
 rw [hro]
 have oI := hI
 have oIx := hIx
 obtain ⟨D, hD⟩ : ∃ D, w.heap.size = D := ⟨_, rfl⟩
 obtain ⟨rc, hrc⟩ : ∃ rc : LoopState → Option Code → Loop, rc = fun st pe => { state := st, pending := pe, fn, tmps := a.tmps, params := ps, assign, body, defers := D } := ⟨_, rfl⟩
 obtain ⟨V, hV⟩ : ∃ V, (w.alloc (.deferred (some []))).alloc (.loop (rc .ready none)) = V := ⟨_, rfl⟩
 have sV : V.heap.size = D + 2 := by rw [← hV]; simp [hD]
 have vL : V.heap[D + 1]? = some (.loop (rc .ready none)) := by
  have := World.alloc_heap_new (w.alloc (.deferred (some []))) (.loop (rc .ready none))
  rw [World.size_alloc, hD, hV] at this; exact this
 have vD : V.heap[D]? = some (.deferred (some [])) := by
  rw [← hV, Below.heap_alloc _ _ _ (by simp [hD]), ← hD]; exact World.alloc_heap_new w _
 have vI : I [] V := by rw [← hV]; exact oI.alloc _ (oI.alloc _ h0)
 have vB : Below w0.heap.size w0 V := by
  rw [← hV]; exact hb0.trans ((((q4B _ w).alloc (Nat.le_refl _) _).alloc (by simp) _).mono hb0.size)
 rw [hD] at hKb oI oIx hAx hassign hbody hdone hstop hI hIx
 refine ⟨D + 1, [{ target := .collected D, args := #[] }], V, { target := .fn (.func gf) lb, args := #[.func (.yield (D + 1)) #[] #[]] }, V, gf, #[.func (.yield (D + 1)) #[] #[]] ++ lb, V, ?_, ?_, ?_, ?_, fun _ => h1, ?_⟩
 ·rw [← hV, hrc, ← hD]; exact run_enterLoop_outer _ _ _ _ _
 ·simp only [resolve, hg]; simp [go_sem]
 ·intro f' hf'; simp [Target.leads] at hf'; subst hf'; exact hFg
 ·simp [invoke, go_sem, eg]
 /- what stands between two rounds: the caller's own, and the two blocks that the loop laid -/
 refine (hseq (D + 1)
  (fun pre W => I pre W ∧ W.heap[D + 1]? = some (.loop (rc .ready none)) ∧ W.heap[D]? = some (.deferred (some [])))
  (fun pre W => ∃ c, Ix c pre W ∧ W.heap[D + 1]? = some (.loop (rc .done (some c))) ∧ W.heap[D]? = some (.deferred (some [])))
  V vB
  (fun s A o hs => ⟨oI.alloc _ hs.1, (Below.heap_alloc _ _ _ (q4A.1 hs.2.1).1).trans hs.2.1, (Below.heap_alloc _ _ _ (q4A.1 hs.2.2).1).trans hs.2.2⟩)
  (fun s A o hs => by
   obtain ⟨c, hc, hl, hk⟩ := hs
   exact ⟨c, (oIx c).alloc _ hc, (Below.heap_alloc _ _ _ (q4A.1 hl).1).trans hl, (Below.heap_alloc _ _ _ (q4A.1 hk).1).trans hk⟩)
  ?_ ⟨vI, vL, vD⟩).mono ?_
 ·rintro pre x W ⟨hi, hl, hk⟩ hlen
  have hlt : D + 1 < W.heap.size := (q4A.1 hl).1
  have hy := run_yield (P := P) (args := encs x) hl (by rw [hrc]; exact hps x)
  rw [hrc] at hy
  refine ⟨fn, _, assign, body, hy, roundIn_of_wpIn hfn (hassign _ pre x W _ hi (by omega) ?_)⟩
  clear hy
  intro a' X kX pX iX aX
  have xl := kX.same _ _ (by omega) hl rfl
  have xk := kX.same _ _ (Nat.le_refl _) hk rfl
  have xs : D + 1 < X.heap.size := (q4A.1 xl).1
  obtain ⟨Y, hY⟩ : ∃ Y, X.putObj (D + 1) (.loop { rc .ready none with state := .busy }) = Y := ⟨_, rfl⟩
  refine ⟨Y, by rw [← hY]; exact run_beginRound xl (by rw [hrc]), ?_⟩
  have yl : Y.heap[D + 1]? = some (.loop { rc .ready none with state := .busy }) := by rw [← hY]; exact World.putObj_heap_same xs
  have yk : Y.heap[D]? = some (.deferred (some [])) := by rw [← hY]; exact (World.putObj_heap_other (by omega)).trans xk
  have ys : D + 1 < Y.heap.size := (q4A.1 yl).1
  have yp : Kp X Y := by rw [← hY]; exact hKb _ _ _ _ (by omega) xl rfl rfl
  have yI : I pre Y := by rw [← hY]; exact oI.putObj _ iX (by omega) xl rfl
  have yA : Ax x a' Y := by rw [← hY]; exact (hAx x a').putObj (s := ()) _ aX (by omega) xl rfl
  refine wpIn_mono (hbody _ pre x a' Y (by omega) ⟨_, yl⟩ yI yA hlen (by omega)) ?_
  /- how a round ends -/
  have fin : ∀ (jump : Option Code) (Z : World), KeepsFrom D Y Z →
    (Instr.endRound (D + 1) jump).run P Z = .ok (.bool jump.isNone) (Z.putObj (D + 1) (.loop (rc (if jump.isNone then .ready else .done) jump))) ∧
    Z.heap[D + 1]? = some (.loop { rc .ready none with state := .busy }) ∧
    (Z.putObj (D + 1) (.loop (rc (if jump.isNone then .ready else .done) jump))).heap[D + 1]? = some (.loop (rc (if jump.isNone then .ready else .done) jump)) ∧
    (Z.putObj (D + 1) (.loop (rc (if jump.isNone then .ready else .done) jump))).heap[D]? = some (.deferred (some [])) := fun jump Z hz => by
   have zl := hz.same _ _ (by omega) yl rfl
   have e := run_endRound (P := P) jump zl
   rw [hrc] at e zl ⊢
   exact ⟨e, zl, World.putObj_heap_same (q4A.1 zl).1, (World.putObj_heap_other (by omega)).trans (hz.same _ _ (Nat.le_refl _) yk rfl)⟩
  have out : ∀ (p : Value → World → Prop) (c : Code) (Z : World), KeepsFrom D Y Z → Ix c (pre ++ [x]) Z → ∃ e Z', (Instr.endRound (D + 1) (some c)).run P Z = .ok e Z' ∧ (p e Z' ∨ Ending.returned e = .returned (.bool false) ∧ ∃ c, Ix c (pre ++ [x]) Z' ∧ Z'.heap[D + 1]? = some (.loop (rc .done (some c))) ∧ Z'.heap[D]? = some (.deferred (some []))) := fun p c Z hz hi3 => by
   obtain ⟨hr, zl, zl2, zk2⟩ := fin (some c) Z hz
   exact ⟨_, _, hr, .inr ⟨rfl, c, (oIx c).putObj _ hi3 (by omega) zl rfl, zl2, zk2⟩⟩
  rintro e a3 Z hp
  cases e with
  | normal =>
    obtain ⟨hz, hkp, hi3⟩ := hp
    obtain ⟨hr, zl, zl2, zk2⟩ := fin none Z hz
    exact ⟨_, _, hr, .inl ⟨rfl, ⟨oI.putObj _ hi3 (by omega) zl rfl, zl2, zk2⟩, hKt pX (hKt (hKt yp hkp) (hKb _ _ _ _ (by omega) zl rfl rfl))⟩⟩
  | ret => exact out (fun e Z' => Ending.returned e = .returned (.bool true) ∧ _) _ Z hp.1 hp.2
  | exit id => exact out (fun e Z' => Ending.returned e = .returned (.bool true) ∧ _) _ Z hp.1 hp.2
  | goto t => exact out (fun e Z' => Ending.returned e = .returned (.bool true) ∧ _) _ Z hp.1 hp.2
  | panic ch => exact hp.elim
  | outgrown => exact hp.elim
 ·rintro e X ⟨⟨v, rfl⟩, (⟨ys, hS, hi, hl, hk⟩ | ⟨pre, hSp, c, hi, hl, hk⟩)⟩
  ·exact ⟨none, _, by have := run_endLoop (P := P) hl (by rw [hrc]; simp); rw [hrc] at this; exact this, hdone _ ys _ (Nat.le_refl _) hS (oI.putObj _ hi (by omega) hl rfl) ((World.putObj_heap_other (by omega)).trans hk)⟩
  ·exact ⟨some c, _, by have := run_endLoop (P := P) hl (by rw [hrc]; simp); rw [hrc] at this; exact this, hstop _ c pre _ (Nat.le_refl _) hSp ((oIx c).putObj _ hi (by omega) hl rfl) ((World.putObj_heap_other (by omega)).trans hk)⟩
end
end Go.Proofs.YtkhlkohlccndgaaGreat
