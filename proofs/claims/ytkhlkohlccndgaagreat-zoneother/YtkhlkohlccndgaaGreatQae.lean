/- Part of the proof: Rc RcS Sc ScR RfA RfW TkP. -/
import Derived.Test.YtkhlkohlccndgaaGreatQz
import Derived.Test.YtkhlkohlccndgaaGreatQaa
import Derived.Test.YtkhlkohlccndgaaGreatQac
import Derived.Test.YtkhlkohlccndgaaGreatQad
import Derived.Deep.Cut
import Derived.Deep.CutRange
import Derived.Deep.RegionHeld3
import Derived.Deep.DrawnRows
set_option linter.unusedVariables false
set_option linter.unusedSimpArgs false
set_option maxRecDepth 100000
set_option maxHeartbeats 16000000
namespace Go.Proofs.YtkhlkohlccndgaaGreat
section
open Go.RowKit

theorem ni {n a b : Int} {r : Bool} (h : Sx.inB n a b = r) : decide (a ≤ n ∧ n ≤ b) = r := h
theorem A7 (l : Tx.Bs) (w : World) (hs : l.length ≤ maxLen) {b : Bool} (h : Sx.dS l = b) : Calls Tryz.prog 164 #[ag l] w fun e w' => e = .returned (.bool b) ∧ w' = w :=
 tC _ w (by rw [bT]; exact hs) (by rw [eF]; exact h)
theorem ve (l : Tx.Bs) (w : World) (hs : l.length ≤ maxLen) {b : Bool} (h : Sx.dw l = b) : Calls Tryz.prog 167 #[ag l] w fun e w' => e = .returned (.bool b) ∧ w' = w :=
 sO _ w (by rw [bT]; exact hs) (by rw [eF]; exact h)

theorem vX (r : Sx.Rl) (w : World) (hl : r.letter.length ≤ maxLen) :
  Calls Tryz.prog 119 #[nG r] w fun e w' => e = .returned (.int .i64 (Sx.dI r)) ∧ Below w.heap.size w w' := by
 obtain ⟨name, frm, to_, month, kind, wk, n, at_, clock, save, letter⟩ := r
 obtain ⟨R, hR⟩ : ∃ R, Sx.dI ⟨name, frm, to_, month, kind, wk, n, at_, clock, save, letter⟩ = R := ⟨_, rfl⟩
 rw [hR]
 simp only at hl
 unfold Sx.dI at hR
 simp only at hR
 obtain ⟨N, hN⟩ : ∃ N, Sx.bF name = N := ⟨_, rfl⟩
 obtain ⟨L, hL⟩ : ∃ L, Sx.dS letter = L := ⟨_, rfl⟩
 obtain ⟨F, hF⟩ : ∃ F, Sx.inB frm 1900 to_ = F := ⟨_, rfl⟩
 obtain ⟨M, hM⟩ : ∃ M, Sx.inB month 1 12 = M := ⟨_, rfl⟩
 obtain ⟨O, hO⟩ : ∃ O, Cv.onE 2001 month kind wk n = O := ⟨_, rfl⟩
 obtain ⟨A, hA⟩ : ∃ A, Sx.inB at_ 0 172800 = A := ⟨_, rfl⟩
 obtain ⟨C, hC⟩ : ∃ C, Sx.inB clock 1 3 = C := ⟨_, rfl⟩
 obtain ⟨S, hS⟩ : ∃ S, Sx.inB save 0 10800 = S := ⟨_, rfl⟩
 rw [hN, hL, hF, hM, hO, hA, hC, hS] at hR
 have HN := hid hN
 have HL := hid hL
 have HF := hid hF
 have HM := hid hM
 have HO := hid hO
 have HA := hid hA
 have HC := hid hC
 have HS := hid hS
 have HR := hid hR
 have SL := hid hl
 clear hN hL hF hM hO hA hC hS hR hl
 have XV := hid (aD w (ah ⟨name, frm, to_, month, kind, wk, n, at_, clock, save, letter⟩) 40)
 have BV := hid ((q4B w.heap.size w).alloc (Nat.le_refl _) (.cells (ah ⟨name, frm, to_, month, kind, wk, n, at_, clock, save, letter⟩).toArray 40))
 go_enter Tryz.func119, Tryz.ntmps119
 go_wp2_with fail
 refine (fG _ _ HN.out).mono ?_
 rintro e w1 ⟨rfl, rfl⟩
 cases N
 ·go_wp2
  go_ret
  exact ⟨ay (by rw [← HR.out]; rfl), BV.out⟩
 go_wp2_with fail
 refine (A7 _ _ SL.out HL.out).mono ?_
 rintro e w1 ⟨rfl, rfl⟩
 cases L
 ·go_wp2
  go_ret
  exact ⟨ay (by rw [← HR.out]; rfl), BV.out⟩
 go_wp2_with fail
 refine (av _ _ _ _ (ni HF.out)).mono ?_
 rintro e w1 ⟨rfl, rfl⟩
 cases F
 ·go_wp2
  go_ret
  exact ⟨ay (by rw [← HR.out]; rfl), BV.out⟩
 by_cases hT : 2100 < to_
 ·go_wp2
  go_ret
  exact ⟨ay (by rw [← HR.out, decide_eq_false (show ¬ to_ ≤ 2100 by omega)]; rfl), BV.out⟩
 have HT : Hid (decide (to_ ≤ 2100) = true) := decide_eq_true (by omega)
 go_wp2_with fail
 refine (av _ _ _ _ (ni HM.out)).mono ?_
 rintro e w1 ⟨rfl, rfl⟩
 cases M
 ·go_wp2
  go_ret
  exact ⟨ay (by rw [← HR.out, HT.out]; rfl), BV.out⟩
 go_wp2_with fail
 refine (Ku _ _ _ _ _ _ _ HO.out).mono ?_
 rintro e w1 ⟨a, b, d, rfl, hb⟩
 have X1 := hid (ai XV.out hb)
 have B1 : Hid (Below w.heap.size w w1) := BV.out.trans (hb.mono BV.out.size)
 clear hb XV BV
 have X2 := hid (aM X1.out (.cells #[.int .i64 a, .int .i64 b, .int .i64 d] 63))
 have B2 := hid (Below.alloc B1.out B1.out.size (.cells #[.int .i64 a, .int .i64 b, .int .i64 d] 63))
 by_cases h0 : O = 0
 case neg =>
  have h0' : (O != 0) = true := by simp [h0]
  go_wp2
  go_ret
  refine ⟨ay ?_, B2.out⟩
  rw [← HR.out, HT.out]; simp [h0]
 subst h0
 obtain ⟨V, hV⟩ : ∃ V, w1.alloc (.cells #[.int .i64 a, .int .i64 b, .int .i64 d] 63) = V := ⟨_, rfl⟩
 rw [hV] at X2 B2
 obtain ⟨x5, _⟩ := aa X2.out 7 rfl
 obtain ⟨x6, _⟩ := aa X2.out 8 rfl
 obtain ⟨x7, _⟩ := aa X2.out 9 rfl
 have sx := X2.out.1
 clear X1 B1
 go_wp2_with fail
 refine (av _ _ _ _ (ni HA.out)).mono ?_
 rintro e w2 ⟨rfl, rfl⟩
 cases A
 ·go_wp2
  go_ret
  exact ⟨ay (by rw [← HR.out, HT.out]; rfl), B2.out⟩
 go_wp2_with fail
 refine (av _ _ _ _ (ni HC.out)).mono ?_
 rintro e w2 ⟨rfl, rfl⟩
 cases C
 ·go_wp2
  go_ret
  exact ⟨ay (by rw [← HR.out, HT.out]; rfl), B2.out⟩
 go_wp2_with fail
 refine (av _ _ _ _ (ni HS.out)).mono ?_
 rintro e w2 ⟨rfl, rfl⟩
 cases S
 ·go_wp2
  go_ret
  exact ⟨ay (by rw [← HR.out, HT.out]; rfl), B2.out⟩
 go_wp2
 go_ret
 exact ⟨ay (by rw [← HR.out, HT.out]; rfl), B2.out⟩

theorem wm (y m d a c : Int) (w : World) :
  Calls Tryz.prog 61 #[.agg #[.int .i64 y, .int .i64 m, .int .i64 d, .int .i64 a, .int .i64 c], .agg #[.int .i64 0, .int .i64 0, .int .i64 0, .int .i64 0, .int .i64 0]] w fun e w' => e = .returned (.bool (decide (y = 0 ∧ m = 0 ∧ d = 0 ∧ a = 0 ∧ c = 0))) ∧ Below w.heap.size w w' := by
 obtain ⟨Z, hZ⟩ : ∃ Z, decide (y = 0 ∧ m = 0 ∧ d = 0 ∧ a = 0 ∧ c = 0) = Z := ⟨_, rfl⟩
 rw [hZ]
 have HZ := hid hZ
 clear hZ
 go_enter Tryz.func61, Tryz.ntmps61
 go_wp2
 all_goals
  go_ret
  refine ⟨aC ?_, ((q4B _ _).alloc (Nat.le_refl _) _).alloc (by simp) _⟩
  rw [← HZ.out, Bool.eq_iff_iff]
  simp_all
theorem FQ (y m d : Int) (w : World) {b : Bool} (h : Cv.gX y m d = b) :
  Calls Tryz.prog 168 #[.agg #[.int .i64 y, .int .i64 m, .int .i64 d]] w fun e w' => e = .returned (.bool b) ∧ Below w.heap.size w w' := by
 cases b
 ·exact FU y m d w h
 ·exact Dg y m d w h
theorem zM (x : Sx.Er) (w : World) {b : Bool} (h : Sx.wI x = b) :
  Calls Tryz.prog 61 #[.agg #[.int .i64 x.uy, .int .i64 x.um, .int .i64 x.ud, .int .i64 x.uat, .int .i64 x.uclock], .agg #[.int .i64 0, .int .i64 0, .int .i64 0, .int .i64 0, .int .i64 0]] w fun e w' => e = .returned (.bool b) ∧ Below w.heap.size w w' := by
 subst h; exact wm _ _ _ _ _ w

theorem xg (x : Sx.Er) (last : Bool) (w : World) (hl : x.format.length ≤ maxLen) :
  Calls Tryz.prog 121 #[gZ x, .bool last] w fun e w' => e = .returned (.int .i64 (Sx.eD x last)) ∧ Below w.heap.size w w' := by
 obtain ⟨R, hR⟩ : ∃ R, Sx.eD x last = R := ⟨_, rfl⟩
 rw [hR]
 unfold Sx.eD at hR
 have HX : Hid (x = ⟨x.shift, x.rules, x.save, x.format, x.opn, x.uy, x.um, x.ud, x.uat, x.uclock⟩) := rfl
 obtain ⟨P, hP⟩ : ∃ P, x.rules.isEmpty = P := ⟨_, rfl⟩
 obtain ⟨N, hN⟩ : ∃ N, Sx.bF x.rules = N := ⟨_, rfl⟩
 obtain ⟨F, hF⟩ : ∃ F, Sx.dw x.format = F := ⟨_, rfl⟩
 obtain ⟨S, hS⟩ : ∃ S, Sx.inB x.shift (-64800) 64800 = S := ⟨_, rfl⟩
 obtain ⟨V, hV⟩ : ∃ V, Sx.inB x.save 0 10800 = V := ⟨_, rfl⟩
 obtain ⟨E, hE⟩ : ∃ E, Sx.pg x = E := ⟨_, rfl⟩
 rw [hP, hN, hF, hS, hV, hE] at hR
 obtain ⟨U, hU⟩ : ∃ U, Sx.wI x = U := ⟨_, rfl⟩
 obtain ⟨D, hD⟩ : ∃ D, Cv.gX x.uy x.um x.ud = D := ⟨_, rfl⟩
 obtain ⟨T, hT⟩ : ∃ T, Sx.inB x.uat 0 172800 = T := ⟨_, rfl⟩
 unfold Sx.pg at hE
 rw [hU, hD, hT] at hE
 have HN := hid hN
 have HF := hid hF
 have HS := hid hS
 have HV := hid hV
 have HE := hid hE
 have HU := hid hU
 have HD := hid hD
 have HT := hid hT
 have HR := hid hR
 have SL := hid hl
 clear hN hF hS hV hE hU hD hT hR hl
 have XV := hid (aD w (ax x) 67)
 have BV := hid ((q4B w.heap.size w).alloc (Nat.le_refl _) (.cells (ax x).toArray 67))
 obtain ⟨G1, hG1⟩ : ∃ G, ((P || N) && F) = G := ⟨_, rfl⟩
 obtain ⟨G2, hG2⟩ : ∃ G, (P || decide (x.save = 0)) = G := ⟨_, rfl⟩
 have HR1 : Hid ((if G1 = false then 1 else if S = false then 3 else if V = false then 3 else if G2 = false then 1 else if x.opn ≠ last then 4 else E) = R) := by show _ = _; rw [← hG1, ← hG2]; exact HR.out
 have HG1 := hid hG1
 have HG2 := hid hG2
 clear HR hG1 hG2
 have hPe : (!x.rules.isEmpty) = !P := by rw [hP]
 have HP := hid hP
 clear hP
 go_enter Tryz.func121, Tryz.ntmps121
 go_upto_region 1 with fail
 obtain ⟨W, hW⟩ : ∃ W, w.alloc (.cells (ax x).toArray 67) = W := ⟨_, rfl⟩
 rw [show w.alloc (.cells #[.int .i64 x.shift, ag x.rules, .int .i64 x.save, ag x.format, .bool x.opn, .int .i64 x.uy, .int .i64 x.um, .int .i64 x.ud, .int .i64 x.uat, .int .i64 x.uclock] 67) = W from hW]
 rw [hW] at XV BV
 clear hW
 obtain ⟨⟨x0, _⟩, ⟨x1, _⟩, ⟨x2, _⟩, ⟨x3, _⟩, ⟨x4, _⟩, ⟨x5, _⟩, ⟨x6, _⟩, ⟨x7, _⟩, ⟨x8, _⟩, ⟨x9, _⟩, sx⟩ := cp10 XV.out
 go_cut [19] from 5 to 18 (fun s wc => s = .bool (!G1) ∧ wc = W)
 case first =>
  cases P
  ·go_wp2_with fail
   refine (fG _ _ HN.out).mono ?_
   rintro e w1 ⟨rfl, rfl⟩
   cases N
   ·go_wp2_with fail
    go_meet
    exact ⟨by rw [← HG1.out]; rfl, rfl⟩
   ·go_wp2_with fail
    refine (ve _ _ SL.out HF.out).mono ?_
    rintro e w1 ⟨rfl, rfl⟩
    go_wp2_with fail
    go_meet
    exact ⟨by rw [← HG1.out]; rfl, rfl⟩
  ·go_wp2_with fail
   refine (ve _ _ SL.out HF.out).mono ?_
   rintro e w1 ⟨rfl, rfl⟩
   go_wp2_with fail
   go_meet
   exact ⟨by rw [← HG1.out]; rfl, rfl⟩
 case rest =>
 obtain ⟨rfl, hq⟩ := hcut
 rw [hq]
 clear hq
 cases G1
 ·go_wp2
  go_ret
  exact ⟨ay (by rw [← HR1.out]; rfl), BV.out⟩
 go_wp2_with fail
 refine (av _ _ _ _ (ni HS.out)).mono ?_
 rintro e w1 ⟨rfl, hq⟩
 rw [hq]
 clear hq
 cases S
 ·go_wp2
  go_ret
  exact ⟨ay (by rw [← HR1.out]; rfl), BV.out⟩
 go_wp2_with fail
 refine (av _ _ _ _ (ni HV.out)).mono ?_
 rintro e w1 ⟨rfl, hq⟩
 rw [hq]
 clear hq
 cases V
 ·go_wp2
  go_ret
  exact ⟨ay (by rw [← HR1.out]; rfl), BV.out⟩
 go_upto_region 5 with fail
 go_cut [37] from 30 to 36 (fun s wc => s = .bool (!G2) ∧ wc = W)
 case first =>
  cases P
  ·go_wp2_with fail
   go_meet
   exact ⟨by rw [← HG2.out]; simp [bne, BEq.beq], rfl⟩
  ·go_wp2_with fail
   go_meet
   exact ⟨by rw [← HG2.out]; rfl, rfl⟩
 case rest =>
 obtain ⟨rfl, hq⟩ := hcut
 rw [hq]
 clear hq
 cases G2
 ·go_wp2
  go_ret
  exact ⟨ay (by rw [← HR1.out]; rfl), BV.out⟩
 cases hO : x.opn
 ·rw [hO] at x4
  cases last
  case true =>
   go_wp2
   go_ret
   exact ⟨ay (by rw [← HR1.out, hO]; rfl), BV.out⟩
  have HR2 : Hid (E = R) := by show _ = _; rw [← HR1.out, hO]; rfl
  have HE2 : Hid ((if D = false then (3 : Int) else if T = false then 3 else if x.uclock = 2 ∨ x.uclock = 3 then 0 else 7) = R) := by show _ = _; rw [← HR2.out, ← HE.out, hO]; rfl
  go_wp2_with fail
  refine (FQ _ _ _ _ HD.out).mono ?_
  rintro e w1 ⟨rfl, hb⟩
  have X1 := hid (ai XV.out hb)
  have B1 : Hid (Below w.heap.size w w1) := BV.out.trans (hb.mono BV.out.size)
  clear hb XV BV x0 x1 x2 x3 x4 x5 x6 x7 x8 x9 sx
  obtain ⟨x8, _⟩ := aa X1.out 8 rfl
  obtain ⟨x9, _⟩ := aa X1.out 9 rfl
  have sx := X1.out.1
  cases D
  ·go_wp2
   go_ret
   exact ⟨ay (by rw [← HE2.out]; rfl), B1.out⟩
  go_wp2_with fail
  refine (av _ _ _ _ (ni HT.out)).mono ?_
  rintro e w2 ⟨rfl, rfl⟩
  cases T
  ·go_wp2
   go_ret
   exact ⟨ay (by rw [← HE2.out]; rfl), B1.out⟩
  by_cases h2 : x.uclock = 2
  ·have HE3 : Hid ((0 : Int) = R) := by show _ = _; rw [← HE2.out]; simp [h2]
   have n2 : (x.uclock != 2) = false := by simp [h2]
   go_wp2
   go_ret
   exact ⟨ay HE3.out, B1.out⟩
  have n2 : (x.uclock != 2) = true := by simp [h2]
  by_cases h3 : x.uclock = 3
  ·have HE3 : Hid ((0 : Int) = R) := by show _ = _; rw [← HE2.out]; simp [h3]
   have n3 : (x.uclock != 3) = false := by simp [h3]
   go_wp2
   go_ret
   exact ⟨ay HE3.out, B1.out⟩
  have n3 : (x.uclock != 3) = true := by simp [h3]
  have HE3 : Hid ((7 : Int) = R) := by show _ = _; rw [← HE2.out]; simp [h2, h3]
  go_wp2
  go_ret
  exact ⟨ay HE3.out, B1.out⟩
 ·rw [hO] at x4
  cases last
  case false =>
   go_wp2
   go_ret
   exact ⟨ay (by rw [← HR1.out, hO]; rfl), BV.out⟩
  have HR2 : Hid (E = R) := by show _ = _; rw [← HR1.out, hO]; rfl
  have HE2 : Hid ((if U = true then (0 : Int) else 1) = R) := by show _ = _; rw [← HR2.out, ← HE.out, hO]; rfl
  go_wp2_with fail
  refine (zM x _ HU.out).mono ?_
  rintro e w1 ⟨rfl, hb⟩
  have B1 : Hid (Below w.heap.size w w1) := BV.out.trans (hb.mono BV.out.size)
  cases U
  ·go_wp2
   go_ret
   exact ⟨ay (by rw [← HE2.out]; rfl), B1.out⟩
  ·go_wp2
   go_ret
   exact ⟨ay (by rw [← HE2.out]; rfl), B1.out⟩
end
section
open Go.RowKit

/- texts of a source that are not too long for any machine -/
structure mO (s : Sx.Sr) : Prop where
 rules : ∀ r ∈ s.rules, r.name.length ≤ maxLen ∧ r.letter.length ≤ maxLen
 zones : ∀ z ∈ s.zones, z.name.length ≤ maxLen ∧ ∀ x ∈ z.eras, x.rules.length ≤ maxLen ∧ x.format.length ≤ maxLen
 links : ∀ l ∈ s.links, l.to.length ≤ maxLen ∧ l.name.length ≤ maxLen
theorem dx {α : Type} {z : Nat} {cells : α → List Value} {w : World} {a : Option Addr} {n cap : Nat} {xs : List α} {i : Nat} {x : α} (h : Rd z cells w (.slice a n cap) xs) (hx : xs[i]? = some x) :
  ∃ b o, a = some ⟨b, o, none⟩ ∧ b < w.heap.size ∧ ∀ k u, (cells x)[k]? = some u → w.cell? ⟨b, o + i * z + k, none⟩ = some u := by
 obtain ⟨a', cap', h1, h2⟩ := h
 simp at h1
 obtain ⟨rfl, _, _⟩ := h1
 obtain ⟨b, o, e, hb, hc⟩ := h2 (by rintro rfl; simp at hx)
 exact ⟨b, o, e, hb, hc i x hx⟩
theorem kw {w : World} {a : Option Addr} {n cap : Nat} {zs : List Sx.Zn} {i : Nat} {x : Sx.Zn} (h : fE w (.slice a n cap) zs) (hx : zs[i]? = some x) :
  ∃ b o ea ecap, a = some ⟨b, o, none⟩ ∧ b < w.heap.size ∧ w.cell? ⟨b, o + i * 2, none⟩ = some (ag x.name) ∧ w.cell? ⟨b, o + i * 2 + 1, none⟩ = some (.slice ea x.eras.length ecap) ∧ gQ w (.slice ea x.eras.length ecap) x.eras := by
 obtain ⟨b, o, cap', e, hb, hc⟩ := Kr h (by rintro rfl; simp at hx)
 simp at e
 obtain ⟨c0, ev, c1, hr⟩ := hc i x hx
 obtain ⟨ea, ecap, rfl⟩ := bP hr
 exact ⟨b, o, ea, ecap, e.1, hb, c0, c1, hr⟩
theorem om {α : Type} (f : α → Int) {l : List α} {i : Nat} {x : α} {R K : Int} (h : l[i]? = some x) (hR : R = Sx.orE (Sx.az f (l.drop i)) K) (hx : f x ≠ 0) : R = f x := by
 rw [hR, Sx.kJ f h, if_pos hx, Sx.Bf hx]
theorem Bg {α : Type} (f : α → Int) {l : List α} {i : Nat} {x : α} {R K : Int} (h : l[i]? = some x) (hR : R = Sx.orE (Sx.az f (l.drop i)) K) (hx : f x = 0) : R = Sx.orE (Sx.az f (l.drop (i + 1))) K := by
 rw [hR, Sx.kJ f h, if_neg (by simp [hx])]
theorem EU {α : Type} (f : α → Int) {l : List α} {i : Nat} {R K : Int} (h : ¬ i < l.length) (hR : R = Sx.orE (Sx.az f (l.drop i)) K) : R = K := by
 rw [hR, Sx.eX f h, Sx.rF rfl]
theorem wK {z : Sx.Zn} (h : Sx.bF z.name = false) : Sx.dB z = 1 := by simp [Sx.dB, h]
theorem wL {z : Sx.Zn} (h : z.eras.length = 0) : Sx.dB z = 1 := by simp [Sx.dB, List.length_eq_zero_iff.1 h]
theorem Es {z : Sx.Zn} (h : Sx.bF z.name = true) (h2 : ¬ z.eras.length = 0) : Sx.dB z = Sx.iI (z.eras.drop 0) := by
 have : z.eras ≠ [] := fun q => h2 (by simp [q])
 simp [Sx.dB, h, this]
theorem A9 {l : Sx.Lk} (h : Sx.bF l.to = false) : Sx.d9 l = 1 := by simp [Sx.d9, h]
theorem A8 {l : Sx.Lk} {b : Bool} (h : Sx.bF l.to = true) (h2 : Sx.bF l.name = b) : Sx.d9 l = if b = true then 0 else 1 := by cases b <;> simp [Sx.d9, h, h2]

theorem tQ (s : Sx.Sr) (r z l : Value) (w : World) (h : Hw w r z l s) (hs : mO s) :
  Calls Tryz.prog 57 #[.agg #[r, z, l]] w fun e w' => e = .returned (.int .i64 (Sx.fB s)) ∧ Below w.heap.size w w' := by
 obtain ⟨rs, zs, ls⟩ := s
 obtain ⟨R, hR⟩ : ∃ R, Sx.fB ⟨rs, zs, ls⟩ = R := ⟨_, rfl⟩
 rw [hR]
 have HR := hid hR
 obtain ⟨h1, h2, h3⟩ := h
 simp only at h1 h2 h3
 obtain ⟨ra, rcap, rfl⟩ := bP h1
 obtain ⟨za, zcap, rfl⟩ := ic h2
 obtain ⟨la, lcap, rfl⟩ := bP h3
 have H1 := hid h1
 have H2 := hid h2
 have H3 := hid h3
 have HS := hid hs
 clear hR h1 h2 h3 hs
 by_cases m1 : 40 < rs.length
 ·have HR2 : Hid (R = 2) := by show _ = _; rw [← HR.out]; exact Sx.kD (by simp [Sx.eH, m1])
  go_enter Tryz.func57, Tryz.ntmps57
  go_wp2
  go_ret
  exact ⟨ay (by rw [HR2.out]), (q4B _ _).alloc (Nat.le_refl _) _⟩
 by_cases m2 : 20 < zs.length
 ·have HR2 : Hid (R = 2) := by show _ = _; rw [← HR.out]; exact Sx.kD (by simp [Sx.eH, m2])
  go_enter Tryz.func57, Tryz.ntmps57
  go_wp2
  go_ret
  exact ⟨ay (by rw [HR2.out]), (q4B _ _).alloc (Nat.le_refl _) _⟩
 by_cases m3 : 20 < ls.length
 ·have HR2 : Hid (R = 2) := by show _ = _; rw [← HR.out]; exact Sx.kD (by simp [Sx.eH, m3])
  go_enter Tryz.func57, Tryz.ntmps57
  go_wp2
  go_ret
  exact ⟨ay (by rw [HR2.out]), (q4B _ _).alloc (Nat.le_refl _) _⟩
 have XV := hid (aD w [.slice ra rs.length rcap, .slice za zs.length zcap, .slice la ls.length lcap] 26)
 have BV := hid ((q4B w.heap.size w).alloc (Nat.le_refl _) (.cells [.slice ra rs.length rcap, .slice za zs.length zcap, .slice la ls.length lcap].toArray 26))
 go_enter Tryz.func57, Tryz.ntmps57
 go_wp2_with fail
 obtain ⟨V, hV⟩ : ∃ V, w.alloc (.cells [.slice ra rs.length rcap, .slice za zs.length zcap, .slice la ls.length lcap].toArray 26) = V := ⟨_, rfl⟩
 rw [show w.alloc (.cells #[.slice ra rs.length rcap, .slice za zs.length zcap, .slice la ls.length lcap] 26) = V from hV]
 rw [hV] at XV BV
 clear hV
 go_loop [3] (fun a => ∃ i : Nat, i ≤ zs.length ∧ a = .int .i64 i ∧ Hid (∀ (j : Nat) (x : Sx.Zn), j < i → zs[j]? = some x → ¬ 8 < x.eras.length)) (fun a => zs.length - (intOf a).toNat)
 case atStart => exact ⟨0, by omega, rfl, fun j x h => by omega⟩
 case round =>
  obtain ⟨i, hi, rfl, HM⟩ := hrel
  obtain ⟨x1, _⟩ := aa XV.out 1 rfl
  have sx := XV.out.1
  by_cases hlt : i < zs.length
  case pos =>
   obtain ⟨x, hx⟩ : ∃ x, zs[i]? = some x := ⟨_, q4G hlt⟩
   obtain ⟨zb, zo, ea, ecap, rfl, hzb, c0, c1, hr⟩ := kw (dY H2.out BV.out) hx
   by_cases h8 : 8 < x.eras.length
   ·have HR2 : Hid (R = 2) := by show _ = _; rw [← HR.out]; exact Sx.kD (Sx.yf hx h8)
    clear hr hx
    go_wp2
    go_ret
    exact ⟨ay (by rw [HR2.out]), BV.out⟩
   have HX := hid hx
   clear hr hx
   go_wp2
   go_round
   case rel =>
    refine ⟨i + 1, by omega, by go_num, fun j y hj hy => ?_⟩
    by_cases q : j < i
    ·exact HM.out j y q hy
    ·obtain rfl : j = i := by omega
     rw [HX.out] at hy
     simp at hy
     subst hy
     exact h8
   case measure => simp [intOf]; omega
  have HR2 : Hid (R = Sx.orE (Sx.az Sx.dI (rs.drop 0)) (Sx.orE (Sx.az Sx.dB zs) (Sx.az Sx.d9 ls))) := by
   show _ = _
   rw [← HR.out, Sx.ul (Sx.zt m1 m2 m3 fun j x hj hx => HM.out j x (q4N hj (Nat.not_lt.1 hlt)) hx)]
   rfl
  have HM8 : Hid (∀ (j : Nat) (x : Sx.Zn), zs[j]? = some x → ¬ 8 < x.eras.length) := fun j x hx => HM.out j x (q4N (q4L.1 hx).1 (Nat.not_lt.1 hlt)) hx
  clear HR HM
  go_wp2_with fail
  clear hlt hi
  go_loopw [4] (fun a wr => ∃ i : Nat, i ≤ rs.length ∧ a = .int .i64 i ∧ Hid (Below w.heap.size w wr) ∧ Hid (ak wr w.heap.size [.slice ra rs.length rcap, .slice za zs.length zcap, .slice la ls.length lcap]) ∧ Hid (R = Sx.orE (Sx.az Sx.dI (rs.drop i)) (Sx.orE (Sx.az Sx.dB zs) (Sx.az Sx.d9 ls)))) (fun a _ => rs.length - (intOf a).toNat)
  case atStart => exact ⟨0, by omega, rfl, BV, XV, HR2⟩
  case round =>
   clear HR2 XV BV x1 sx
   obtain ⟨k, hk, rfl, B0, X0, HR⟩ := hrel
   obtain ⟨x0, _⟩ := aa X0.out 0 rfl
   have sx := X0.out.1
   by_cases hlt : k < rs.length
   case pos =>
    obtain ⟨x, hx⟩ : ∃ x, rs[k]? = some x := ⟨_, q4G hlt⟩
    obtain ⟨rb, ro, rfl, hrb, hc⟩ := dx (au H1.out B0.out) hx
    obtain ⟨c0, c1, c2, c3, c4, c5, c6, c7, c8, c9, c10⟩ := uj hc
    have HX := hid hx
    have SX := hid (HS.out.rules x (List.mem_of_getElem? hx)).2
    clear hc hx
    go_wp2_with fail
    refine (vX x _ SX.out).mono ?_
    rintro e w1 ⟨rfl, hb⟩
    have B1 : Hid (Below w.heap.size w w1) := B0.out.trans (hb.mono B0.out.size)
    have X1 := hid (ai X0.out hb)
    clear hb B0 X0 x0 sx c0 c1 c2 c3 c4 c5 c6 c7 c8 c9 c10 hrb
    obtain ⟨E, hE⟩ : ∃ E, Sx.dI x = E := ⟨_, rfl⟩
    rw [hE]
    by_cases h0 : E = 0
    case neg =>
     have HR2 : Hid (R = E) := by show _ = _; rw [← hE]; exact om _ HX.out HR.out (by rw [hE]; exact h0)
     have h0' : (E != 0) = true := by simp [h0]
     clear hE
     go_wp2
     go_ret
     exact ⟨ay (by rw [HR2.out]), B1.out⟩
    have HR2 : Hid (R = Sx.orE (Sx.az Sx.dI (rs.drop (k + 1))) (Sx.orE (Sx.az Sx.dB zs) (Sx.az Sx.d9 ls))) := Bg _ HX.out HR.out (by rw [hE]; exact h0)
    clear hE HR
    subst h0
    go_wp2
    go_roundw
    case rel => exact ⟨k + 1, by omega, by go_num, B1, X1, HR2⟩
    case measure => simp [intOf]; omega
   have HR2 : Hid (R = Sx.orE (Sx.az Sx.dB (zs.drop 0)) (Sx.az Sx.d9 ls)) := EU _ hlt HR.out
   clear HR
   go_wp2_with fail
   clear hlt hk
   go_loopw [6] (fun a wr => ∃ i : Nat, i ≤ zs.length ∧ a = .int .i64 i ∧ Hid (Below w.heap.size w wr) ∧ Hid (ak wr w.heap.size [.slice ra rs.length rcap, .slice za zs.length zcap, .slice la ls.length lcap]) ∧ Hid (R = Sx.orE (Sx.az Sx.dB (zs.drop i)) (Sx.az Sx.d9 ls))) (fun a _ => zs.length - (intOf a).toNat)
   case atStart => exact ⟨0, by omega, rfl, B0, X0, HR2⟩
   case round =>
    clear HR2 X0 B0 x0 sx
    obtain ⟨i, hi, rfl, B0, X0, HR⟩ := hrel
    obtain ⟨x1, _⟩ := aa X0.out 1 rfl
    have sx := X0.out.1
    by_cases hlt : i < zs.length
    case pos =>
     obtain ⟨x, hx⟩ : ∃ x, zs[i]? = some x := ⟨_, q4G hlt⟩
     obtain ⟨zb, zo, ea, ecap, rfl, hzb, c0, c1, hr⟩ := kw (dY H2.out B0.out) hx
     have HX := hid hx
     have HE0 := hid hr
     have SX := hid (HS.out.zones x (List.mem_of_getElem? hx)).2
     have h8 := HM8.out i x hx
     clear hx hr
     obtain ⟨N, hN⟩ : ∃ N, Sx.bF x.name = N := ⟨_, rfl⟩
     have HN := hid hN
     clear hN
     go_wp2_with fail
     refine (fG _ _ HN.out).mono ?_
     rintro e w1 ⟨rfl, hq⟩
     rw [hq]
     clear hq
     cases N
     ·have HR2 : Hid (R = 1) := by show _ = _; rw [← wK HN.out]; exact om _ HX.out HR.out (by rw [wK HN.out]; decide)
      go_wp2
      go_ret
      exact ⟨ay (by rw [HR2.out]), B0.out⟩
     by_cases he : x.eras.length = 0
     ·have HR2 : Hid (R = 1) := by show _ = _; rw [← wL he]; exact om _ HX.out HR.out (by rw [wL he]; decide)
      have he' : ((x.eras.length : Int) == 0) = true := by simp [he]
      go_wp2
      go_ret
      exact ⟨ay (by rw [HR2.out]), B0.out⟩
     have he' : ((x.eras.length : Int) == 0) = false := by rw [beq_eq_false_iff_ne]; omega
     obtain ⟨ZE, hZE⟩ : ∃ ZE, Sx.dB x = ZE := ⟨_, rfl⟩
     have HZ : Hid (Sx.dB x = ZE) := hZE
     have HZ0 : Hid (ZE = Sx.iI (x.eras.drop 0)) := by show _ = _; rw [← hZE]; exact Es HN.out he
     clear hZE
     go_wp2_with fail
     go_loopw [8] (fun a wr => ∃ k : Nat, k ≤ x.eras.length ∧ a = .int .i64 k ∧ Hid (Below w.heap.size w wr) ∧ Hid (ak wr w.heap.size [.slice ra rs.length rcap, .slice (some ⟨zb, zo, none⟩) zs.length zcap, .slice la ls.length lcap]) ∧ Hid (gQ wr (.slice ea x.eras.length ecap) x.eras) ∧ Hid (ZE = Sx.iI (x.eras.drop k))) (fun a _ => x.eras.length - (intOf a).toNat)
     case atStart => exact ⟨0, by omega, rfl, B0, X0, HE0, HZ0⟩
     case round =>
      clear HZ0 X0 B0 HE0 x1 sx c0 c1 hzb
      obtain ⟨k, hk, rfl, B0, X0, HE0, HZ0⟩ := hrel
      by_cases hlk : k < x.eras.length
      case pos =>
       obtain ⟨y, hy⟩ : ∃ y, x.eras[k]? = some y := ⟨_, q4G hlk⟩
       obtain ⟨eb, eo, rfl, heb, hc⟩ := dx HE0.out hy
       obtain ⟨c0, c1, c2, c3, c4, c5, c6, c7, c8, c9⟩ := zJ hc
       have HY := hid hy
       have SY := hid (SX.out y (List.mem_of_getElem? hy)).2
       clear hc hy
       have hbound : x.eras.length - 1 + 1 = x.eras.length := by omega
       obtain ⟨T, hT⟩ : ∃ T, decide (k + 1 = x.eras.length) = T := ⟨_, rfl⟩
       have hT' : ((k : Int) == (x.eras.length : Int) - 1) = T := by rw [← hT, Bool.eq_iff_iff]; simp; omega
       have HT := hid hT
       clear hT hbound
       go_wp2_with fail
       with_reducible refine (xg y T _ SY.out).mono ?_
       rintro e w1 ⟨rfl, hb⟩
       have B1 : Hid (Below w.heap.size w w1) := B0.out.trans (hb.mono B0.out.size)
       have X1 := hid (ai X0.out hb)
       have E1 := hid (au HE0.out hb)
       clear hb B0 X0 HE0 c0 c1 c2 c3 c4 c5 c6 c7 c8 c9 heb
       obtain ⟨E, hE⟩ : ∃ E, Sx.eD y T = E := ⟨_, rfl⟩
       rw [hE]
       by_cases h0 : E = 0
       case neg =>
        have HR2 : Hid (R = E) := by
         show _ = _
         have q : ZE = E := by rw [← hE]; exact Sx.Io HY.out HT.out HZ0.out (by rw [hE]; exact h0)
         rw [← q, ← HZ.out]; exact om _ HX.out HR.out (by rw [HZ.out, q]; exact h0)
        have h0' : (E != 0) = true := by simp [h0]
        clear hE
        go_wp2
        go_ret
        exact ⟨ay (by rw [HR2.out]), B1.out⟩
       have HZ2 : Hid (ZE = Sx.iI (x.eras.drop (k + 1))) := Sx.CV HY.out HT.out HZ0.out (by rw [hE]; exact h0)
       clear hE HZ0
       subst h0
       go_wp2
       go_roundw
       case rel => exact ⟨k + 1, by omega, by go_num, B1, X1, E1, HZ2⟩
       case measure => simp [intOf]; omega
      have HR2 : Hid (R = Sx.orE (Sx.az Sx.dB (zs.drop (i + 1))) (Sx.az Sx.d9 ls)) := Bg _ HX.out HR.out (by rw [HZ.out, HZ0.out]; exact Sx.FH hlk)
      go_wp2
      go_roundw
      case rel => exact ⟨i + 1, by omega, by go_num, B0, X0, HR2⟩
      case measure => simp [intOf]; omega
    have HR2 : Hid (R = Sx.az Sx.d9 (ls.drop 0)) := EU _ hlt HR.out
    clear HR
    go_wp2_with fail
    clear hlt hi
    go_loopw [10] (fun a wr => ∃ i : Nat, i ≤ ls.length ∧ a = .int .i64 i ∧ Hid (Below w.heap.size w wr) ∧ Hid (ak wr w.heap.size [.slice ra rs.length rcap, .slice za zs.length zcap, .slice la ls.length lcap]) ∧ Hid (R = Sx.az Sx.d9 (ls.drop i))) (fun a _ => ls.length - (intOf a).toNat)
    case atStart => exact ⟨0, by omega, rfl, B0, X0, HR2⟩
    case round =>
     clear HR2 X0 B0 x1 sx
     obtain ⟨i, hi, rfl, B0, X0, HR⟩ := hrel
     obtain ⟨x2, _⟩ := aa X0.out 2 rfl
     have sx := X0.out.1
     by_cases hlt : i < ls.length
     case neg =>
      have HR2 : Hid (R = 0) := by show _ = _; rw [HR.out]; exact Sx.eX _ hlt
      go_wp2
      go_ret
      exact ⟨ay (by rw [HR2.out]), B0.out⟩
     obtain ⟨x, hx⟩ : ∃ x, ls[i]? = some x := ⟨_, q4G hlt⟩
     obtain ⟨lb, lo, rfl, hlb, hc⟩ := dx (au H3.out B0.out) hx
     obtain ⟨c0, c1⟩ := ui hc
     have HX := hid hx
     clear hc hx
     obtain ⟨N, hN⟩ : ∃ N, Sx.bF x.to = N := ⟨_, rfl⟩
     obtain ⟨M, hM⟩ : ∃ M, Sx.bF x.name = M := ⟨_, rfl⟩
     have HN := hid hN
     have HM := hid hM
     clear hN hM
     go_wp2_with fail
     refine (fG _ _ HN.out).mono ?_
     rintro e w1 ⟨rfl, hq⟩
     rw [hq]
     clear hq
     cases N
     ·have HR2 : Hid (R = 1) := by show _ = _; rw [← A9 HN.out]; exact Sx.iU _ HX.out HR.out (by rw [A9 HN.out]; decide)
      go_wp2
      go_ret
      exact ⟨ay (by rw [HR2.out]), B0.out⟩
     go_wp2_with fail
     refine (fG _ _ HM.out).mono ?_
     rintro e w1 ⟨rfl, hq⟩
     rw [hq]
     clear hq
     cases M
     ·have HR2 : Hid (R = 1) := by
       show _ = _
       have q := A8 HN.out HM.out
       rw [if_neg (by decide)] at q
       rw [← q]; exact Sx.iU _ HX.out HR.out (by rw [q]; decide)
      go_wp2
      go_ret
      exact ⟨ay (by rw [HR2.out]), B0.out⟩
     have HR2 : Hid (R = Sx.az Sx.d9 (ls.drop (i + 1))) := Sx.iE _ HX.out HR.out (A8 HN.out HM.out)
     go_wp2
     go_roundw
     case rel => exact ⟨i + 1, by omega, by go_num, B0, X0, HR2⟩
     case measure => simp [intOf]; omega
end
section
open Go.RowKit

theorem En (n a b : Int) (w : World) :
  Calls Tryz.prog 153 #[.int .i64 n, .int .i64 a, .int .i64 b] w fun e w' => e = .returned (.bool (decide (a ≤ n ∧ n ≤ b))) ∧ w' = w := by
 by_cases h1 : a ≤ n <;> by_cases h2 : n ≤ b
 all_goals
  go_enter Tryz.func153, Tryz.ntmps153
  go_wp2
  go_ret
  exact ⟨aC (by simp [h1, h2]), rfl⟩
theorem aZ (n a b : Int) (w : World) {r : Bool} (h : Sx.inB n a b = r) :
  Calls Tryz.prog 153 #[.int .i64 n, .int .i64 a, .int .i64 b] w fun e w' => e = .returned (.bool r) ∧ w' = w := by
 have h' : decide (a ≤ n ∧ n ≤ b) = r := h
 subst h'; exact En n a b w
def uE (b : Bool) (e : Int) : Int := if b = true then 0 else e
theorem aG (b : Bool) (e0 : Int) (w : World) :
  Calls Tryz.prog 150 #[.bool b, .int .i64 e0] w fun e w' => e = .returned (.int .i64 (uE b e0)) ∧ w' = w := by
 cases b
 all_goals
  go_enter Tryz.func150, Tryz.ntmps150
  go_wp2
  go_ret
  exact ⟨rfl, rfl⟩
theorem iW (ns : List Int) (b cap : Nat) (w : World) (h : ak w b (ns.map (Value.int .i64))) (hn : ns.length ≤ 100) :
  Calls Tryz.prog 89 #[.slice (some ⟨b, 0, none⟩) ns.length cap] w fun e w' => e = .returned (.int .i64 (Sx.az id ns)) ∧ w' = w := by
 obtain ⟨R, hR⟩ : ∃ R, Sx.az id ns = R := ⟨_, rfl⟩
 rw [hR]
 have HR : Hid (R = Sx.az id (ns.drop 0)) := hR.symm
 have H := hid h
 have sb := h.1
 clear hR h
 go_enter Tryz.func89, Tryz.ntmps89
 go_wp2_with fail
 go_loop [8] (fun a => ∃ k : Nat, k ≤ ns.length ∧ a = .int .i64 k ∧ Hid (R = Sx.az id (ns.drop k))) (fun a => ns.length - (intOf a).toNat)
 case atStart => exact ⟨0, by omega, rfl, HR⟩
 case round =>
  clear HR
  obtain ⟨k, hk, rfl, HR⟩ := hrel
  by_cases hlt : k < ns.length
  case neg =>
   have HR2 : Hid (R = 0) := by show _ = _; rw [HR.out]; exact Sx.eX _ hlt
   go_wp2
   go_ret
   exact ⟨ay (by rw [HR2.out]), rfl⟩
  obtain ⟨x, hx⟩ : ∃ x, ns[k]? = some x := ⟨_, q4G hlt⟩
  have c0 : w.cell? ⟨b, k, none⟩ = some (.int .i64 x) := (aa H.out k (by rw [List.getElem?_map, hx]; rfl)).1
  have HX := hid hx
  clear hx
  by_cases h0 : x = 0
  ·subst h0
   have HR2 : Hid (R = Sx.az id (ns.drop (k + 1))) := Sx.iE _ HX.out HR.out rfl
   go_wp2
   go_round
   case rel => exact ⟨k + 1, by omega, by go_num, HR2⟩
   case measure => simp [intOf]; omega
  ·have HR2 : Hid (R = x) := Sx.iU id HX.out HR.out h0
   have h0' : (x != 0) = true := by simp [h0]
   go_wp2
   go_ret
   exact ⟨ay (by rw [HR2.out]), rfl⟩
theorem Lp (y m k wk n c : Int) (w : World) (h : Cv.onE y m k wk n = c) :
  Calls Tryz.prog 81 #[.int .i64 y, .int .i64 m, .agg #[.int .i64 k, .int .i64 wk, .int .i64 n]] w fun e w' => ∃ a b d : Int, e = .returned (.tuple #[.agg #[.int .i64 a, .int .i64 b, .int .i64 d], .int .i64 c]) ∧ Below w.heap.size w w' := by
 by_cases hc : c = 0
 ·subst hc
  refine (EO y m k wk n w h).mono ?_
  rintro e w' ⟨a, b, d, he, hb⟩
  exact ⟨a, b, d, he, hb.2.2⟩
 ·refine (Lm y m k wk n c w h hc).mono ?_
  rintro e w' ⟨he, hb⟩
  exact ⟨0, 0, 0, he, hb⟩
theorem Jr (r : Sx.Rl) : Sx.dI r = Sx.az id [uE (Sx.bF r.name && Sx.dS r.letter) 1, uE (Sx.inB r.frm 1900 r.to && decide (r.to ≤ 2100)) 3, uE (Sx.inB r.month 1 12) 3, Cv.onE 2001 r.month r.kind r.wk r.n, uE (Sx.inB r.at_ 0 172800) 3, uE (Sx.inB r.clock 1 3) 7, uE (Sx.inB r.save 0 10800) 3] := by
 unfold Sx.dI
 cases (Sx.bF r.name && Sx.dS r.letter) <;> cases (Sx.inB r.frm 1900 r.to && decide (r.to ≤ 2100)) <;> cases Sx.inB r.month 1 12 <;> cases Sx.inB r.at_ 0 172800 <;> cases Sx.inB r.clock 1 3 <;> cases Sx.inB r.save 0 10800 <;> by_cases ho : Cv.onE 2001 r.month r.kind r.wk r.n = 0 <;> simp [Sx.az, uE, ho]
end
section
open Go.RowKit
attribute [local go_sem ↓] Go.wp_at_zero Go.wp_at_succ

theorem vR (r : Sx.Rl) (w : World) (hn : r.name.length ≤ maxLen) (hl : r.letter.length ≤ maxLen) :
  Calls Tryz.prog 91 #[nG r] w fun e w' => e = .returned (.int .i64 (Sx.dI r)) ∧ Below w.heap.size w w' := by
 rw [Jr]
 obtain ⟨name, frm, to_, month, kind, wk, n, at_, clock, save, letter⟩ := r
 simp only at hl hn ⊢
 obtain ⟨N, hN⟩ : ∃ N, Sx.bF name = N := ⟨_, rfl⟩
 obtain ⟨L, hL⟩ : ∃ L, Sx.dS letter = L := ⟨_, rfl⟩
 obtain ⟨F, hF⟩ : ∃ F, Sx.inB frm 1900 to_ = F := ⟨_, rfl⟩
 obtain ⟨M, hM⟩ : ∃ M, Sx.inB month 1 12 = M := ⟨_, rfl⟩
 obtain ⟨O, hO⟩ : ∃ O, Cv.onE 2001 month kind wk n = O := ⟨_, rfl⟩
 obtain ⟨A, hA⟩ : ∃ A, Sx.inB at_ 0 172800 = A := ⟨_, rfl⟩
 obtain ⟨C, hC⟩ : ∃ C, Sx.inB clock 1 3 = C := ⟨_, rfl⟩
 obtain ⟨S, hS⟩ : ∃ S, Sx.inB save 0 10800 = S := ⟨_, rfl⟩
 rw [hN, hL, hF, hM, hO, hA, hC, hS]
 have HN := hid hN
 have HL := hid hL
 have HF := hid hF
 have HM := hid hM
 have HO := hid hO
 have HA := hid hA
 have HC := hid hC
 have HS := hid hS
 have SL := hid hl
 have SN := hid hn
 clear hN hL hF hM hO hA hC hS hl hn
 have XV := hid (aD w (ah ⟨name, frm, to_, month, kind, wk, n, at_, clock, save, letter⟩) 40)
 have BV := hid ((q4B w.heap.size w).alloc (Nat.le_refl _) (.cells (ah ⟨name, frm, to_, month, kind, wk, n, at_, clock, save, letter⟩).toArray 40))
 go_enter Tryz.func91, Tryz.ntmps91
 go_wp2_with fail
 refine (Lp _ _ _ _ _ _ _ HO.out).mono ?_
 rintro e w1 ⟨a, b, d, rfl, hb⟩
 have X1 := hid (aM (ai XV.out hb) (.cells #[.int .i64 a, .int .i64 b, .int .i64 d] 63))
 have B1 : Hid (Below w.heap.size w (w1.alloc (.cells #[.int .i64 a, .int .i64 b, .int .i64 d] 63))) := (BV.out.trans (hb.mono BV.out.size)).alloc (by have := hb.size; have := BV.out.size; simp at *; omega) _
 clear hb XV BV
 obtain ⟨V, hV⟩ : ∃ V, w1.alloc (.cells #[.int .i64 a, .int .i64 b, .int .i64 d] 63) = V := ⟨_, rfl⟩
 go_upto_region 2 with fail
 rw [hV] at X1 B1
 clear hV
 obtain ⟨B, hB⟩ : ∃ B, w.heap.size = B := ⟨_, rfl⟩
 rw [hB] at X1
 obtain ⟨⟨x0, _⟩, ⟨x1, _⟩, ⟨x2, _⟩, ⟨x3, _⟩, -⟩ := cp4 X1.out
 obtain ⟨x7, _⟩ := aa X1.out 7 rfl
 obtain ⟨x8, _⟩ := aa X1.out 8 rfl
 obtain ⟨x9, _⟩ := aa X1.out 9 rfl
 obtain ⟨x10, _⟩ := aa X1.out 10 rfl
 have sx := X1.out.1
 rw [hB]
 have HB := hid hB
 clear hB
 cases N <;> cases F
 ·have CN : Hid (ak (V.alloc (.cells ([uE false 1, uE false 3, uE M 3, O, uE A 3, uE C 7, uE S 3].map (Value.int .i64)).toArray 28)).drew V.heap.size ([uE false 1, uE false 3, uE M 3, O, uE A 3, uE C 7, uE S 3].map (Value.int .i64))) := aD V _ _
  have BN0 := B1.out.alloc B1.out.size (.cells ([uE false 1, uE false 3, uE M 3, O, uE A 3, uE C 7, uE S 3].map (Value.int .i64)).toArray 28)
  have BN : Hid (Below w.heap.size w (V.alloc (.cells ([uE false 1, uE false 3, uE M 3, O, uE A 3, uE C 7, uE S 3].map (Value.int .i64)).toArray 28)).drew) := ⟨BN0.os, BN0.tape, BN0.output, BN0.size, BN0.block⟩
  clear BN0
  refine wp_region_held_drew (S := fun w' => w'.cell? ⟨B, 0, none⟩ = some (ag name) ∧ w'.cell? ⟨B, 1, none⟩ = some (.int .i64 frm) ∧ w'.cell? ⟨B, 2, none⟩ = some (.int .i64 to_) ∧ w'.cell? ⟨B, 3, none⟩ = some (.int .i64 month) ∧ w'.cell? ⟨B, 7, none⟩ = some (.int .i64 at_) ∧ w'.cell? ⟨B, 8, none⟩ = some (.int .i64 clock) ∧ w'.cell? ⟨B, 9, none⟩ = some (.int .i64 save) ∧ w'.cell? ⟨B, 10, none⟩ = some (ag letter)) (by kernel_rfl) ?_ (fun hHeld => ?_)
  ·go_keep
  refine tkA 0 rfl ?_
  refine tkA 1 rfl ?_
  refine tkA 9 rfl ?_
  refine tkA 10 rfl ?_
  refine tkA 11 rfl ?_
  refine tkA 12 rfl ?_
  refine tkA 20 rfl ?_
  refine tkA 21 rfl ?_
  refine tkA 24 rfl ?_
  refine tkA 25 rfl ?_
  refine tkA 26 rfl ?_
  refine tkA 29 rfl ?_
  refine tkA 30 rfl ?_
  refine tkA 33 rfl ?_
  refine tkA 34 rfl ?_
  refine rdH 2 rfl fun K hK => ?_
  go_simp
  refine (fw _ _ SN.out HN.out).mono ?_
  rintro e w2 ⟨rfl, rfl⟩
  refine hK.out _ _ ?_ (fun hHeld => ?_)
  ·go_keep
  clear hK K
  try simp only [Act.put, j]
  refine tkA 3 rfl ?_
  refine tkD 4 rfl ?_
  refine tkD 5 rfl ?_
  refine tkD 6 rfl ?_
  refine tkA 7 rfl ?_
  refine rdH 8 rfl fun K hK => ?_
  go_simp
  refine (aG _ _ _).mono ?_
  rintro e w2 ⟨rfl, rfl⟩
  refine hK.out _ _ ?_ (fun hHeld => ?_)
  ·go_keep
  clear hK K
  try simp only [Act.put, j]
  refine rdH 13 rfl fun K hK => ?_
  go_simp
  refine (aZ frm 1900 to_ _ HF.out).mono ?_
  rintro e w2 ⟨rfl, rfl⟩
  refine hK.out _ _ ?_ (fun hHeld => ?_)
  ·go_keep
  clear hK K
  try simp only [Act.put, j]
  refine tkA 14 rfl ?_
  refine tkD 15 rfl ?_
  refine tkD 16 rfl ?_
  refine tkD 17 rfl ?_
  refine tkA 18 rfl ?_
  refine rdH 19 rfl fun K hK => ?_
  go_simp
  refine (aG _ _ _).mono ?_
  rintro e w2 ⟨rfl, rfl⟩
  refine hK.out _ _ ?_ (fun hHeld => ?_)
  ·go_keep
  clear hK K
  try simp only [Act.put, j]
  refine rdH 22 rfl fun K hK => ?_
  go_simp
  refine (aZ month 1 12 _ HM.out).mono ?_
  rintro e w2 ⟨rfl, rfl⟩
  refine hK.out _ _ ?_ (fun hHeld => ?_)
  ·go_keep
  clear hK K
  try simp only [Act.put, j]
  refine rdH 23 rfl fun K hK => ?_
  go_simp
  refine (aG _ _ _).mono ?_
  rintro e w2 ⟨rfl, rfl⟩
  refine hK.out _ _ ?_ (fun hHeld => ?_)
  ·go_keep
  clear hK K
  try simp only [Act.put, j]
  refine rdH 27 rfl fun K hK => ?_
  go_simp
  refine (aZ at_ 0 172800 _ HA.out).mono ?_
  rintro e w2 ⟨rfl, rfl⟩
  refine hK.out _ _ ?_ (fun hHeld => ?_)
  ·go_keep
  clear hK K
  try simp only [Act.put, j]
  refine rdH 28 rfl fun K hK => ?_
  go_simp
  refine (aG _ _ _).mono ?_
  rintro e w2 ⟨rfl, rfl⟩
  refine hK.out _ _ ?_ (fun hHeld => ?_)
  ·go_keep
  clear hK K
  try simp only [Act.put, j]
  refine rdH 31 rfl fun K hK => ?_
  go_simp
  refine (aZ clock 1 3 _ HC.out).mono ?_
  rintro e w2 ⟨rfl, rfl⟩
  refine hK.out _ _ ?_ (fun hHeld => ?_)
  ·go_keep
  clear hK K
  try simp only [Act.put, j]
  refine rdH 32 rfl fun K hK => ?_
  go_simp
  refine (aG _ _ _).mono ?_
  rintro e w2 ⟨rfl, rfl⟩
  refine hK.out _ _ ?_ (fun hHeld => ?_)
  ·go_keep
  clear hK K
  try simp only [Act.put, j]
  refine rdH 35 rfl fun K hK => ?_
  go_simp
  refine (aZ save 0 10800 _ HS.out).mono ?_
  rintro e w2 ⟨rfl, rfl⟩
  refine hK.out _ _ ?_ (fun hHeld => ?_)
  ·go_keep
  clear hK K
  try simp only [Act.put, j]
  refine rdH 36 rfl fun K hK => ?_
  go_simp
  refine (aG _ _ _).mono ?_
  rintro e w2 ⟨rfl, rfl⟩
  refine hK.out _ _ ?_ (fun hHeld => ?_)
  ·go_keep
  clear hK K
  try simp only [Act.put, j]
  refine rdH 37 rfl fun K hK => ?_
  go_simp
  refine hK.out _ _ ?_ (fun hHeld => ?_)
  ·go_keep
  clear hK K
  try simp only [Act.put, j]
  refine rdH 38 rfl fun K hK => ?_
  go_simp
  refine (iW [uE false 1, uE false 3, uE M 3, O, uE A 3, uE C 7, uE S 3] V.heap.size 7 _ CN.out (by simp)).mono ?_
  rintro e w2 ⟨rfl, rfl⟩
  refine hK.out _ _ ?_ (fun hHeld => ?_)
  ·go_keep
  clear hK K
  try simp only [Act.put, j]
  refine tkA 39 rfl ?_
  refine wpAnyH_done (by kernel_rfl) ?_ _
  go_wp2
  go_ret
  exact ⟨rfl, BN.out⟩
 ·have CN : Hid (ak (V.alloc (.cells ([uE false 1, uE (decide (to_ ≤ 2100)) 3, uE M 3, O, uE A 3, uE C 7, uE S 3].map (Value.int .i64)).toArray 28)).drew V.heap.size ([uE false 1, uE (decide (to_ ≤ 2100)) 3, uE M 3, O, uE A 3, uE C 7, uE S 3].map (Value.int .i64))) := aD V _ _
  have BN0 := B1.out.alloc B1.out.size (.cells ([uE false 1, uE (decide (to_ ≤ 2100)) 3, uE M 3, O, uE A 3, uE C 7, uE S 3].map (Value.int .i64)).toArray 28)
  have BN : Hid (Below w.heap.size w (V.alloc (.cells ([uE false 1, uE (decide (to_ ≤ 2100)) 3, uE M 3, O, uE A 3, uE C 7, uE S 3].map (Value.int .i64)).toArray 28)).drew) := ⟨BN0.os, BN0.tape, BN0.output, BN0.size, BN0.block⟩
  clear BN0
  refine wp_region_held_drew (S := fun w' => w'.cell? ⟨B, 0, none⟩ = some (ag name) ∧ w'.cell? ⟨B, 1, none⟩ = some (.int .i64 frm) ∧ w'.cell? ⟨B, 2, none⟩ = some (.int .i64 to_) ∧ w'.cell? ⟨B, 3, none⟩ = some (.int .i64 month) ∧ w'.cell? ⟨B, 7, none⟩ = some (.int .i64 at_) ∧ w'.cell? ⟨B, 8, none⟩ = some (.int .i64 clock) ∧ w'.cell? ⟨B, 9, none⟩ = some (.int .i64 save) ∧ w'.cell? ⟨B, 10, none⟩ = some (ag letter)) (by kernel_rfl) ?_ (fun hHeld => ?_)
  ·go_keep
  refine tkA 0 rfl ?_
  refine tkA 1 rfl ?_
  refine tkA 9 rfl ?_
  refine tkA 10 rfl ?_
  refine tkA 11 rfl ?_
  refine tkA 12 rfl ?_
  refine tkA 20 rfl ?_
  refine tkA 21 rfl ?_
  refine tkA 24 rfl ?_
  refine tkA 25 rfl ?_
  refine tkA 26 rfl ?_
  refine tkA 29 rfl ?_
  refine tkA 30 rfl ?_
  refine tkA 33 rfl ?_
  refine tkA 34 rfl ?_
  refine rdH 2 rfl fun K hK => ?_
  go_simp
  refine (fw _ _ SN.out HN.out).mono ?_
  rintro e w2 ⟨rfl, rfl⟩
  refine hK.out _ _ ?_ (fun hHeld => ?_)
  ·go_keep
  clear hK K
  try simp only [Act.put, j]
  refine tkA 3 rfl ?_
  refine tkD 4 rfl ?_
  refine tkD 5 rfl ?_
  refine tkD 6 rfl ?_
  refine tkA 7 rfl ?_
  refine rdH 8 rfl fun K hK => ?_
  go_simp
  refine (aG _ _ _).mono ?_
  rintro e w2 ⟨rfl, rfl⟩
  refine hK.out _ _ ?_ (fun hHeld => ?_)
  ·go_keep
  clear hK K
  try simp only [Act.put, j]
  refine rdH 13 rfl fun K hK => ?_
  go_simp
  refine (aZ frm 1900 to_ _ HF.out).mono ?_
  rintro e w2 ⟨rfl, rfl⟩
  refine hK.out _ _ ?_ (fun hHeld => ?_)
  ·go_keep
  clear hK K
  try simp only [Act.put, j]
  refine tkA 14 rfl ?_
  refine tkA 15 rfl ?_
  refine tkA 16 rfl ?_
  refine tkA 17 rfl ?_
  refine tkA 18 rfl ?_
  refine rdH 19 rfl fun K hK => ?_
  go_simp
  refine (aG _ _ _).mono ?_
  rintro e w2 ⟨rfl, rfl⟩
  refine hK.out _ _ ?_ (fun hHeld => ?_)
  ·go_keep
  clear hK K
  try simp only [Act.put, j]
  refine rdH 22 rfl fun K hK => ?_
  go_simp
  refine (aZ month 1 12 _ HM.out).mono ?_
  rintro e w2 ⟨rfl, rfl⟩
  refine hK.out _ _ ?_ (fun hHeld => ?_)
  ·go_keep
  clear hK K
  try simp only [Act.put, j]
  refine rdH 23 rfl fun K hK => ?_
  go_simp
  refine (aG _ _ _).mono ?_
  rintro e w2 ⟨rfl, rfl⟩
  refine hK.out _ _ ?_ (fun hHeld => ?_)
  ·go_keep
  clear hK K
  try simp only [Act.put, j]
  refine rdH 27 rfl fun K hK => ?_
  go_simp
  refine (aZ at_ 0 172800 _ HA.out).mono ?_
  rintro e w2 ⟨rfl, rfl⟩
  refine hK.out _ _ ?_ (fun hHeld => ?_)
  ·go_keep
  clear hK K
  try simp only [Act.put, j]
  refine rdH 28 rfl fun K hK => ?_
  go_simp
  refine (aG _ _ _).mono ?_
  rintro e w2 ⟨rfl, rfl⟩
  refine hK.out _ _ ?_ (fun hHeld => ?_)
  ·go_keep
  clear hK K
  try simp only [Act.put, j]
  refine rdH 31 rfl fun K hK => ?_
  go_simp
  refine (aZ clock 1 3 _ HC.out).mono ?_
  rintro e w2 ⟨rfl, rfl⟩
  refine hK.out _ _ ?_ (fun hHeld => ?_)
  ·go_keep
  clear hK K
  try simp only [Act.put, j]
  refine rdH 32 rfl fun K hK => ?_
  go_simp
  refine (aG _ _ _).mono ?_
  rintro e w2 ⟨rfl, rfl⟩
  refine hK.out _ _ ?_ (fun hHeld => ?_)
  ·go_keep
  clear hK K
  try simp only [Act.put, j]
  refine rdH 35 rfl fun K hK => ?_
  go_simp
  refine (aZ save 0 10800 _ HS.out).mono ?_
  rintro e w2 ⟨rfl, rfl⟩
  refine hK.out _ _ ?_ (fun hHeld => ?_)
  ·go_keep
  clear hK K
  try simp only [Act.put, j]
  refine rdH 36 rfl fun K hK => ?_
  go_simp
  refine (aG _ _ _).mono ?_
  rintro e w2 ⟨rfl, rfl⟩
  refine hK.out _ _ ?_ (fun hHeld => ?_)
  ·go_keep
  clear hK K
  try simp only [Act.put, j]
  refine rdH 37 rfl fun K hK => ?_
  go_simp
  refine hK.out _ _ ?_ (fun hHeld => ?_)
  ·go_keep
  clear hK K
  try simp only [Act.put, j]
  refine rdH 38 rfl fun K hK => ?_
  go_simp
  refine (iW [uE false 1, uE (decide (to_ ≤ 2100)) 3, uE M 3, O, uE A 3, uE C 7, uE S 3] V.heap.size 7 _ CN.out (by simp)).mono ?_
  rintro e w2 ⟨rfl, rfl⟩
  refine hK.out _ _ ?_ (fun hHeld => ?_)
  ·go_keep
  clear hK K
  try simp only [Act.put, j]
  refine tkA 39 rfl ?_
  refine wpAnyH_done (by kernel_rfl) ?_ _
  go_wp2
  go_ret
  exact ⟨rfl, BN.out⟩
 ·have CN : Hid (ak (V.alloc (.cells ([uE L 1, uE false 3, uE M 3, O, uE A 3, uE C 7, uE S 3].map (Value.int .i64)).toArray 28)).drew V.heap.size ([uE L 1, uE false 3, uE M 3, O, uE A 3, uE C 7, uE S 3].map (Value.int .i64))) := aD V _ _
  have BN0 := B1.out.alloc B1.out.size (.cells ([uE L 1, uE false 3, uE M 3, O, uE A 3, uE C 7, uE S 3].map (Value.int .i64)).toArray 28)
  have BN : Hid (Below w.heap.size w (V.alloc (.cells ([uE L 1, uE false 3, uE M 3, O, uE A 3, uE C 7, uE S 3].map (Value.int .i64)).toArray 28)).drew) := ⟨BN0.os, BN0.tape, BN0.output, BN0.size, BN0.block⟩
  clear BN0
  refine wp_region_held_drew (S := fun w' => w'.cell? ⟨B, 0, none⟩ = some (ag name) ∧ w'.cell? ⟨B, 1, none⟩ = some (.int .i64 frm) ∧ w'.cell? ⟨B, 2, none⟩ = some (.int .i64 to_) ∧ w'.cell? ⟨B, 3, none⟩ = some (.int .i64 month) ∧ w'.cell? ⟨B, 7, none⟩ = some (.int .i64 at_) ∧ w'.cell? ⟨B, 8, none⟩ = some (.int .i64 clock) ∧ w'.cell? ⟨B, 9, none⟩ = some (.int .i64 save) ∧ w'.cell? ⟨B, 10, none⟩ = some (ag letter)) (by kernel_rfl) ?_ (fun hHeld => ?_)
  ·go_keep
  refine tkA 0 rfl ?_
  refine tkA 1 rfl ?_
  refine tkA 9 rfl ?_
  refine tkA 10 rfl ?_
  refine tkA 11 rfl ?_
  refine tkA 12 rfl ?_
  refine tkA 20 rfl ?_
  refine tkA 21 rfl ?_
  refine tkA 24 rfl ?_
  refine tkA 25 rfl ?_
  refine tkA 26 rfl ?_
  refine tkA 29 rfl ?_
  refine tkA 30 rfl ?_
  refine tkA 33 rfl ?_
  refine tkA 34 rfl ?_
  refine rdH 2 rfl fun K hK => ?_
  go_simp
  refine (fw _ _ SN.out HN.out).mono ?_
  rintro e w2 ⟨rfl, rfl⟩
  refine hK.out _ _ ?_ (fun hHeld => ?_)
  ·go_keep
  clear hK K
  try simp only [Act.put, j]
  refine tkA 3 rfl ?_
  refine tkA 4 rfl ?_
  refine tkA 5 rfl ?_
  refine rdH 6 rfl fun K hK => ?_
  go_simp
  refine (qH _ _ SL.out HL.out).mono ?_
  rintro e w2 ⟨rfl, rfl⟩
  refine hK.out _ _ ?_ (fun hHeld => ?_)
  ·go_keep
  clear hK K
  try simp only [Act.put, j]
  refine tkA 7 rfl ?_
  refine rdH 8 rfl fun K hK => ?_
  go_simp
  refine (aG _ _ _).mono ?_
  rintro e w2 ⟨rfl, rfl⟩
  refine hK.out _ _ ?_ (fun hHeld => ?_)
  ·go_keep
  clear hK K
  try simp only [Act.put, j]
  refine rdH 13 rfl fun K hK => ?_
  go_simp
  refine (aZ frm 1900 to_ _ HF.out).mono ?_
  rintro e w2 ⟨rfl, rfl⟩
  refine hK.out _ _ ?_ (fun hHeld => ?_)
  ·go_keep
  clear hK K
  try simp only [Act.put, j]
  refine tkA 14 rfl ?_
  refine tkD 15 rfl ?_
  refine tkD 16 rfl ?_
  refine tkD 17 rfl ?_
  refine tkA 18 rfl ?_
  refine rdH 19 rfl fun K hK => ?_
  go_simp
  refine (aG _ _ _).mono ?_
  rintro e w2 ⟨rfl, rfl⟩
  refine hK.out _ _ ?_ (fun hHeld => ?_)
  ·go_keep
  clear hK K
  try simp only [Act.put, j]
  refine rdH 22 rfl fun K hK => ?_
  go_simp
  refine (aZ month 1 12 _ HM.out).mono ?_
  rintro e w2 ⟨rfl, rfl⟩
  refine hK.out _ _ ?_ (fun hHeld => ?_)
  ·go_keep
  clear hK K
  try simp only [Act.put, j]
  refine rdH 23 rfl fun K hK => ?_
  go_simp
  refine (aG _ _ _).mono ?_
  rintro e w2 ⟨rfl, rfl⟩
  refine hK.out _ _ ?_ (fun hHeld => ?_)
  ·go_keep
  clear hK K
  try simp only [Act.put, j]
  refine rdH 27 rfl fun K hK => ?_
  go_simp
  refine (aZ at_ 0 172800 _ HA.out).mono ?_
  rintro e w2 ⟨rfl, rfl⟩
  refine hK.out _ _ ?_ (fun hHeld => ?_)
  ·go_keep
  clear hK K
  try simp only [Act.put, j]
  refine rdH 28 rfl fun K hK => ?_
  go_simp
  refine (aG _ _ _).mono ?_
  rintro e w2 ⟨rfl, rfl⟩
  refine hK.out _ _ ?_ (fun hHeld => ?_)
  ·go_keep
  clear hK K
  try simp only [Act.put, j]
  refine rdH 31 rfl fun K hK => ?_
  go_simp
  refine (aZ clock 1 3 _ HC.out).mono ?_
  rintro e w2 ⟨rfl, rfl⟩
  refine hK.out _ _ ?_ (fun hHeld => ?_)
  ·go_keep
  clear hK K
  try simp only [Act.put, j]
  refine rdH 32 rfl fun K hK => ?_
  go_simp
  refine (aG _ _ _).mono ?_
  rintro e w2 ⟨rfl, rfl⟩
  refine hK.out _ _ ?_ (fun hHeld => ?_)
  ·go_keep
  clear hK K
  try simp only [Act.put, j]
  refine rdH 35 rfl fun K hK => ?_
  go_simp
  refine (aZ save 0 10800 _ HS.out).mono ?_
  rintro e w2 ⟨rfl, rfl⟩
  refine hK.out _ _ ?_ (fun hHeld => ?_)
  ·go_keep
  clear hK K
  try simp only [Act.put, j]
  refine rdH 36 rfl fun K hK => ?_
  go_simp
  refine (aG _ _ _).mono ?_
  rintro e w2 ⟨rfl, rfl⟩
  refine hK.out _ _ ?_ (fun hHeld => ?_)
  ·go_keep
  clear hK K
  try simp only [Act.put, j]
  refine rdH 37 rfl fun K hK => ?_
  go_simp
  refine hK.out _ _ ?_ (fun hHeld => ?_)
  ·go_keep
  clear hK K
  try simp only [Act.put, j]
  refine rdH 38 rfl fun K hK => ?_
  go_simp
  refine (iW [uE L 1, uE false 3, uE M 3, O, uE A 3, uE C 7, uE S 3] V.heap.size 7 _ CN.out (by simp)).mono ?_
  rintro e w2 ⟨rfl, rfl⟩
  refine hK.out _ _ ?_ (fun hHeld => ?_)
  ·go_keep
  clear hK K
  try simp only [Act.put, j]
  refine tkA 39 rfl ?_
  refine wpAnyH_done (by kernel_rfl) ?_ _
  go_wp2
  go_ret
  exact ⟨rfl, BN.out⟩
 ·have CN : Hid (ak (V.alloc (.cells ([uE L 1, uE (decide (to_ ≤ 2100)) 3, uE M 3, O, uE A 3, uE C 7, uE S 3].map (Value.int .i64)).toArray 28)).drew V.heap.size ([uE L 1, uE (decide (to_ ≤ 2100)) 3, uE M 3, O, uE A 3, uE C 7, uE S 3].map (Value.int .i64))) := aD V _ _
  have BN0 := B1.out.alloc B1.out.size (.cells ([uE L 1, uE (decide (to_ ≤ 2100)) 3, uE M 3, O, uE A 3, uE C 7, uE S 3].map (Value.int .i64)).toArray 28)
  have BN : Hid (Below w.heap.size w (V.alloc (.cells ([uE L 1, uE (decide (to_ ≤ 2100)) 3, uE M 3, O, uE A 3, uE C 7, uE S 3].map (Value.int .i64)).toArray 28)).drew) := ⟨BN0.os, BN0.tape, BN0.output, BN0.size, BN0.block⟩
  clear BN0
  refine wp_region_held_drew (S := fun w' => w'.cell? ⟨B, 0, none⟩ = some (ag name) ∧ w'.cell? ⟨B, 1, none⟩ = some (.int .i64 frm) ∧ w'.cell? ⟨B, 2, none⟩ = some (.int .i64 to_) ∧ w'.cell? ⟨B, 3, none⟩ = some (.int .i64 month) ∧ w'.cell? ⟨B, 7, none⟩ = some (.int .i64 at_) ∧ w'.cell? ⟨B, 8, none⟩ = some (.int .i64 clock) ∧ w'.cell? ⟨B, 9, none⟩ = some (.int .i64 save) ∧ w'.cell? ⟨B, 10, none⟩ = some (ag letter)) (by kernel_rfl) ?_ (fun hHeld => ?_)
  ·go_keep
  refine tkA 0 rfl ?_
  refine tkA 1 rfl ?_
  refine tkA 9 rfl ?_
  refine tkA 10 rfl ?_
  refine tkA 11 rfl ?_
  refine tkA 12 rfl ?_
  refine tkA 20 rfl ?_
  refine tkA 21 rfl ?_
  refine tkA 24 rfl ?_
  refine tkA 25 rfl ?_
  refine tkA 26 rfl ?_
  refine tkA 29 rfl ?_
  refine tkA 30 rfl ?_
  refine tkA 33 rfl ?_
  refine tkA 34 rfl ?_
  refine rdH 2 rfl fun K hK => ?_
  go_simp
  refine (fw _ _ SN.out HN.out).mono ?_
  rintro e w2 ⟨rfl, rfl⟩
  refine hK.out _ _ ?_ (fun hHeld => ?_)
  ·go_keep
  clear hK K
  try simp only [Act.put, j]
  refine tkA 3 rfl ?_
  refine tkA 4 rfl ?_
  refine tkA 5 rfl ?_
  refine rdH 6 rfl fun K hK => ?_
  go_simp
  refine (qH _ _ SL.out HL.out).mono ?_
  rintro e w2 ⟨rfl, rfl⟩
  refine hK.out _ _ ?_ (fun hHeld => ?_)
  ·go_keep
  clear hK K
  try simp only [Act.put, j]
  refine tkA 7 rfl ?_
  refine rdH 8 rfl fun K hK => ?_
  go_simp
  refine (aG _ _ _).mono ?_
  rintro e w2 ⟨rfl, rfl⟩
  refine hK.out _ _ ?_ (fun hHeld => ?_)
  ·go_keep
  clear hK K
  try simp only [Act.put, j]
  refine rdH 13 rfl fun K hK => ?_
  go_simp
  refine (aZ frm 1900 to_ _ HF.out).mono ?_
  rintro e w2 ⟨rfl, rfl⟩
  refine hK.out _ _ ?_ (fun hHeld => ?_)
  ·go_keep
  clear hK K
  try simp only [Act.put, j]
  refine tkA 14 rfl ?_
  refine tkA 15 rfl ?_
  refine tkA 16 rfl ?_
  refine tkA 17 rfl ?_
  refine tkA 18 rfl ?_
  refine rdH 19 rfl fun K hK => ?_
  go_simp
  refine (aG _ _ _).mono ?_
  rintro e w2 ⟨rfl, rfl⟩
  refine hK.out _ _ ?_ (fun hHeld => ?_)
  ·go_keep
  clear hK K
  try simp only [Act.put, j]
  refine rdH 22 rfl fun K hK => ?_
  go_simp
  refine (aZ month 1 12 _ HM.out).mono ?_
  rintro e w2 ⟨rfl, rfl⟩
  refine hK.out _ _ ?_ (fun hHeld => ?_)
  ·go_keep
  clear hK K
  try simp only [Act.put, j]
  refine rdH 23 rfl fun K hK => ?_
  go_simp
  refine (aG _ _ _).mono ?_
  rintro e w2 ⟨rfl, rfl⟩
  refine hK.out _ _ ?_ (fun hHeld => ?_)
  ·go_keep
  clear hK K
  try simp only [Act.put, j]
  refine rdH 27 rfl fun K hK => ?_
  go_simp
  refine (aZ at_ 0 172800 _ HA.out).mono ?_
  rintro e w2 ⟨rfl, rfl⟩
  refine hK.out _ _ ?_ (fun hHeld => ?_)
  ·go_keep
  clear hK K
  try simp only [Act.put, j]
  refine rdH 28 rfl fun K hK => ?_
  go_simp
  refine (aG _ _ _).mono ?_
  rintro e w2 ⟨rfl, rfl⟩
  refine hK.out _ _ ?_ (fun hHeld => ?_)
  ·go_keep
  clear hK K
  try simp only [Act.put, j]
  refine rdH 31 rfl fun K hK => ?_
  go_simp
  refine (aZ clock 1 3 _ HC.out).mono ?_
  rintro e w2 ⟨rfl, rfl⟩
  refine hK.out _ _ ?_ (fun hHeld => ?_)
  ·go_keep
  clear hK K
  try simp only [Act.put, j]
  refine rdH 32 rfl fun K hK => ?_
  go_simp
  refine (aG _ _ _).mono ?_
  rintro e w2 ⟨rfl, rfl⟩
  refine hK.out _ _ ?_ (fun hHeld => ?_)
  ·go_keep
  clear hK K
  try simp only [Act.put, j]
  refine rdH 35 rfl fun K hK => ?_
  go_simp
  refine (aZ save 0 10800 _ HS.out).mono ?_
  rintro e w2 ⟨rfl, rfl⟩
  refine hK.out _ _ ?_ (fun hHeld => ?_)
  ·go_keep
  clear hK K
  try simp only [Act.put, j]
  refine rdH 36 rfl fun K hK => ?_
  go_simp
  refine (aG _ _ _).mono ?_
  rintro e w2 ⟨rfl, rfl⟩
  refine hK.out _ _ ?_ (fun hHeld => ?_)
  ·go_keep
  clear hK K
  try simp only [Act.put, j]
  refine rdH 37 rfl fun K hK => ?_
  go_simp
  refine hK.out _ _ ?_ (fun hHeld => ?_)
  ·go_keep
  clear hK K
  try simp only [Act.put, j]
  refine rdH 38 rfl fun K hK => ?_
  go_simp
  refine (iW [uE L 1, uE (decide (to_ ≤ 2100)) 3, uE M 3, O, uE A 3, uE C 7, uE S 3] V.heap.size 7 _ CN.out (by simp)).mono ?_
  rintro e w2 ⟨rfl, rfl⟩
  refine hK.out _ _ ?_ (fun hHeld => ?_)
  ·go_keep
  clear hK K
  try simp only [Act.put, j]
  refine tkA 39 rfl ?_
  refine wpAnyH_done (by kernel_rfl) ?_ _
  go_wp2
  go_ret
  exact ⟨rfl, BN.out⟩
end
section
open Go.RowKit

theorem bJ (c : UInt8) (w : World) :
  Calls Tryz.prog 185 #[.int .u8 (c.toNat : Int)] w fun e w' => e = .returned (.bool (Tx.gap c)) ∧ w' = w := by
 have hh : Hid (Tx.gap c = (((c.toNat : Int) == 32) || ((c.toNat : Int) == 9))) := Le c
 generalize (c.toNat : Int) = n at *
 cases h1 : (n == 32) <;> cases h2 : (n == 9)
 all_goals
  go_enter Tryz.func185, Tryz.ntmps185
  go_wp2
  go_ret
  exact ⟨aC (by rw [hh.out]; simp [h1, h2]), rfl⟩

theorem jk (c : UInt8) (w : World) :
  Calls Tryz.prog 206 #[.int .u8 (c.toNat : Int)] w fun e w' => e = .returned (.bool (Tx.txt c)) ∧ w' = w := by
 have hh : Hid (Tx.txt c = (decide ((32 : Int) ≤ (c.toNat : Int) ∧ (c.toNat : Int) ≤ 126) || ((c.toNat : Int) == 9))) := LK c
 have hb : (c.toNat : Int) < 256 := by have := c.toNat_lt; omega
 have hb0 : 0 ≤ (c.toNat : Int) := by omega
 generalize (c.toNat : Int) = n at *
 cases h2 : (n == 9) <;> by_cases h1 : 32 ≤ n ∧ n ≤ 126
 all_goals
  go_enter Tryz.func206, Tryz.ntmps206
  go_wp2_with (go_at_call 77; refine (kG _ _ _ _).mono ?_; rintro e w1 ⟨rfl, rfl⟩; simp only [h1])
  go_ret
  exact ⟨aC (by rw [hh.out]; simp [h1, h2]), rfl⟩
end
section
open Go.RowKit

theorem Tryz.EI : (Tryz.prog.info? 9).map (fun i => (i.zero, i.size, i.bytes)) = some (some (.string ⟨#[]⟩), 1, 16) := by kernel_rfl

theorem gI {w w1 w3 : World} {B : Nat} {v v' : Value} {out : List Tx.Bs} {acc : Tx.Bs} {o : Obj} (hB : B ≤ w1.heap.size) (hown : w1.ownsRow B 9 1 v out.length (out.map ag)) (hb : Below B w w1)
  (hown' : w3.ownsRow B 9 1 v' (out.length + 1) (out.map ag ++ [ag acc])) (hg : (w1.alloc o).grownBy w3 v.ownBlock) : w3.ownsRow B 9 1 v' (out ++ [acc]).length ((out ++ [acc]).map ag) ∧ Below B w w3 := by
 refine ⟨by simpa using hown', Below.grown (hb.alloc hB o) hg (by simp; omega) ?_⟩
 intro k hk
 exact (hown.lt k hk).1
end
section
open Go.RowKit
attribute [local go_sem ↓] Go.wp_at_zero Go.wp_at_succ

namespace Sx
theorem FC (l : Tx.Bs) : dP l ≠ [] := by
 cases l with
 | nil => simp [dP]
 | cons c r => unfold dP; split; · simp
               split <;> simp
theorem sj : ∀ (a b : Tx.Bs), (∀ c ∈ a, c ≠ 58) → dP (a ++ 58 :: b) = a :: dP b
 | [], b, _ => by simp [dP]
 | c :: a, b, h => by
   have hc : c ≠ 58 := h c (by simp)
   have := sj a b (fun d hd => h d (by simp [hd]))
   simp only [List.cons_append]
   conv => lhs; unfold dP
   rw [if_neg hc, this]
theorem su : ∀ (a : Tx.Bs), (∀ c ∈ a, c ≠ 58) → dP a = [a]
 | [], _ => by simp [dP]
 | c :: a, h => by
   have hc : c ≠ 58 := h c (by simp)
   have := su a (fun d hd => h d (by simp [hd]))
   unfold dP
   rw [if_neg hc, this]
theorem lL : ∀ (l : Tx.Bs), ∀ x ∈ dP l, x.length ≤ l.length
 | [], x, h => by simp [dP] at h; subst h; simp
 | c :: r, x, h => by
   unfold dP at h
   split at h
   ·simp at h
    rcases h with rfl | h
    ·simp
    ·have := lL r x h; simp; omega
   ·split at h
    ·rename_i q; exact absurd q (FC r)
    ·rename_i y ys q
     simp at h
     rcases h with rfl | h
     ·have := lL r y (by rw [q]; simp); simp; omega
     ·have := lL r x (by rw [q]; simp [h]); simp; omega
def zR : List Tx.Bs → Int
 | [h, m] => 3600 * (num 1 2 h).getD 0 + 60 * oJ m
 | [h, m, t] => 3600 * (num 1 2 h).getD 0 + 60 * oJ m + oJ t
 | _ => 0
def zQ : List Tx.Bs → Bool
 | [h, m] => (num 1 2 h).isSome && (kS m).isSome
 | [h, m, t] => (num 1 2 h).isSome && (kS m).isSome && (kS t).isSome
 | _ => false
def bL (s : Tx.Bs) : Int := if s = [48] then 0 else zR (dP s)
theorem DY (s : Tx.Bs) (h : s ≠ [48]) : (dJ s).isSome = zQ (dP s) := by
 rw [dJ, if_neg h]
 generalize dP s = C
 match C with
 | [] => rfl
 | [_] => rfl
 | [h, m] => simp only [zQ]; cases num 1 2 h <;> cases kS m <;> rfl
 | [h, m, t] => simp only [zQ]; cases num 1 2 h <;> cases kS m <;> cases kS t <;> rfl
 | _ :: _ :: _ :: _ :: _ => rfl
theorem Jv (s : Tx.Bs) : 0 ≤ bL s ∧ bL s ≤ 40000000 := by
 unfold bL zR
 split
 ·omega
 ·split
  ·rename_i h m _
   have := iM 1 2 h (by omega)
   have := oq m
   omega
  ·rename_i h m t _
   have := iM 1 2 h (by omega)
   have := oq m
   have := oq t
   omega
  ·omega
theorem lu {s : Tx.Bs} {n : Int} (h : dJ s = some n) : bL s = n := by
 unfold dJ at h; unfold bL zR
 split
 ·rename_i q; rw [if_pos q] at h; simpa using h
 ·rename_i q
  rw [if_neg q] at h
  split
  ·rename_i a b q2
   rw [q2] at h
   simp [Option.bind_eq_some_iff] at h
   obtain ⟨x, h1, y, h2, h3⟩ := h
   rw [h1, zO h2]; simpa using h3
  ·rename_i a b c q2
   rw [q2] at h
   simp [Option.bind_eq_some_iff] at h
   obtain ⟨x, h1, y, h2, z, h3, h4⟩ := h
   rw [h1, zO h2, zO h3]; simpa using h4
  ·rename_i q2 q3
   exfalso
   split at h
   ·rename_i q4; exact q2 _ _ q4
   ·rename_i q4; exact q3 _ _ _ q4
   ·cases h
theorem kZ (a b : Bool) (o : O) : keep a (keep b o) = keep (a && b) o := by cases a <;> cases b <;> rfl
end Sx
theorem CJ (L : List UInt8) (f i : Nat) (hf : f ≤ i) (hi : i ≤ L.length) (hno : ∀ c ∈ (L.drop f).take (i - f), c ≠ 58) (h58 : i < L.length → L[i]? = some 58) : Sx.dP (L.drop f) = (L.drop f).take (i - f) :: (if i < L.length then Sx.dP (L.drop (i + 1)) else []) := by
 have e : L.drop f = (L.drop f).take (i - f) ++ L.drop i := by
  have := (List.take_append_drop (i - f) (L.drop f)).symm
  rw [List.drop_drop, show f + (i - f) = i by omega] at this
  exact this
 by_cases h : i < L.length
 ·rw [if_pos h]
  have e2 : L.drop i = 58 :: L.drop (i + 1) := by
   rw [List.drop_eq_getElem_cons h]
   have := h58 h
   rw [q4G h] at this
   simp at this; rw [this]
  conv => lhs; rw [e, e2]
  exact Sx.sj _ _ hno
 ·rw [if_neg h]
  have e2 : L.drop i = [] := List.drop_eq_nil_of_le (by omega)
  conv => lhs; rw [e, e2, List.append_nil]
  exact Sx.su _ hno
theorem xe (L : List UInt8) (f i : Nat) (hf : f ≤ i) (hi : i < L.length) (hno : ∀ c ∈ (L.drop f).take (i - f), c ≠ 58) (hc : L[i] ≠ 58) : ∀ c ∈ (L.drop f).take (i + 1 - f), c ≠ 58 := by
 intro c h
 rw [show i + 1 - f = (i - f) + 1 by omega, List.take_succ_eq_append_getElem (by simp; omega)] at h
 simp at h
 rcases h with h | h
 ·exact hno c h
 ·rw [h]
  simpa [show f + (i - f) = i by omega] using hc
theorem fQ {w : World} {b lim : Nat} {o : Sx.O} (h : TkO w b lim o) : TkO w.drew b lim o := ut h (fun i hi => rfl) (Nat.le_refl _)
theorem World.grownBy_drew {w w1 : World} {r : Option Nat} (h : w.drew.grownBy w1 r) : w.grownBy w1 r := ⟨h.os, h.tape, h.output, h.size, h.block⟩
theorem Eh {w : World} {b lim : Nat} {o : Sx.O} {y z : Bool} (h : TkO w b lim (Sx.keep y o)) (e : y = z) : TkO w b lim (Sx.keep z o) := by rw [← e]; exact h
theorem iF {s : ByteArray} {l : Tx.Bs} (h : s.data.toList = l) : Value.string s = ag l := by
 subst h; unfold ag; congr 1

theorem Jw {lim : Nat} (b : Nat) (o : Sx.O) (s : ByteArray) (w : World) (h : TkO w b lim o) (hs : s.size ≤ 24) :
  Calls Tryz.prog 186 #[.pointer (some ⟨b, 0, none⟩), .string s] w fun e w' =>
   e = .returned (.int .i64 (Sx.bL s.data.toList)) ∧ w.grownBy w' (some b) ∧ TkO w' b lim (Sx.keep (Sx.dJ s.data.toList).isSome o) := by
 have H := hid h
 have lt := wE h
 clear h
 by_cases h48 : s.data.toList = [48]
 ·have hq : (s.toList == [48]) = true := by rw [Lib.toList_data, h48]; rfl
  have e1 : Hid (Sx.bL s.data.toList = 0) := by show _ = _; rw [Sx.bL, if_pos h48]
  have e2 : Hid ((Sx.dJ s.data.toList).isSome = true) := by show _ = _; rw [Sx.dJ, if_pos h48]; rfl
  clear h48
  go_enter Tryz.func186, Tryz.ntmps186
  go_wp2
  go_ret
  rw [e1.out, e2.out]
  exact ⟨rfl, ik _ _, H.out⟩
 have hq : (s.toList == [48]) = false := by rw [Lib.toList_data]; simpa using h48
 obtain ⟨C, hC⟩ : ∃ C, Sx.dP s.data.toList = C := ⟨_, rfl⟩
 have hCl : ∀ x ∈ C, x.length ≤ 24 := by rw [← hC]; intro x hx; have := Sx.lL _ x hx; simp at this; omega
 have V : Hid (Sx.bL s.data.toList = Sx.zR C) := by show _ = _; rw [Sx.bL, if_neg h48, hC]
 have OK : Hid ((Sx.dJ s.data.toList).isSome = Sx.zQ C) := by show _ = _; rw [Sx.DY _ h48, hC]
 have HC := hid hC
 have HCL := hid hCl
 clear hC hCl h48
 obtain ⟨SV, hSV⟩ : ∃ SV, Sx.bL s.data.toList = SV := ⟨_, rfl⟩
 obtain ⟨SO, hSO⟩ : ∃ SO, (Sx.dJ s.data.toList).isSome = SO := ⟨_, rfl⟩
 rw [hSV] at V ⊢
 rw [hSO] at OK ⊢
 clear hSV hSO
 obtain ⟨i0, hi, hz0, hz1, hz2⟩ := info_parts Tryz.EI
 go_enter Tryz.func186, Tryz.ntmps186
 go_wp2_with fail
 go_loopw [5, 6, 7] (fun v a c wr => ∃ (i f : Nat) (out : List Tx.Bs), f ≤ i ∧ i ≤ s.size + 1 ∧ out.length ≤ i ∧ a = .int .i64 f ∧ c = .int .i64 i ∧ wr.ownsRow w.heap.size 9 1 v out.length (out.map ag) ∧ Below w.heap.size w wr ∧
  Hid (if i ≤ s.size then (∀ c ∈ (s.data.toList.drop f).take (i - f), c ≠ 58) ∧ C = out ++ Sx.dP (s.data.toList.drop f) else C = out)) (fun _ _ c _ => s.size + 1 - (intOf c).toNat)
 case atStart => exact ⟨0, 0, [], by omega, by omega, by simp, rfl, rfl, World.ownsRow_nil _ _ _ _, q4B _ _, by show ite _ _ _; rw [if_pos (by omega)]; exact ⟨by simp, by simpa using HC.out.symm⟩⟩
 case round =>
  obtain ⟨i, f, out, h1, h2, h3, rfl, rfl, hown, hb, HR⟩ := hrel
  clear HC
  obtain ⟨va, vcap, rfl⟩ := aQ hown
  by_cases hend : i = s.size + 1
  ·have hR : C = out := by have := HR.out; rw [if_neg (by omega)] at this; exact this
   clear HR
   subst hR
   subst hend
   have HT := hid (yE H.out hb)
   obtain ⟨x0, bad, c0, c1, z0, z1, lt1⟩ := eB HT.out
   have hb1 := hb.size
   by_cases h22 : C.length = 2
   ·match C, h22, hown, HCL, V, OK with
    | [p, q], _, hown, HCL, V, OK =>
      obtain ⟨g, cap, hv⟩ := bu hown
      simp at hv
      obtain ⟨rfl, rfl⟩ := hv
      obtain ⟨_, _, k3, k4, k5⟩ := jU (g := 0) hown
      have hp : _ = some (ag p) := k5 0 (ag p) rfl
      have hq2 : _ = some (ag q) := k5 1 (ag q) rfl
      have lp := HCL.out p (by simp)
      have lq := HCL.out q (by simp)
      have hne : g ≠ b := by intro q; subst q; simp at k3; omega
      simp at k4 hp hq2
      have HG : Hid (w.grownBy _ (some b)) := ⟨hb.os, hb.tape, hb.output, hb.size, fun k hk _ => hb.block k hk⟩
      have HN := hid (fun (o' : Sx.O) (w' : World) (h : TkO w' b lim o') => gD b o' p 1 2 w' h (by omega) lp)
      have HS := hid (fun (o' : Sx.O) (w' : World) (h : TkO w' b lim o') => rH b o' q w' h lq)
      have V' : Hid (SV = 3600 * (Sx.num 1 2 p).getD 0 + 60 * oJ q) := V
      have OK' : Hid (SO = ((Sx.num 1 2 p).isSome && (Sx.kS q).isSome)) := OK
      have nb := Sx.iM 1 2 p (by omega)
      have sb := oq q
      clear V OK hown HCL
      obtain ⟨P, hP⟩ : ∃ P, (Sx.num 1 2 p).getD 0 = P := ⟨_, rfl⟩
      obtain ⟨Q, hQ⟩ : ∃ Q, oJ q = Q := ⟨_, rfl⟩
      rw [hP] at nb HN V'
      rw [hQ] at sb HS V'
      obtain ⟨n1, n2⟩ := nb
      obtain ⟨s1, s2⟩ := sb
      clear hP hQ
      have hw1 : IntKind.i64.wrap (3600 * P) = 3600 * P := by rw [IntKind.wrap_i64]; omega
      have hw2 : IntKind.i64.wrap (60 * Q) = 60 * Q := by rw [IntKind.wrap_i64]; omega
      have hw3 : IntKind.i64.wrap (3600 * P + 60 * Q) = 3600 * P + 60 * Q := by rw [IntKind.wrap_i64]; omega
      have ht0 := HT.out
      go_wp2_with fail
      go_region_held3 (fun w' => w'.cell? ⟨g, 0, none⟩ = some (ag p) ∧ w'.cell? ⟨g, 1, none⟩ = some (ag q)) (first | go_keep | exact ⟨World.grownBy.cell hg3 (World.grownBy.cell hg hp (by simpa using hne)) (by simpa using hne), World.grownBy.cell hg3 (World.grownBy.cell hg hq2 (by simpa using hne)) (by simpa using hne)⟩ | exact ⟨World.grownBy.cell hg hp (by simpa using hne), World.grownBy.cell hg hq2 (by simpa using hne)⟩)
       (first | (go_at_call 187; first | (refine (HN.out o _ (fQ ht0)).mono ?_; rintro e w2 ⟨rfl, hg, ht⟩) | (refine (HN.out _ _ ht).mono ?_; rintro e w3 ⟨rfl, hg3, ht3⟩)) | (go_at_call 207; first | (refine (HS.out o _ (fQ ht0)).mono ?_; rintro e w2 ⟨rfl, hg, ht⟩) | (refine (HS.out _ _ ht).mono ?_; rintro e w3 ⟨rfl, hg3, ht3⟩)))
      all_goals
       have G3 := hid (aN HG.out (aN (World.grownBy_drew hg) hg3))
       go_wp2
       go_ret
       rw [V'.out, OK'.out]
       refine ⟨rfl, G3.out, ?_⟩
       rw [Sx.kZ] at ht3
       first
        | exact ht3
        | (rw [Bool.and_comm]; exact ht3)
   by_cases h33 : C.length = 3
   ·match C, h33, hown, HCL, V, OK with
    | [p, q, t], _, hown, HCL, V, OK =>
      obtain ⟨g, cap, hv⟩ := bu hown
      simp at hv
      obtain ⟨rfl, rfl⟩ := hv
      obtain ⟨_, _, k3, k4, k5⟩ := jU (g := 0) hown
      have hp : _ = some (ag p) := k5 0 (ag p) rfl
      have hq2 : _ = some (ag q) := k5 1 (ag q) rfl
      have ht2 : _ = some (ag t) := k5 2 (ag t) rfl
      have lt2 := HCL.out t (by simp)
      have lp := HCL.out p (by simp)
      have lq := HCL.out q (by simp)
      have hne : g ≠ b := by intro q; subst q; simp at k3; omega
      simp at k4 hp hq2 ht2
      have HG : Hid (w.grownBy _ (some b)) := ⟨hb.os, hb.tape, hb.output, hb.size, fun k hk _ => hb.block k hk⟩
      have HN := hid (fun (o' : Sx.O) (w' : World) (h : TkO w' b lim o') => gD b o' p 1 2 w' h (by omega) lp)
      have HS := hid (fun (o' : Sx.O) (w' : World) (h : TkO w' b lim o') => rH b o' q w' h lq)
      have HS2 := hid (fun (o' : Sx.O) (w' : World) (h : TkO w' b lim o') => rH b o' t w' h lt2)
      have V' : Hid (SV = 3600 * (Sx.num 1 2 p).getD 0 + 60 * oJ q + oJ t) := V
      have OK' : Hid (SO = ((Sx.num 1 2 p).isSome && (Sx.kS q).isSome && (Sx.kS t).isSome)) := OK
      have tb := oq t
      have nb := Sx.iM 1 2 p (by omega)
      have sb := oq q
      clear V OK hown HCL
      obtain ⟨P, hP⟩ : ∃ P, (Sx.num 1 2 p).getD 0 = P := ⟨_, rfl⟩
      obtain ⟨Q, hQ⟩ : ∃ Q, oJ q = Q := ⟨_, rfl⟩
      rw [hP] at nb HN V'
      rw [hQ] at sb HS V'
      obtain ⟨n1, n2⟩ := nb
      obtain ⟨s1, s2⟩ := sb
      clear hP hQ
      obtain ⟨R, hR⟩ : ∃ R, oJ t = R := ⟨_, rfl⟩
      rw [hR] at tb HS2 V'
      obtain ⟨t1, t2⟩ := tb
      clear hR
      have hw1 : IntKind.i64.wrap (3600 * P) = 3600 * P := by rw [IntKind.wrap_i64]; omega
      have hw2 : IntKind.i64.wrap (60 * Q) = 60 * Q := by rw [IntKind.wrap_i64]; omega
      have hw3 : IntKind.i64.wrap (3600 * P + 60 * Q) = 3600 * P + 60 * Q := by rw [IntKind.wrap_i64]; omega
      have ht0 := HT.out
      go_wp2_with fail
      go_region_held3 (fun w' => w'.cell? ⟨g, 0, none⟩ = some (ag p) ∧ w'.cell? ⟨g, 1, none⟩ = some (ag q)) (first | go_keep | exact ⟨World.grownBy.cell hg3 (World.grownBy.cell hg hp (by simpa using hne)) (by simpa using hne), World.grownBy.cell hg3 (World.grownBy.cell hg hq2 (by simpa using hne)) (by simpa using hne)⟩ | exact ⟨World.grownBy.cell hg hp (by simpa using hne), World.grownBy.cell hg hq2 (by simpa using hne)⟩)
       (first | (go_at_call 187; first | (refine (HN.out o _ (fQ ht0)).mono ?_; rintro e w2 ⟨rfl, hg, ht⟩) | (refine (HN.out _ _ ht).mono ?_; rintro e w3 ⟨rfl, hg3, ht3⟩)) | (go_at_call 207; first | (refine (HS.out o _ (fQ ht0)).mono ?_; rintro e w2 ⟨rfl, hg, ht⟩) | (refine (HS.out _ _ ht).mono ?_; rintro e w3 ⟨rfl, hg3, ht3⟩)))
      all_goals
       have G3 := hid (aN HG.out (aN (World.grownBy_drew hg) hg3))
       have q3 := World.grownBy.cell hg3 (World.grownBy.cell hg ht2 (by simpa using hne)) (by simpa using hne)
       go_wp2_with fail
       refine (HS2.out _ _ ht3).mono ?_
       rintro e w4 ⟨rfl, hg4, ht4⟩
       go_wp2
       go_ret
       rw [V'.out, OK'.out]
       refine ⟨rfl, aN G3.out hg4, ?_⟩
       rw [Sx.kZ, Sx.kZ] at ht4
       exact Eh ht4 (by cases (Sx.num 1 2 p).isSome <;> cases (Sx.kS q).isSome <;> cases (Sx.kS t).isSome <;> rfl)
   ·have V' : Hid (SV = 0) := by
     show _ = _; rw [V.out]
     match C, h22, h33 with
     | [], _, _ => rfl
     | [_], _, _ => rfl
     | _ :: _ :: _ :: _ :: _, _, _ => rfl
    have OK' : Hid (SO = false) := by
     show _ = _; rw [OK.out]
     match C, h22, h33 with
     | [], _, _ => rfl
     | [_], _, _ => rfl
     | _ :: _ :: _ :: _ :: _, _, _ => rfl
    have e2 : ((C.length : Int) != 2) = true := by simp; omega
    have e3 : ((C.length : Int) != 3) = true := by simp; omega
    have HG : Hid (w.grownBy _ (some b)) := ⟨hb.os, hb.tape, hb.output, hb.size, fun k hk _ => hb.block k hk⟩
    clear V OK h22 h33 hown
    go_wp2
    go_ret
    rw [V'.out, OK'.out]
    exact ⟨rfl, bV HG.out (.inl rfl) _, fo HT.out⟩
  have h2' : i ≤ s.size := by omega
  have HR' : Hid ((∀ c ∈ (s.data.toList.drop f).take (i - f), c ≠ 58) ∧ C = out ++ Sx.dP (s.data.toList.drop f)) := by have := HR.out; rw [if_pos h2'] at this; exact this
  clear HR hend h2 V OK HCL
  by_cases hgo : ∃ h : i < s.size, s[i] ≠ 58
  ·obtain ⟨hi2, hc⟩ := hgo
   have NF := hid (xe s.data.toList f i h1 (by simpa using hi2) HR'.out.1 hc)
   obtain ⟨c, hcc⟩ : ∃ c, s[i] = c := ⟨_, rfl⟩
   rw [hcc] at hc
   have e58 : ((c.toNat : Int) == 58) = false := by have := gH c 58; simp at this; simp [this, hc]
   have eis : ((i : Int) == (s.size : Int)) = false := by simp; omega
   clear hc
   go_wp2
   go_roundw
   case rel => exact ⟨i + 1, f, out, by omega, by omega, by omega, rfl, by go_num, hown, hb, by show ite _ _ _; rw [if_pos (by omega)]; exact ⟨NF.out, HR'.out.2⟩⟩
   case measure => simp [intOf]; omega
  ·have hgo' : ∀ h : i < s.size, s[i] = 58 := by
    intro h
    by_cases q : s[i] = 58
    ·exact q
    ·exact absurd ⟨h, q⟩ hgo
   clear hgo
   have RC := hid (CJ s.data.toList f i h1 (by simpa using h2') HR'.out.1 (fun h => by rw [q4G h]; exact congrArg some (hgo' (by simpa using h))))
   have ER := hid (show (s.extract f i).data.toList = (s.data.toList.drop f).take (i - f) from Lib.extract_data _ _ _)
   obtain ⟨r, hr⟩ : ∃ r, (s.data.toList.drop f).take (i - f) = r := ⟨_, rfl⟩
   rw [hr] at RC ER
   have EV : Value.string (s.extract f i) = ag r := iF ER.out
   have NX : Hid (if i + 1 ≤ s.size then (∀ c ∈ (s.data.toList.drop (i + 1)).take (i + 1 - (i + 1)), c ≠ 58) ∧ C = (out ++ [r]) ++ Sx.dP (s.data.toList.drop (i + 1)) else C = out ++ [r]) := by
    show ite _ _ _
    have e : s.data.toList.length = s.size := by simp
    have q := HR'.out.2
    rw [RC.out] at q
    by_cases h : i < s.size
    ·rw [if_pos (by omega)] at q ⊢
     exact ⟨by simp, by rw [q]; simp⟩
    ·rw [if_neg (by omega)] at q ⊢
     exact q
   clear hr HR' RC
   by_cases hi2 : i < s.size
   all_goals
    first
     | (have e58 : (((s[i]'hi2).toNat : Int) == 58) = true := by rw [hgo' hi2]; rfl
        have eis : ((i : Int) == (s.size : Int)) = false := by simp; omega)
     | (have eis : ((i : Int) == (s.size : Int)) = true := by simp; omega)
    clear hgo'
    go_wp2_with (at_builtin; refine wpList_append_own _ rfl _ _ 107 rfl w.heap.size 9 i0 (.string ⟨#[]⟩) 1 16 Tryz.underlying107 hi hz0 hz1 hz2 rfl (by decide) _ _ _ rfl (hown.alloc _) _ 1 1 [ag r] rfl rfl (by rw [← EV]; exact one_cell _ _) (by simp [Value.oneCell']) (by unfold maxLen; omega) (by omega) (by simp; have := hb.size; omega) ?_)
    intro v' w3 hown' hgrow _
    obtain ⟨hown2, hb2⟩ := gI hb.size hown hb hown' hgrow
    obtain ⟨g, cap, hv⟩ := bu hown'
    rw [hv] at hown2 ⊢
    clear hown' hgrow hown
    go_wp2
    go_roundw
    case rel => exact ⟨i + 1, i + 1, out ++ [r], by omega, by omega, by simp; omega, by go_num, by go_num, hown2, hb2, NX⟩
    case measure => simp [intOf]; omega
theorem nI {lim : Nat} (b : Nat) (o : Sx.O) (l : Tx.Bs) (w : World) (h : TkO w b lim o) (hs : l.length ≤ 24) :
  Calls Tryz.prog 186 #[.pointer (some ⟨b, 0, none⟩), ag l] w fun e w' =>
   e = .returned (.int .i64 (Sx.bL l)) ∧ w.grownBy w' (some b) ∧ TkO w' b lim (Sx.keep (Sx.dJ l).isSome o) := by
 have := Jw b o ⟨l.toArray⟩ w h (by rw [bT]; exact hs)
 rw [eF] at this; exact this
end
end Go.Proofs.YtkhlkohlccndgaaGreat
