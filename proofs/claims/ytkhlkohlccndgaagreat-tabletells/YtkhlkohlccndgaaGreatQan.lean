/- Proved: what a table tells it is (the law TableTells), for every table and time; no condition. -/
import Derived.Test.YtkhlkohlccndgaaGreatQz
import Derived.Test.YtkhlkohlccndgaaGreatQal
import Derived.Test.YtkhlkohlccndgaaGreatQam
import Derived.Test.YtkhlkohlccndgaaGreatQag
import Derived.ProofKit
import Derived.OpenShut
import Derived.Lib.SmallJoins
import Derived.Deep.Slices
import Derived.Deep.Strs
import Derived.Carry
set_option linter.unusedVariables false
set_option linter.unusedSimpArgs false
set_option maxRecDepth 100000
set_option maxHeartbeats 16000000
namespace Go.Proofs.YtkhlkohlccndgaaGreat
open Go.RowKit


theorem lookAt_any (t : Tb.Tbl) (v : Value) (n : Int) (w : World) (h : RdCh w v t.ch) (hl : t.ch.length ≤ 1000) :
  Calls Tryz.prog 34 #[tbV t.first v, .int .i64 n] w fun e w' => e = .returned (lcV (Tb.look t n)) ∧ Below w.heap.size w w' := by
 obtain ⟨f, ch⟩ := t
 obtain ⟨R, hR⟩ : ∃ R, Tb.look ⟨f, ch⟩ n = R := ⟨_, rfl⟩
 rw [hR]
 have HR : Hid (R = Tb.lookL f n (ch.drop 0)) := by show _ = _; rw [← hR]; simp [Tb.look]
 clear hR
 simp only at h hl
 have h' := h
 obtain ⟨a, cap, rfl, hc⟩ := h'
 have H := hid h
 clear h hc
 obtain ⟨W, hW⟩ : ∃ W, ((w.alloc (.cells (tbL f (.slice a ch.length cap)).toArray 76)).alloc (.cells (lcL lc0).toArray 31)).alloc (.cells (lcL f).toArray 31) = W := ⟨_, rfl⟩
 have B0 : Hid (Below w.heap.size w W) := by
  rw [← hW]; show Below _ _ _
  exact (((Below.refl _ _).alloc (Nat.le_refl _) _).alloc (by simp) _).alloc (by simp; omega) _
 have X0 : Hid (CellsAt W w.heap.size (tbL f (.slice a ch.length cap))) := by
  rw [← hW]; exact ca_alloc (ca_alloc (ca_new _ _ _) _) _
 have Y0 : Hid (CellsAt W (w.heap.size + 1) (lcL lc0)) := by
  rw [← hW]; show CellsAt _ _ _
  have := ca_alloc (ca_new (w.alloc (.cells (tbL f (.slice a ch.length cap)).toArray 76)) (lcL lc0) 31) (.cells (lcL f).toArray 31)
  simpa using this
 have Z0 : Hid (CellsAt W (w.heap.size + 1 + 1) (lcL f)) := by
  rw [← hW]; show CellsAt _ _ _
  have := ca_new ((w.alloc (.cells (tbL f (.slice a ch.length cap)).toArray 76)).alloc (.cells (lcL lc0).toArray 31)) (lcL f) 31
  simpa using this
 have HW := hid hW
 clear hW
 go_enter Tryz.func34, Tryz.ntmps34
 go_wp2_with fail
 go_loopw [6] (fun b wr => ∃ (i : Nat) (o : Tb.Lc), i ≤ ch.length ∧ b = .int .i64 i ∧ Hid (R = Tb.lookL o n (ch.drop i)) ∧ Hid (Below w.heap.size w wr) ∧ Hid (CellsAt wr w.heap.size (tbL f (.slice a ch.length cap))) ∧ Hid (CellsAt wr (w.heap.size + 1) (lcL lc0)) ∧ Hid (CellsAt wr (w.heap.size + 1 + 1) (lcL o))) (fun b _ => ch.length - (intOf b).toNat)
 case atStart => exact ⟨0, f, by omega, rfl, HR, by rw [← HW.out] at B0; exact B0, by rw [← HW.out] at X0; exact X0, by rw [← HW.out] at Y0; exact Y0, by rw [← HW.out] at Z0; exact Z0⟩
 case round =>
  clear HW B0 X0 Y0 Z0 HR
  obtain ⟨i, o, hi, rfl, HR, B0, X0, Y0, Z0⟩ := hrel
  obtain ⟨x3, f3⟩ := ca_at X0.out 3 rfl
  have sx := X0.out.1
  by_cases hlt : i < ch.length
  ·obtain ⟨c, hcc⟩ : ∃ c, ch[i]? = some c := ⟨_, List.getElem?_eq_getElem hlt⟩
   obtain ⟨bb, bo, bcap, e, hbb, c0, c1, c2, c3⟩ := rdCh_at (rdCh_below H.out B0.out) hcc
   simp only [Value.slice.injEq] at e
   obtain ⟨rfl, _, rfl⟩ := e
   have HC := hid hcc
   clear hcc
   by_cases hle : c.at_ ≤ n
   ·have HR2 := hid (Tb.lookL_yes HC.out HR.out hle)
    obtain ⟨z0, g0⟩ := ca_at Z0.out 0 rfl
    obtain ⟨z1, g1⟩ := ca_at Z0.out 1 rfl
    obtain ⟨z2, g2⟩ := ca_at Z0.out 2 rfl
    have sz := Z0.out.1
    clear HR HC
    go_wp2
    go_roundw
    case rel =>
     refine ⟨i + 1, c.lc, by omega, by go_num, HR2, ?_, ?_, ?_, ?_⟩
     ·exact below_set (below_set (below_set B0.out (by omega) _) (by omega) _) (by omega) _
     ·exact ca_far (ca_far (ca_far X0.out (by omega)) (by omega)) (by omega)
     ·exact ca_far (ca_far (ca_far Y0.out (by omega)) (by omega)) (by omega)
     ·exact ca_put (ca_put (ca_put Z0.out 0 _ (by simp)) 1 _ (by simp)) 2 _ (by simp)
    case measure => simp [intOf]; omega
   ·have HR2 := hid (Tb.lookL_no HC.out HR.out hle)
    clear HR HC
    go_wp2
    go_roundw
    case rel => exact ⟨i + 1, o, by omega, by go_num, HR2, B0, X0, Y0, Z0⟩
    case measure => simp [intOf]; omega
  ·have HR2 := hid (Tb.lookL_end hlt HR.out)
   obtain ⟨z0, g0⟩ := ca_at Z0.out 0 rfl
   obtain ⟨z1, g1⟩ := ca_at Z0.out 1 rfl
   obtain ⟨z2, g2⟩ := ca_at Z0.out 2 rfl
   obtain ⟨y0, q0⟩ := ca_at Y0.out 0 rfl
   obtain ⟨y1, q1⟩ := ca_at Y0.out 1 rfl
   obtain ⟨y2, q2⟩ := ca_at Y0.out 2 rfl
   have sz := Z0.out.1
   have sy := Y0.out.1
   clear HR
   go_wp2
   refine bodyPost_ret (v := lcV o) (by simp [results, Tryz.results34, go_sem, *]) rfl ⟨by rw [HR2.out], ?_⟩
   exact below_set (below_set (below_set B0.out (by omega) _) (by omega) _) (by omega) _
end Go.Proofs.YtkhlkohlccndgaaGreat
namespace Go.Proofs.YtkhlkohlccndgaaGreat
open Go.RowKit Go.Shelf
attribute [local go_sem] Oper.semAt_some
attribute [local go_sem ↓] Go.wp_at_zero Go.wp_at_succ

theorem rd_sets {α : Type} {z : Nat} {cells : α → List Value} {w w5 : World} {N q : Nat} {v : Value} {xs : List α} (h : Rd z cells w v xs ∧ w.heap.size = N) (hb : Below N w w5) (hq : N ≤ q) (a b c : Value) : Rd z cells (((w5.setCell ⟨q, 0, none⟩ a).setCell ⟨q, 1, none⟩ b).setCell ⟨q, 2, none⟩ c) v xs := by
 obtain ⟨h, rfl⟩ := h
 exact rd_below h (below_put (below_put (below_put hb hq 0 a) hq 1 b) hq 2 c)
structure MaxC (m : Int) (w : World) : Prop where
 c : w.cell? ⟨0, 0, none⟩ = some (.int .i64 m)
 p : 0 < w.heap.size
theorem ca_m {N : Nat} {w w' : World} {m : Int} (hb : Below N w w') (h : MaxC m w ∧ w.heap.size = N) : w'.cell? ⟨0, 0, none⟩ = some (.int .i64 m) := (hb.cell (p := ⟨0, 0, none⟩) (by have := h.1.p; have := h.2; show 0 < N; omega)).trans h.1.c
theorem ca_p {N : Nat} {w w' : World} {m : Int} (hb : Below N w w') (h : MaxC m w ∧ w.heap.size = N) : 0 < w'.heap.size := Nat.lt_of_lt_of_le h.1.p hb.size
theorem tableTells_is (t : Tb.Tbl) (v : Value) (n : Int) (w : World) (h : RdCh w v t.ch) (hs : Tb.Sized t) (m : Int) (hm : w.cell? ⟨0, 0, none⟩ = some (.int .i64 m)) (h0 : 0 < w.heap.size) :
  Calls Tryz.prog 9 #[tbV t.first v, .int .i64 n] w fun e w' => e = .returned (.bool true) ∧ Below w.heap.size w w' := by
 obtain ⟨f, ch⟩ := t
 obtain ⟨a, cap, hv, _⟩ := id h
 dsimp only at hv h
 subst hv
 obtain ⟨N, hN⟩ : ∃ N, w.heap.size = N := ⟨_, rfl⟩
 have HM : Hid (MaxC m w ∧ w.heap.size = N) := ⟨⟨hm, h0⟩, hN⟩
 obtain ⟨V, gV, T0, hb, sz⟩ := named_new w #[.int .i64 f.shift, .int .i64 f.save, .string ⟨f.name.toArray⟩, .slice a ch.length cap] 76
 have TT : Hid (CellsAt V N [.int .i64 f.shift, .int .i64 f.save, .string ⟨f.name.toArray⟩, .slice a ch.length cap]) := hN ▸ T0
 have B : Hid (Below N w V) := hN ▸ hb
 have RC := hid (rdCh_below h hb)
 have rdCh_of0 : Hid (RdCh w (.slice a ch.length cap) ch ∧ w.heap.size = N) := ⟨h, hN⟩
 have HS := hid hs
 obtain ⟨E, hE⟩ : ∃ E, Tb.tableE ⟨f, ch⟩ = E := ⟨_, rfl⟩
 have HE := hid hE
 obtain ⟨R, hR⟩ : ∃ R, Tb.lookErr ⟨f, ch⟩ n = R := ⟨_, rfl⟩
 have HR : Hid (R = if E ≠ 0 then E else if Tb.inYears n = false then 3 else 0) := by show _ = _; rw [← hR, Tb.lookErr, hE]
 obtain ⟨Q, hQ⟩ : ∃ Q, Tb.lookO ⟨f, ch⟩ n = Q := ⟨_, rfl⟩
 have HQ : Hid (Q = if R = 0 then Tb.look ⟨f, ch⟩ n else lc0) := by show _ = _; rw [← hQ, Tb.lookO, hR]
 have CL := pLook_any ⟨f, ch⟩ (.slice a ch.length cap) n V RC.out hs
 rw [hR, hQ] at CL
 have HC : Hid (Calls Tryz.prog 32 #[tbV f (.slice a ch.length cap), .int .i64 n] V fun e w' => e = .returned (.tuple #[lcV Q, .int .i64 R]) ∧ Below V.heap.size V w') := CL
 clear h hs hm h0 T0 hb sz hE hR hQ CL
 obtain ⟨t0, _⟩ := ca_at TT.out 0 rfl
 obtain ⟨t1, _⟩ := ca_at TT.out 1 rfl
 obtain ⟨t2, _⟩ := ca_at TT.out 2 rfl
 obtain ⟨t3, _⟩ := ca_at TT.out 3 rfl
 have st := TT.out.1
 go_enter Tryz.func9, Tryz.ntmps9
 simp only [hN]
 go_wp2_with fail
 refine HC.out.mono ?_
 rintro e w1 ⟨rfl, hb⟩
 clear HC t0 t1 t2 t3 st
 have hle := Nat.le_of_lt TT.out.1
 replace B := hid (below_on B.out hle hb)
 replace TT := hid (ca_below TT.out hb)
 replace RC := hid (rdCh_below RC.out hb)
 clear hle
 obtain ⟨w2, g2, L0, hb2, sz⟩ := named_new w1 #[.int .i64 Q.shift, .int .i64 Q.save, .string ⟨Q.name.toArray⟩] 31
 obtain ⟨b3, hb3⟩ : ∃ b, w1.heap.size = b := ⟨_, rfl⟩
 have LL : Hid (CellsAt w2 b3 [.int .i64 Q.shift, .int .i64 Q.save, .string ⟨Q.name.toArray⟩]) := hb3 ▸ L0
 have hle := Nat.le_of_lt TT.out.1
 replace B := hid (below_on B.out hle hb2)
 replace TT := hid (ca_below TT.out hb2)
 replace RC := hid (rdCh_below RC.out hb2)
 clear hle
 clear hb hb2 sz L0
 obtain ⟨t0, _⟩ := ca_at TT.out 0 rfl
 obtain ⟨t1, _⟩ := ca_at TT.out 1 rfl
 obtain ⟨t2, _⟩ := ca_at TT.out 2 rfl
 obtain ⟨t3, _⟩ := ca_at TT.out 3 rfl
 have st := TT.out.1
 have CT := checkTable_any ⟨f, ch⟩ (.slice a ch.length cap) w2 RC.out HS.out.ch HS.out.first HS.out.names
 rw [HE.out] at CT
 have HC : Hid (Calls Tryz.prog 33 #[tbV f (.slice a ch.length cap)] w2 fun e w' => e = .returned (.int .i64 E) ∧ Below w2.heap.size w2 w') := CT
 clear CT
 go_wp2_with fail
 refine HC.out.mono ?_
 rintro e w3 ⟨rfl, hb⟩
 clear HC t0 t1 t2 t3 st g2 hb3
 have hle := Nat.le_of_lt TT.out.1
 replace B := hid (below_on B.out hle hb)
 replace TT := hid (ca_below TT.out hb)
 replace RC := hid (rdCh_below RC.out hb)
 replace LL := hid (ca_below LL.out hb)
 clear hle
 clear hb
 by_cases hE0 : E = 0
 case neg =>
  have e1 : R = E := by rw [HR.out, if_pos hE0]
  have e2 : Q = lc0 := by rw [HQ.out, e1, if_neg hE0]
  subst e1
  subst e2
  have q1 : (R == 0) = false := by simp [hE0]
  replace LL : Hid (CellsAt w3 b3 [.int .i64 0, .int .i64 0, .string ⟨#[]⟩]) := LL.out
  clear HR HQ
  obtain ⟨w4, g4, W0, hb, sz⟩ := named_new w3 #[.int .i64 0, .int .i64 0, .string ⟨#[]⟩] 31
  obtain ⟨b9, hb9⟩ : ∃ b, w3.heap.size = b := ⟨_, rfl⟩
  have LW : Hid (CellsAt w4 b9 [.int .i64 0, .int .i64 0, .string ⟨#[]⟩]) := hb9 ▸ W0
  have hle := Nat.le_of_lt TT.out.1
  replace B := hid (below_on B.out hle hb)
  replace TT := hid (ca_below TT.out hb)
  replace RC := hid (rdCh_below RC.out hb)
  replace LL := hid (ca_below LL.out hb)
  clear hle
  clear hb W0 sz
  go_wp2_with fail
  refine (tableBegun_is m _ (ca_m B.out HM.out) (ca_p B.out HM.out)).mono ?_
  rintro e x1 ⟨rfl, hb⟩
  have hle := Nat.le_of_lt TT.out.1
  replace B := hid (below_on B.out hle hb)
  replace TT := hid (ca_below TT.out hb)
  replace RC := hid (rdCh_below RC.out hb)
  replace LL := hid (ca_below LL.out hb)
  replace LW := hid (ca_below LW.out hb)
  clear hle
  clear hb
  obtain ⟨t0, _⟩ := ca_at TT.out 0 rfl
  obtain ⟨t1, _⟩ := ca_at TT.out 1 rfl
  obtain ⟨t2, _⟩ := ca_at TT.out 2 rfl
  obtain ⟨t3, _⟩ := ca_at TT.out 3 rfl
  have st := TT.out.1
  have CK := pCheck_any ⟨f, ch⟩ (.slice a ch.length cap) x1 RC.out HS.out
  rw [HE.out] at CK
  have HC : Hid (Calls Tryz.prog 31 #[tbV f (.slice a ch.length cap)] x1 fun e w' => e = .returned (.int .i64 R) ∧ Below x1.heap.size x1 w') := CK
  clear CK
  go_wp2_with fail
  refine HC.out.mono ?_
  rintro e x2 ⟨rfl, hb⟩
  clear HC t0 t1 t2 t3 st
  have hle := Nat.le_of_lt TT.out.1
  replace B := hid (below_on B.out hle hb)
  replace TT := hid (ca_below TT.out hb)
  replace RC := hid (rdCh_below RC.out hb)
  replace LL := hid (ca_below LL.out hb)
  replace LW := hid (ca_below LW.out hb)
  clear hle
  clear hb
  obtain ⟨l0, _⟩ := ca_at LL.out 0 rfl
  obtain ⟨l1, _⟩ := ca_at LL.out 1 rfl
  obtain ⟨l2, _⟩ := ca_at LL.out 2 rfl
  have sl := LL.out.1
  obtain ⟨u0, _⟩ := ca_at LW.out 0 rfl
  obtain ⟨u1, _⟩ := ca_at LW.out 1 rfl
  obtain ⟨u2, _⟩ := ca_at LW.out 2 rfl
  have su := LW.out.1
  go_wp2
  go_ret
  exact ⟨rfl, B.out⟩
 subst hE0
 obtain ⟨Y, hY⟩ : ∃ Y, Tb.inYears n = Y := ⟨_, rfl⟩
 have yF : Y = false → n < -62135596800 ∨ 253402300799 < n := by intro q; rw [q] at hY; simp [Tb.inYears, Sx.inB, Tb.least, Tb.most] at hY; omega
 have yT : Y = true → -62135596800 ≤ n ∧ n ≤ 253402300799 := by intro q; rw [q] at hY; simpa [Tb.inYears, Sx.inB, Tb.least, Tb.most] using hY
 have R0 : R = if Y = false then 3 else 0 := by rw [HR.out, hY]; simp
 clear hY
 go_upto_region 4 with fail
 go_cut [30] from 19 to 30 (fun s30 wc => s30 = .bool (!Y) ∧ Hid (Below w3.heap.size w3 wc))
 case first =>
  cases Y
  case false =>
   rcases yF rfl with q | q
   ·have q1 : decide (n < -62135596800) = true := by simp [q]
    go_wp2_with (first | (go_at_call 23; refine (least_any _).mono ?_; rintro e x1 ⟨rfl, hb1⟩))
    go_meet
    exact ⟨rfl, hb1⟩
   ·have q1 : decide (n < -62135596800) = false := by simp; omega
    go_wp2_with (first | (go_at_call 23; refine (least_any _).mono ?_; rintro e x1 ⟨rfl, hb1⟩) | (go_at_call 24; refine (most_any _).mono ?_; rintro e x2 ⟨rfl, hb2⟩))
    go_meet
    exact ⟨by simp [q], hb1.trans (hb2.mono hb1.size)⟩
  case true =>
   obtain ⟨p, q⟩ := yT rfl
   have q1 : decide (n < -62135596800) = false := by simp; omega
   go_wp2_with (first | (go_at_call 23; refine (least_any _).mono ?_; rintro e x1 ⟨rfl, hb1⟩) | (go_at_call 24; refine (most_any _).mono ?_; rintro e x2 ⟨rfl, hb2⟩))
   go_meet
   exact ⟨by simp; omega, hb1.trans (hb2.mono hb1.size)⟩
 case rest =>
 obtain ⟨rfl, hb⟩ := hcut
 replace hb := hb.out
 have hle := Nat.le_of_lt TT.out.1
 replace B := hid (below_on B.out hle hb)
 replace TT := hid (ca_below TT.out hb)
 replace RC := hid (rdCh_below RC.out hb)
 replace LL := hid (ca_below LL.out hb)
 clear hle
 clear hb
 obtain ⟨w3', hw3⟩ : ∃ x, wc = x := ⟨_, rfl⟩
 rw [hw3] at B TT RC LL ⊢
 clear hw3
 obtain ⟨t0, _⟩ := ca_at TT.out 0 rfl
 obtain ⟨t1, _⟩ := ca_at TT.out 1 rfl
 obtain ⟨t2, _⟩ := ca_at TT.out 2 rfl
 obtain ⟨t3, _⟩ := ca_at TT.out 3 rfl
 have st := TT.out.1
 cases Y
 case false =>
  have e1 : R = 3 := R0
  have e2 : Q = lc0 := by rw [HQ.out, e1]; rfl
  subst e1
  subst e2
  replace LL : Hid (CellsAt w3' b3 [.int .i64 0, .int .i64 0, .string ⟨#[]⟩]) := LL.out
  clear HR HQ R0 yF yT
  obtain ⟨w4, g4, W0, hb, sz⟩ := named_new w3' #[.int .i64 0, .int .i64 0, .string ⟨#[]⟩] 31
  obtain ⟨b9, hb9⟩ : ∃ b, w3'.heap.size = b := ⟨_, rfl⟩
  have LW : Hid (CellsAt w4 b9 [.int .i64 0, .int .i64 0, .string ⟨#[]⟩]) := hb9 ▸ W0
  have hle := Nat.le_of_lt TT.out.1
  replace B := hid (below_on B.out hle hb)
  replace TT := hid (ca_below TT.out hb)
  replace RC := hid (rdCh_below RC.out hb)
  replace LL := hid (ca_below LL.out hb)
  clear hle
  clear hb W0 sz
  go_wp2_with fail
  refine (tableBegun_is m _ (ca_m B.out HM.out) (ca_p B.out HM.out)).mono ?_
  rintro e x1 ⟨rfl, hb⟩
  have hle := Nat.le_of_lt TT.out.1
  replace B := hid (below_on B.out hle hb)
  replace TT := hid (ca_below TT.out hb)
  replace RC := hid (rdCh_below RC.out hb)
  replace LL := hid (ca_below LL.out hb)
  replace LW := hid (ca_below LW.out hb)
  clear hle
  clear hb
  obtain ⟨t0, _⟩ := ca_at TT.out 0 rfl
  obtain ⟨t1, _⟩ := ca_at TT.out 1 rfl
  obtain ⟨t2, _⟩ := ca_at TT.out 2 rfl
  obtain ⟨t3, _⟩ := ca_at TT.out 3 rfl
  have st := TT.out.1
  have CK := pCheck_any ⟨f, ch⟩ (.slice a ch.length cap) x1 RC.out HS.out
  rw [HE.out] at CK
  have HC : Hid (Calls Tryz.prog 31 #[tbV f (.slice a ch.length cap)] x1 fun e w' => e = .returned (.int .i64 0) ∧ Below x1.heap.size x1 w') := CK
  clear CK
  go_wp2_with fail
  refine HC.out.mono ?_
  rintro e x2 ⟨rfl, hb⟩
  clear HC t0 t1 t2 t3 st
  have hle := Nat.le_of_lt TT.out.1
  replace B := hid (below_on B.out hle hb)
  replace TT := hid (ca_below TT.out hb)
  replace RC := hid (rdCh_below RC.out hb)
  replace LL := hid (ca_below LL.out hb)
  replace LW := hid (ca_below LW.out hb)
  clear hle
  clear hb
  obtain ⟨l0, _⟩ := ca_at LL.out 0 rfl
  obtain ⟨l1, _⟩ := ca_at LL.out 1 rfl
  obtain ⟨l2, _⟩ := ca_at LL.out 2 rfl
  have sl := LL.out.1
  obtain ⟨u0, _⟩ := ca_at LW.out 0 rfl
  obtain ⟨u1, _⟩ := ca_at LW.out 1 rfl
  obtain ⟨u2, _⟩ := ca_at LW.out 2 rfl
  have su := LW.out.1
  go_wp2
  go_ret
  exact ⟨rfl, B.out⟩
 have e1 : R = 0 := R0
 subst e1
 have e2 : Q = Tb.look ⟨f, ch⟩ n := by rw [HQ.out]; rfl
 have hlen : ch.length ≤ 1000 := (rise_of_good HE.out).2
 have CK0 := hid (fun W (hW : Below w3'.heap.size w3' W) => lookAt_any ⟨f, ch⟩ (.slice a ch.length cap) n W (rdCh_below RC.out hW) hlen)
 rw [← e2] at CK0
 clear HR HQ R0 yF yT e2
 have TTX := hid TT.out.1
 have LLX := hid LL.out.1
 obtain ⟨w4, g4, W0, hb, sz⟩ := named_new w3' #[.int .i64 0, .int .i64 0, .string ⟨#[]⟩] 31
 obtain ⟨b9, hb9⟩ : ∃ b, w3'.heap.size = b := ⟨_, rfl⟩
 have LW : Hid (CellsAt w4 b9 [.int .i64 0, .int .i64 0, .string ⟨#[]⟩]) := hb9 ▸ W0
 have hle := Nat.le_of_lt TT.out.1
 replace B := hid (below_on B.out hle hb)
 replace TT := hid (ca_below TT.out hb)
 replace RC := hid (rdCh_below RC.out hb)
 replace LL := hid (ca_below LL.out hb)
 clear hle
 have BW4 := hid hb
 have B3N : Hid (N < b9) := by show _ < _; have := TTX.out; omega
 have BL3 : Hid (b3 < b9) := by show _ < _; have := LLX.out; omega
 clear hb W0 sz
 obtain ⟨t0, _⟩ := ca_at TT.out 0 rfl
 obtain ⟨t1, _⟩ := ca_at TT.out 1 rfl
 obtain ⟨t2, _⟩ := ca_at TT.out 2 rfl
 obtain ⟨t3, _⟩ := ca_at TT.out 3 rfl
 have st := TT.out.1
 have hb99 : b9 < w4.heap.size := LW.out.1
 have HC : Hid (Calls Tryz.prog 34 #[tbV f (.slice a ch.length cap), .int .i64 n] w4 fun e w' => e = .returned (lcV Q) ∧ Below w4.heap.size w4 w') := CK0.out w4 BW4.out
 have hN9 : N ≤ b9 := by have := B3N.out; omega
 have hb39 : ¬ b3 = b9 := by have := BL3.out; omega
 clear CK0
 go_wp2_with fail
 refine HC.out.mono ?_
 clear hb9
 rintro e w5 ⟨rfl, hb⟩
 clear HC t0 t1 t2 t3 st g4
 have hle := Nat.le_of_lt TT.out.1
 replace B := hid (below_on B.out hle hb)
 replace TT := hid (ca_below TT.out hb)
 replace RC := hid (rdCh_below RC.out hb)
 replace LL := hid (ca_below LL.out hb)
 replace LW := hid (ca_below LW.out hb)
 clear hle
 clear hb
 obtain ⟨w6, g6⟩ : ∃ x, ((w5.setCell ⟨b9, 0, none⟩ (.int .i64 Q.shift)).setCell ⟨b9, 1, none⟩ (.int .i64 Q.save)).setCell ⟨b9, 2, none⟩ (.string ⟨Q.name.toArray⟩) = x := ⟨_, rfl⟩
 have hN : ¬ N = b9 := by have := B3N.out; have := BL3.out; omega
 have B6 : Hid (Below N w w6) := by show Below _ _ _; rw [← g6]; exact below_put (below_put (below_put B.out hN9 0 _) hN9 1 _) hN9 2 _
 have T6 : Hid (CellsAt w6 N [.int .i64 f.shift, .int .i64 f.save, .string ⟨f.name.toArray⟩, .slice a ch.length cap]) := by show CellsAt _ _ _; rw [← g6]; exact ca_far (ca_far (ca_far TT.out hN) hN) hN
 have L6 : Hid (CellsAt w6 b3 [.int .i64 Q.shift, .int .i64 Q.save, .string ⟨Q.name.toArray⟩]) := by show CellsAt _ _ _; rw [← g6]; exact ca_far (ca_far (ca_far LL.out hb39) hb39) hb39
 have W6 : Hid (CellsAt w6 b9 [.int .i64 Q.shift, .int .i64 Q.save, .string ⟨Q.name.toArray⟩]) := by show CellsAt _ _ _; rw [← g6]; exact ca_put (ca_put (ca_put LW.out 0 _ (by simp)) 1 _ (by simp)) 2 _ (by simp)
 have R6 : Hid (RdCh w6 (.slice a ch.length cap) ch) := by
  show RdCh _ _ _
  rw [← g6]
  exact rd_sets (rdCh_of0.out) B.out hN9 _ _ _
 obtain ⟨u0, k0⟩ := ca_at LW.out 0 rfl
 obtain ⟨u1, k1⟩ := ca_at LW.out 1 rfl
 obtain ⟨u2, k2⟩ := ca_at LW.out 2 rfl
 have su := LW.out.1
 go_upto_region 9 with fail
 clear u0 k0 u1 k1 u2 k2 su g6
 clear B TT LL LW RC
 have B := B6
 have TT := T6
 have LL := L6
 have LW := W6
 have RC := R6
 clear B6 T6 L6 W6 R6
 obtain ⟨t0, _⟩ := ca_at TT.out 0 rfl
 obtain ⟨t1, _⟩ := ca_at TT.out 1 rfl
 obtain ⟨t2, _⟩ := ca_at TT.out 2 rfl
 obtain ⟨t3, _⟩ := ca_at TT.out 3 rfl
 have st := TT.out.1
 go_wp2_with fail
 refine (tableBegun_is m _ (ca_m B.out HM.out) (ca_p B.out HM.out)).mono ?_
 rintro e x1 ⟨rfl, hb⟩
 have hle := Nat.le_of_lt TT.out.1
 replace B := hid (below_on B.out hle hb)
 replace TT := hid (ca_below TT.out hb)
 replace RC := hid (rdCh_below RC.out hb)
 replace LL := hid (ca_below LL.out hb)
 replace LW := hid (ca_below LW.out hb)
 clear hle
 clear hb
 obtain ⟨t0, _⟩ := ca_at TT.out 0 rfl
 obtain ⟨t1, _⟩ := ca_at TT.out 1 rfl
 obtain ⟨t2, _⟩ := ca_at TT.out 2 rfl
 obtain ⟨t3, _⟩ := ca_at TT.out 3 rfl
 have st := TT.out.1
 have CK := pCheck_any ⟨f, ch⟩ (.slice a ch.length cap) x1 RC.out HS.out
 rw [HE.out] at CK
 have HC : Hid (Calls Tryz.prog 31 #[tbV f (.slice a ch.length cap)] x1 fun e w' => e = .returned (.int .i64 0) ∧ Below x1.heap.size x1 w') := CK
 clear CK
 go_wp2_with fail
 refine HC.out.mono ?_
 rintro e x2 ⟨rfl, hb⟩
 clear HC t0 t1 t2 t3 st
 have hle := Nat.le_of_lt TT.out.1
 replace B := hid (below_on B.out hle hb)
 replace TT := hid (ca_below TT.out hb)
 replace RC := hid (rdCh_below RC.out hb)
 replace LL := hid (ca_below LL.out hb)
 replace LW := hid (ca_below LW.out hb)
 clear hle
 clear hb
 obtain ⟨l0, _⟩ := ca_at LL.out 0 rfl
 obtain ⟨l1, _⟩ := ca_at LL.out 1 rfl
 obtain ⟨l2, _⟩ := ca_at LL.out 2 rfl
 have sl := LL.out.1
 obtain ⟨u0, _⟩ := ca_at LW.out 0 rfl
 obtain ⟨u1, _⟩ := ca_at LW.out 1 rfl
 obtain ⟨u2, _⟩ := ca_at LW.out 2 rfl
 have su := LW.out.1
 go_wp2
 go_ret
 exact ⟨rfl, B.out⟩
end Go.Proofs.YtkhlkohlccndgaaGreat
namespace Go.Proofs.YtkhlkohlccndgaaGreat
open Go.ChangeShapes Go.WideShapes Go.ChangeAt Go.RowKit Go.Joins

theorem own : ownKnob Tryz.prog.godebug = none := by kernel_rfl
theorem laidOut : laidOutB Tryz.prog = true := by kernel_rfl
theorem cellsT_int : Tryz.prog.cellsOf 3 = 1 := by kernel_rfl
theorem cellsT_str : Tryz.prog.cellsOf 9 = 1 := by kernel_rfl
theorem cellsT_lc : Tryz.prog.cellsOf 31 = 3 := by kernel_rfl
theorem cellsT_cg : Tryz.prog.cellsOf 86 = 4 := by kernel_rfl
theorem cellsT_chs : Tryz.prog.cellsOf 74 = 1 := by kernel_rfl
theorem cellsT_tb : Tryz.prog.cellsOf 76 = 4 := by kernel_rfl
theorem cellsT_dt : Tryz.prog.cellsOf 63 = 3 := by kernel_rfl

section
variable {H : Type} {enc : TypeId × Value → H} {w : World} {sp : Nat → Bool} {held : Bool} {fuel : Nat} {cs : List Value} {x : DataW H × List MemPlace}
theorem addT_none (b o i : Nat) : (⟨b, o, none⟩ : Addr).add i = ⟨b, o + i, none⟩ := by simp [Addr.add]
theorem blockT_of_cell {a : Addr} {v : Value} (h : w.cell? a = some v) : a.block < w.heap.size := by
 unfold World.cell? at h
 split at h
 ·rename_i hb; exact (Array.getElem?_eq_some_iff.1 hb).1
 ·cases h
theorem strT_of (s : ByteArray) : strV s.data.toList = .string s := by unfold strV; congr 1
theorem open_lc (h : DataW.trod enc Tryz.prog w 0 sp held fuel 31 cs = some x) : ∃ l : Tb.Lc, cs = [.int .i64 l.shift, .int .i64 l.save, strV l.name] ∧ l.name.length ≤ maxLen := by
 cases fuel with
 | zero => simp [DataW.trod] at h
 | succ n =>
   unfold DataW.trod at h
   rw [Tryz.underlying31] at h
   simp [cellsT_lc, cellsT_int, cellsT_str, List.mapM_cons, Option.bind_eq_some_iff] at h
   obtain ⟨hlen, a1, b1, h1, l, ⟨a2, b2, h2, l3, ⟨a3, b3, h3, _⟩, _⟩, _⟩ := h
   match cs, hlen with
   | [u, v, z], _ =>
     simp at h1 h2 h3
     obtain ⟨k1, e1, _⟩ := DataW.trod_int Tryz.underlying3 h1
     obtain ⟨k2, e2, _⟩ := DataW.trod_int Tryz.underlying3 h2
     obtain ⟨s3, e3, _, hs⟩ := DataW.trod_string Tryz.underlying9 h3
     simp at e1 e2 e3
     subst e1 e2 e3
     exact ⟨⟨k1, k2, s3.data.toList⟩, by rw [strT_of], by simpa using hs⟩
theorem open_cg (h : DataW.trod enc Tryz.prog w 0 sp held fuel 86 cs = some x) : ∃ c : Tb.Cg, cs = cgCells c ∧ c.lc.name.length ≤ maxLen := by
 cases fuel with
 | zero => simp [DataW.trod] at h
 | succ n =>
   unfold DataW.trod at h
   rw [Tryz.underlying86] at h
   simp [cellsT_cg, cellsT_int, cellsT_lc, List.mapM_cons, Option.bind_eq_some_iff] at h
   obtain ⟨hlen, a1, b1, h1, l, ⟨a2, b2, h2, _⟩, _⟩ := h
   match cs, hlen with
   | [u, v, z, y], _ =>
     simp at h1 h2
     obtain ⟨k1, e1, _⟩ := DataW.trod_int Tryz.underlying3 h1
     obtain ⟨lc, e2, hs⟩ := open_lc h2
     simp at e1 e2
     obtain ⟨rfl, rfl, rfl⟩ := e2
     subst e1
     exact ⟨⟨k1, lc⟩, rfl, hs⟩
theorem open_chs (h : DataW.trod enc Tryz.prog w 0 sp held fuel 74 cs = some x) : ∃ a n cap l, cs = [.slice a n cap] ∧ RdCh w (.slice a n cap) l ∧ n ≤ cap ∧ cap ≤ maxLen ∧ ∀ c ∈ l, c.lc.name.length ≤ maxLen := by
 rcases Deep.open_slice Tryz.underlying74 h with ⟨rfl, _⟩ | ⟨a, len, cap, m, n, D, Pl, rfl, _, hl, hm, hmm, _, hc⟩
 ·exact ⟨none, 0, 0, [], rfl, rd_nil, Nat.le_refl _, Nat.zero_le _, by simp⟩
 ·have hlm : len ≤ m := by rw [hmm]; split <;> omega
  rw [cellsT_cg] at hc
  have key : ∀ i, i < len → ∃ c : Tb.Cg, c.lc.name.length ≤ maxLen ∧ w.cells? 0 (a.add (i * 4)) 4 = some (cgCells c) := by
   intro i hi
   obtain ⟨cs', h1, h2⟩ := hc i (by omega)
   obtain ⟨c, rfl, hs⟩ := open_cg h2
   exact ⟨c, hs, h1⟩
  have : Inhabited Tb.Cg := ⟨⟨0, ⟨0, 0, []⟩⟩⟩
  obtain ⟨L, hL⟩ := Deep.choose_lt key
  refine ⟨some a, len, cap, (List.range len).map L, rfl, ⟨some a, cap, by simp, fun hn => ?_⟩, by omega, by omega, ?_⟩
  ·have h0 : 0 < len := by
    rcases Nat.eq_zero_or_pos len with q | q
    ·subst q; simp at hn
    ·exact q
   obtain ⟨b, off, spot⟩ := a
   obtain ⟨_, _, g0⟩ := World.cells?_some (hL 0 h0).2
   have c0 := g0 0 (by decide)
   have hs : spot = none := by simpa [Addr.add] using World.cell?_spot c0
   subst hs
   simp only [addT_none] at c0 hL
   refine ⟨b, off, rfl, blockT_of_cell c0, fun i c hi k u hu => ?_⟩
   have hi' : i < len := by
    have := (List.getElem?_eq_some_iff.1 hi).1
    simpa using this
   simp [hi'] at hi
   subst hi
   obtain ⟨_, _, gi⟩ := World.cells?_some (hL i hi').2
   have hk := (List.getElem?_eq_some_iff.1 hu).1
   have := gi k hk
   rw [addT_none] at this
   rw [this]
   exact hu
  ·intro c hc'
   simp at hc'
   obtain ⟨i, hi, rfl⟩ := hc'
   exact (hL i hi).1
/- .. as an argument -/
theorem open_table_arg {W : World} {base : Nat} {v : Value} {d : DataW H} {p : List MemPlace} (hv : Value.okWide Tryz.prog W .any base 76 v) (h : DataW.Trod enc Tryz.prog W 0 (fun _ => true) true 76 v d p) :
  (∃ (t : Tb.Tbl) (a : Option Addr) (n cap : Nat), v = tbV t.first (.slice a n cap) ∧ RdCh W (.slice a n cap) t.ch ∧ n ≤ cap ∧ cap ≤ maxLen ∧ Tb.Sized t) ∧ ∀ x ∈ p, x.block < W.heap.size := by
 obtain ⟨cs, rfl, hsz⟩ := okWide_struct Tryz.underlying76 hv
 obtain ⟨c0, c1, c2, c3, rfl⟩ := array4 (hsz.trans cellsT_tb)
 obtain ⟨fuel, hf⟩ := h
 refine ⟨?_, DataW.trod_lt fuel _ _ _ hf⟩
 cases fuel with
 | zero => simp [DataW.trod] at hf
 | succ n =>
   unfold DataW.trod at hf
   rw [Tryz.underlying76] at hf
   simp [Value.cells, cellsT_tb, cellsT_lc, cellsT_chs, List.mapM_cons, Option.bind_eq_some_iff] at hf
   obtain ⟨a1, b1, h1, l, ⟨a2, b2, h2, _⟩, _⟩ := hf
   obtain ⟨lc, e1, hs⟩ := open_lc h1
   obtain ⟨a, k, cap, l, e2, hr, hk, hm, hn⟩ := open_chs h2
   simp at e1 e2
   obtain ⟨rfl, rfl, rfl⟩ := e1
   subst e2
   have hlen : k = l.length := by
    obtain ⟨a', cap', e, _⟩ := hr
    simp only [Value.slice.injEq] at e
    exact e.2.1
   exact ⟨⟨lc, l⟩, a, k, cap, rfl, hr, hk, hm, ⟨by simp only; omega, hs, hn⟩⟩
theorem table_stays {W W' : World} {v : Value} {d : DataW H} {p : List MemPlace} (h : DataW.Trod enc Tryz.prog W 0 (fun _ => true) true 76 v d p) (bel : Below W.heap.size W W') (lt0 : ∀ x ∈ p, x.block < W.heap.size) : DataW.Trod enc Tryz.prog W' 0 (fun b => decide (b < W.heap.size)) true 76 v d p :=
 Below.trod laidOut (by kernel_rfl) (of_decide_eq_true (by kernel_rfl)) h bel lt0
end
end Go.Proofs.YtkhlkohlccndgaaGreat
namespace Go.Proofs.YtkhlkohlccndgaaGreat
open Go.ChangeShapes Go.WideShapes Go.ChangeAt Go.RowKit Go.Joins Go.ChangeMaps

theorem tableTells_lifted (os : Os) (started : os.Started) (H : Type) (enc : TypeId × Value → H) :
  ReturnsInHanded {} Tryz.checked os 9 .any (Rows.tableTellsSpec.pre6 enc Tryz.prog Tryz.f9 Rows.tableTellsRow.domain false) (Rows.tableTellsSpec.post enc Tryz.prog Tryz.f9 false true false false) := by
 refine returnsInHanded_of_change_shaped (C := Tryz.checked) own started (by kernel_rfl) Tryz.func9
  (ChangeSpec.witness6 (enc := enc) (C := Tryz.checked) false ⟨#[], #[.agg #[.int .i64 0, .int .i64 0, .string ⟨#[]⟩, .slice none 0 0], .int .i64 0], []⟩ 8 (by kernel_rfl) (by kernel_rfl) (by kernel_rfl) (by kernel_rfl)) ?_
 intro W base args ds gs before hval0 hW hcnd hsz hsh _
 have hval : ∀ (j : Nat) t v, Tryz.f9.params[j]? = some t → args[j]? = some v → Value.okWide Tryz.prog W .any base t v := hval0
 have hW' := hW
 obtain ⟨p, q, hA0, hV, rfl, hfz, hnd⟩ := hW
 have hA : DataW.TrodAll enc Tryz.prog W 0 (fun _ => true) true Tryz.f9.params.toList args.toList ds p := hA0
 rw [Tryz.params9] at hA hval
 obtain ⟨v0, v1, d0, d1, p0, p1, rfl, rfl, rfl, h0, h1⟩ := trodAll_two hA
 obtain ⟨rfl, rfl⟩ := trodVars_none hV
 obtain ⟨⟨t0, s0, n0, c0, rfl, r0, k0, m0, z0⟩, lt0⟩ := open_table_arg (hval 0 76 v0 rfl rfl) h0
 obtain ⟨a1, rfl, rfl, rfl, w1⟩ := open_int Tryz.underlying3 (hval 1 3 v1 rfl rfl) h1
 obtain ⟨m, hm⟩ := maxLen_is hsh
 clear hA0 hval0
 refine (tableTells_is t0 (.slice s0 n0 c0) a1 W r0 z0 m hm (heap_pos hm)).mono fun e W' ⟨he, bel⟩ => ?_
 subst he
 exact ⟨_, rfl, _, _, _, [], _, [], hW', trodAll_mk1 (shut_bool Tryz.underlying4 _), trodAll_mk2 (table_stays h0 bel lt0) (shut_int Tryz.underlying3 w1), rfl, bel.frame _, fun h => by cases h⟩

theorem tableTells_holds : Rows.TableTellsSaid :=
 OpenClaim.holds_of_wide 9 Tryz.f9 rfl rfl rfl rfl rfl rfl rfl ⟨rfl, rfl, rfl, rfl, rfl⟩ rfl rfl rfl rfl rfl (by kernel_rfl) Tryz.func9 (by kernel_rfl)
  (of_decide_eq_true (by kernel_rfl)) (by unfold Func.isWrapper; first | (rw [if_pos (by decide +kernel)]; kernel_rfl) | (rw [if_neg (by decide +kernel)]; exact ⟨rfl, rfl⟩))
  (fun os started H enc _ => tableTells_lifted os started H enc)
#print axioms tableTells_holds
end Go.Proofs.YtkhlkohlccndgaaGreat
