/- The walk of ZoneTells. · MaxLen's cell: some int, whatever it is: out of the world's shape. -/
import Derived.Test.YtkhlkohlccndgaaGreatQz
import Derived.Test.YtkhlkohlccndgaaGreatQam
import Derived.Test.YtkhlkohlccndgaaGreatQaa
import Derived.ProofKit
import Derived.OpenShut
import Derived.Lib.SmallJoins
import Derived.Carry
import Derived.HandedShaped
set_option linter.unusedVariables false
set_option linter.unusedSimpArgs false
set_option maxRecDepth 100000
set_option maxHeartbeats 16000000
namespace Go.Proofs.YtkhlkohlccndgaaGreat
open Go.RowKit Go.Shelf
attribute [local go_sem] Oper.semAt_some
attribute [local go_sem ↓] Go.wp_at_zero Go.wp_at_succ

theorem own_low {w : World} {B : Nat} {e : TypeId} {z : Nat} {v : Value} {n : Nat} {xs : List Value} (h : w.ownsRow B e z v n xs) {q o : Nat} {u : Value} (hq : q < B) : (w.setCell ⟨q, o, none⟩ u).ownsRow B e z v n xs := by
 obtain ⟨h1, h2⟩ := h
 refine ⟨h1, ?_⟩
 rcases h2 with h | ⟨g', cap', cur, hv, hg, hh, r1, r2, r3, r4⟩
 ·exact .inl h
 ·exact .inr ⟨g', cap', cur, hv, hg, (Below.heap_setCell _ _ _ _ (show ¬ g' = q by omega)).trans hh, r1, r2, r3, r4⟩
theorem zoneTells_is (s : Sx.Sr) (xs : List ZV) (ra za la : Option Addr) (rcap zcap lcap : Nat) (m : Int) (nm : Tx.Bs) (w : World) (h : SrcIn s xs ra za la rcap zcap lcap m w) :
  Calls Tryz.prog 5 #[.agg #[.slice ra s.rules.length rcap, .slice za xs.length zcap, .slice la s.links.length lcap], strV nm] w fun e w' => e = .returned (.bool true) ∧ Below w.heap.size w w' := by
 obtain ⟨N, hN⟩ : ∃ N, w.heap.size = N := ⟨_, rfl⟩
 obtain ⟨V, gV, X0, hb, sz⟩ := named_new w #[.slice ra s.rules.length rcap, .slice za xs.length zcap, .slice la s.links.length lcap] 26
 rw [hN] at X0
 have X : Hid (CellsAt V N [.slice ra s.rules.length rcap, .slice za xs.length zcap, .slice la s.links.length lcap]) := X0
 have B : Hid (Below N w V) := hN ▸ hb
 have G := hid (srcIn_below h hb)
 clear h X0 sz hb
 go_enter Tryz.func5, Tryz.ntmps5
 simp only [hN]
 obtain ⟨s0, _⟩ := ca_at X.out 0 rfl
 obtain ⟨s1, _⟩ := ca_at X.out 1 rfl
 obtain ⟨s2, _⟩ := ca_at X.out 2 rfl
 have ss := X.out.1
 obtain ⟨F, hF⟩ : ∃ F, zoneF s xs nm = F := ⟨_, rfl⟩
 obtain ⟨z, hz⟩ : ∃ z, zoneZ s xs nm = z := ⟨_, rfl⟩
 have HF := hid hF
 have HZ := hid hz
 have CF0 := zFind_any s xs ra za la rcap zcap lcap m nm V G.out V (Below.refl _ _)
 rw [hF, hz] at CF0
 have HC := hid CF0
 clear CF0
 go_wp2_with fail
 refine HC.out.mono ?_
 rintro e w1 ⟨v, rfl, hO, hb⟩
 clear HC gV s0 s1 s2 ss
 have hle := Nat.le_of_lt X.out.1
 replace B := hid (below_on B.out hle hb)
 replace X := hid (ca_below X.out hb)
 replace G := hid (srcIn_below G.out hb)
 clear hle
 clear hb
 have EO := hid (rdEras_own hO)
 obtain ⟨ea, ec, rfl⟩ := owns_shape0 hO
 clear hO
 obtain ⟨w2, g_w2, L0, hb2, sz⟩ := named_new w1 #[.string ⟨z.name.toArray⟩, .slice ea z.eras.length ec] 44
 obtain ⟨bZ, h_bZ⟩ : ∃ b, w1.heap.size = b := ⟨_, rfl⟩
 have Z : Hid (CellsAt w2 bZ [.string ⟨z.name.toArray⟩, .slice ea z.eras.length ec]) := h_bZ ▸ L0
 have hle := Nat.le_of_lt X.out.1
 replace B := hid (below_on B.out hle hb2)
 replace X := hid (ca_below X.out hb2)
 replace G := hid (srcIn_below G.out hb2)
 replace EO := hid (rd_below EO.out hb2)
 clear hle
 clear hb2 sz L0
 obtain ⟨s0, _⟩ := ca_at X.out 0 rfl
 obtain ⟨s1, _⟩ := ca_at X.out 1 rfl
 obtain ⟨s2, _⟩ := ca_at X.out 2 rfl
 have ss := X.out.1
 have CE0 := zEnds_any s xs ra za la rcap zcap lcap m nm w2 G.out
 rw [hF, hz] at CE0
 have HC := hid CE0
 clear CE0
 go_wp2_with fail
 refine HC.out.mono ?_
 rintro e w3 ⟨v2, rfl, hO, hb⟩
 clear HC g_w2 h_bZ s0 s1 s2 ss
 have hle := Nat.le_of_lt X.out.1
 replace B := hid (below_on B.out hle hb)
 replace X := hid (ca_below X.out hb)
 replace G := hid (srcIn_below G.out hb)
 replace EO := hid (rd_below EO.out hb)
 replace Z := hid (ca_below Z.out hb)
 clear hle
 clear hb
 have RE := hid (ownEnds_rd hO)
 obtain ⟨la2, lc2, rfl⟩ := owns_shape0 hO
 clear hO
 obtain ⟨L, hL⟩ : ∃ L, (if F = 0 then endsE z.eras else []) = L := ⟨_, rfl⟩
 rw [hL] at RE ⊢
 have HL := hid hL
 obtain ⟨s0, _⟩ := ca_at X.out 0 rfl
 obtain ⟨s1, _⟩ := ca_at X.out 1 rfl
 obtain ⟨s2, _⟩ := ca_at X.out 2 rfl
 have ss := X.out.1
 obtain ⟨E, hE⟩ : ∃ E, zoneErr s xs = E := ⟨_, rfl⟩
 have CK0 := checkZones_any s xs ra za la rcap zcap lcap m w3 G.out
 rw [hE] at CK0
 have HC := hid CK0
 have HE := hid hE
 clear CK0 hL hF hz hE
 go_wp2_with fail
 refine HC.out.mono ?_
 rintro e w4 ⟨rfl, hb⟩
 clear HC s0 s1 s2 ss
 have hle := Nat.le_of_lt X.out.1
 replace B := hid (below_on B.out hle hb)
 replace X := hid (ca_below X.out hb)
 replace G := hid (srcIn_below G.out hb)
 replace EO := hid (rd_below EO.out hb)
 replace Z := hid (ca_below Z.out hb)
 replace RE := hid (rd_below RE.out hb)
 clear hle
 clear hb
 by_cases e0 : E = 0
 case neg =>
  have hF0 : E = F := by rw [← HF.out]; unfold zoneF findE; rw [HE.out, if_pos e0]
  have hZ0 : z = ⟨[], []⟩ := by rw [← HZ.out]; unfold zoneZ findZ findE; rw [HE.out, if_pos e0, if_neg e0]
  have hL0 : L = [] := by rw [← HL.out, ← hF0, if_neg e0]
  have p1 : (E == 0) = false := by simp [e0]
  subst hF0
  subst hZ0
  subst hL0
  have Z0 : Hid (CellsAt w4 bZ [.string ⟨#[]⟩, .slice ea 0 ec]) := Z.out
  have EO0 : Hid (RdEras w4 (.slice ea 0 ec) []) := EO.out
  have RE0 : Hid (RdInts w4 (.slice la2 0 lc2) []) := RE.out
  clear Z EO RE HF HZ HL
  have EO := EO0
  have RE := RE0
  clear EO0 RE0
  obtain ⟨w5, g_w5, L0, hb2, sz⟩ := named_new w4 #[.string ⟨#[]⟩, .slice none 0 0] 44
  obtain ⟨bW, h_bW⟩ : ∃ b, w4.heap.size = b := ⟨_, rfl⟩
  have ZW : Hid (CellsAt w5 bW [.string ⟨#[]⟩, .slice none 0 0]) := h_bW ▸ L0
  have hle := Nat.le_of_lt X.out.1
  replace B := hid (below_on B.out hle hb2)
  replace X := hid (ca_below X.out hb2)
  replace G := hid (srcIn_below G.out hb2)
  replace EO := hid (rd_below EO.out hb2)
  replace Z0 := hid (ca_below Z0.out hb2)
  replace RE := hid (rd_below RE.out hb2)
  clear hle
  clear hb2 sz L0
  have EW : Hid (RdEras w5 (.slice none 0 0) []) := ⟨none, 0, rfl, fun h => absurd rfl h⟩
  have RW : Hid (RdInts w5 (.slice none 0 0) []) := ⟨none, 0, rfl, fun h => absurd rfl h⟩
  go_wp2_with fail
  refine (zoneBegun_is m w5 G.out.max G.out.pos).mono ?_
  rintro e n1 ⟨rfl, hb⟩
  have hle := Nat.le_of_lt X.out.1
  replace B := hid (below_on B.out hle hb)
  replace X := hid (ca_below X.out hb)
  replace G := hid (srcIn_below G.out hb)
  replace EO := hid (rd_below EO.out hb)
  replace Z0 := hid (ca_below Z0.out hb)
  replace RE := hid (rd_below RE.out hb)
  replace ZW := hid (ca_below ZW.out hb)
  replace EW := hid (rd_below EW.out hb)
  replace RW := hid (rd_below RW.out hb)
  clear hle
  clear hb
  obtain ⟨s0, _⟩ := ca_at X.out 0 rfl
  obtain ⟨s1, _⟩ := ca_at X.out 1 rfl
  obtain ⟨s2, _⟩ := ca_at X.out 2 rfl
  have ss := X.out.1
  have CK0 := zCheck_any s xs ra za la rcap zcap lcap m n1 G.out
  rw [HE.out] at CK0
  have HC := hid CK0
  clear CK0
  go_wp2_with fail
  refine HC.out.mono ?_
  rintro e n2 ⟨rfl, hb⟩
  clear HC s0 s1 s2 ss
  have hle := Nat.le_of_lt X.out.1
  replace B := hid (below_on B.out hle hb)
  replace X := hid (ca_below X.out hb)
  replace G := hid (srcIn_below G.out hb)
  replace EO := hid (rd_below EO.out hb)
  replace Z0 := hid (ca_below Z0.out hb)
  replace RE := hid (rd_below RE.out hb)
  replace ZW := hid (ca_below ZW.out hb)
  replace EW := hid (rd_below EW.out hb)
  replace RW := hid (rd_below RW.out hb)
  clear hle
  clear hb
  obtain ⟨z0, _⟩ := ca_at Z0.out 0 rfl
  obtain ⟨z1, _⟩ := ca_at Z0.out 1 rfl
  have sz := Z0.out.1
  obtain ⟨q0, _⟩ := ca_at ZW.out 0 rfl
  obtain ⟨q1, _⟩ := ca_at ZW.out 1 rfl
  have sq := ZW.out.1
  have HC : Hid (Calls Tryz.prog 21 #[.agg #[.string ⟨#[]⟩, .slice ea 0 ec], .agg #[.string ⟨#[]⟩, .slice none 0 0]] n2 fun e w' => e = .returned (.bool true) ∧ Below n2.heap.size n2 w') := sameZone_yes [] [] ea none ec 0 n2 EO.out EW.out (by simp)
  go_wp2_with fail
  refine HC.out.mono ?_
  rintro e n3 ⟨rfl, hb⟩
  clear HC z0 z1 sz q0 q1 sq
  have hle := Nat.le_of_lt X.out.1
  replace B := hid (below_on B.out hle hb)
  replace X := hid (ca_below X.out hb)
  replace G := hid (srcIn_below G.out hb)
  replace EO := hid (rd_below EO.out hb)
  replace Z0 := hid (ca_below Z0.out hb)
  replace RE := hid (rd_below RE.out hb)
  replace ZW := hid (ca_below ZW.out hb)
  replace EW := hid (rd_below EW.out hb)
  replace RW := hid (rd_below RW.out hb)
  clear hle
  clear hb
  have HC : Hid (Calls Tryz.prog 22 #[.slice la2 0 lc2, .slice none 0 0] n3 fun e w' => e = .returned (.bool true) ∧ Below n3.heap.size n3 w') := sameInts_yes _ _ [] n3 RE.out RW.out (by simp)
  go_wp2_with fail
  refine HC.out.mono ?_
  rintro e n4 ⟨rfl, hb⟩
  clear HC
  have hle := Nat.le_of_lt X.out.1
  replace B := hid (below_on B.out hle hb)
  replace X := hid (ca_below X.out hb)
  replace G := hid (srcIn_below G.out hb)
  replace EO := hid (rd_below EO.out hb)
  replace Z0 := hid (ca_below Z0.out hb)
  replace RE := hid (rd_below RE.out hb)
  replace ZW := hid (ca_below ZW.out hb)
  replace EW := hid (rd_below EW.out hb)
  replace RW := hid (rd_below RW.out hb)
  clear hle
  clear hb
  go_wp2
  go_ret
  exact ⟨rfl, B.out⟩
 subst e0
 obtain ⟨f2, f3, f4⟩ : xs.length ≤ 20 ∧ s.links.length ≤ 20 ∧ Sx.SrcOk s := by
  have ok := Sx.src_okZ (errs_zero HE.out 0 (by omega))
  obtain ⟨f1, f2, f3, f4⟩ := many_few ok.many
  have hl := rdZv_len G.out.zv
  exact ⟨by omega, by omega, ok⟩
 have OKS := hid f4
 obtain ⟨n', hn'⟩ : ∃ n', nameTo s.links nm = n' := ⟨_, rfl⟩
 have HN' := hid hn'
 have CL0 := lookOf_any nm s.zones s.links xs ra za la s.rules.length rcap zcap lcap w4 G.out.zv G.out.links (by omega) (by omega)
 rw [hn'] at CL0
 obtain ⟨H, hH⟩ : ∃ H, zvHas xs n' = H := ⟨_, rfl⟩
 have HH := hid hH
 clear hn' hH f4
 obtain ⟨s0, _⟩ := ca_at X.out 0 rfl
 obtain ⟨s1, _⟩ := ca_at X.out 1 rfl
 obtain ⟨s2, _⟩ := ca_at X.out 2 rfl
 have ss := X.out.1
 cases H
 case false =>
  have hF0 : 5 = F := by rw [← HF.out]; unfold zoneF findE; rw [HE.out, HN'.out, HH.out]; rfl
  have hZ0 : z = ⟨[], []⟩ := by rw [← HZ.out]; unfold zoneZ findZ findE; rw [HE.out, HN'.out, HH.out]; rfl
  have hL0 : L = [] := by rw [← HL.out, ← hF0]; rfl
  rw [zPlace_none xs 0 HH.out] at CL0
  have HC := hid CL0
  clear CL0
  go_wp2_with fail
  refine HC.out.mono ?_
  rintro e w5 ⟨rfl, hb⟩
  clear HC s0 s1 s2 ss
  have hle := Nat.le_of_lt X.out.1
  replace B := hid (below_on B.out hle hb)
  replace X := hid (ca_below X.out hb)
  replace G := hid (srcIn_below G.out hb)
  replace EO := hid (rd_below EO.out hb)
  replace Z := hid (ca_below Z.out hb)
  replace RE := hid (rd_below RE.out hb)
  clear hle
  clear hb
  subst hF0
  subst hZ0
  subst hL0
  have Z0 : Hid (CellsAt w5 bZ [.string ⟨#[]⟩, .slice ea 0 ec]) := Z.out
  have EO0 : Hid (RdEras w5 (.slice ea 0 ec) []) := EO.out
  have RE0 : Hid (RdInts w5 (.slice la2 0 lc2) []) := RE.out
  clear Z EO RE HF HZ HL
  have EO := EO0
  have RE := RE0
  clear EO0 RE0
  obtain ⟨w6, g_w6, L0, hb2, sz⟩ := named_new w5 #[.string ⟨#[]⟩, .slice none 0 0] 44
  obtain ⟨bW, h_bW⟩ : ∃ b, w5.heap.size = b := ⟨_, rfl⟩
  have ZW : Hid (CellsAt w6 bW [.string ⟨#[]⟩, .slice none 0 0]) := h_bW ▸ L0
  have hle := Nat.le_of_lt X.out.1
  replace B := hid (below_on B.out hle hb2)
  replace X := hid (ca_below X.out hb2)
  replace G := hid (srcIn_below G.out hb2)
  replace EO := hid (rd_below EO.out hb2)
  replace Z0 := hid (ca_below Z0.out hb2)
  replace RE := hid (rd_below RE.out hb2)
  clear hle
  clear hb2 sz L0
  have EW : Hid (RdEras w6 (.slice none 0 0) []) := ⟨none, 0, rfl, fun h => absurd rfl h⟩
  have RW : Hid (RdInts w6 (.slice none 0 0) []) := ⟨none, 0, rfl, fun h => absurd rfl h⟩
  go_wp2_with fail
  refine (zoneBegun_is m w6 G.out.max G.out.pos).mono ?_
  rintro e n1 ⟨rfl, hb⟩
  have hle := Nat.le_of_lt X.out.1
  replace B := hid (below_on B.out hle hb)
  replace X := hid (ca_below X.out hb)
  replace G := hid (srcIn_below G.out hb)
  replace EO := hid (rd_below EO.out hb)
  replace Z0 := hid (ca_below Z0.out hb)
  replace RE := hid (rd_below RE.out hb)
  replace ZW := hid (ca_below ZW.out hb)
  replace EW := hid (rd_below EW.out hb)
  replace RW := hid (rd_below RW.out hb)
  clear hle
  clear hb
  obtain ⟨s0, _⟩ := ca_at X.out 0 rfl
  obtain ⟨s1, _⟩ := ca_at X.out 1 rfl
  obtain ⟨s2, _⟩ := ca_at X.out 2 rfl
  have ss := X.out.1
  have CK0 := zCheck_any s xs ra za la rcap zcap lcap m n1 G.out
  rw [HE.out] at CK0
  have HC := hid CK0
  clear CK0
  go_wp2_with fail
  refine HC.out.mono ?_
  rintro e n2 ⟨rfl, hb⟩
  clear HC s0 s1 s2 ss
  have hle := Nat.le_of_lt X.out.1
  replace B := hid (below_on B.out hle hb)
  replace X := hid (ca_below X.out hb)
  replace G := hid (srcIn_below G.out hb)
  replace EO := hid (rd_below EO.out hb)
  replace Z0 := hid (ca_below Z0.out hb)
  replace RE := hid (rd_below RE.out hb)
  replace ZW := hid (ca_below ZW.out hb)
  replace EW := hid (rd_below EW.out hb)
  replace RW := hid (rd_below RW.out hb)
  clear hle
  clear hb
  obtain ⟨z0, _⟩ := ca_at Z0.out 0 rfl
  obtain ⟨z1, _⟩ := ca_at Z0.out 1 rfl
  have sz := Z0.out.1
  obtain ⟨q0, _⟩ := ca_at ZW.out 0 rfl
  obtain ⟨q1, _⟩ := ca_at ZW.out 1 rfl
  have sq := ZW.out.1
  have HC : Hid (Calls Tryz.prog 21 #[.agg #[.string ⟨#[]⟩, .slice ea 0 ec], .agg #[.string ⟨#[]⟩, .slice none 0 0]] n2 fun e w' => e = .returned (.bool true) ∧ Below n2.heap.size n2 w') := sameZone_yes [] [] ea none ec 0 n2 EO.out EW.out (by simp)
  go_wp2_with fail
  refine HC.out.mono ?_
  rintro e n3 ⟨rfl, hb⟩
  clear HC z0 z1 sz q0 q1 sq
  have hle := Nat.le_of_lt X.out.1
  replace B := hid (below_on B.out hle hb)
  replace X := hid (ca_below X.out hb)
  replace G := hid (srcIn_below G.out hb)
  replace EO := hid (rd_below EO.out hb)
  replace Z0 := hid (ca_below Z0.out hb)
  replace RE := hid (rd_below RE.out hb)
  replace ZW := hid (ca_below ZW.out hb)
  replace EW := hid (rd_below EW.out hb)
  replace RW := hid (rd_below RW.out hb)
  clear hle
  clear hb
  have HC : Hid (Calls Tryz.prog 22 #[.slice la2 0 lc2, .slice none 0 0] n3 fun e w' => e = .returned (.bool true) ∧ Below n3.heap.size n3 w') := sameInts_yes _ _ [] n3 RE.out RW.out (by simp)
  go_wp2_with fail
  refine HC.out.mono ?_
  rintro e n4 ⟨rfl, hb⟩
  clear HC
  have hle := Nat.le_of_lt X.out.1
  replace B := hid (below_on B.out hle hb)
  replace X := hid (ca_below X.out hb)
  replace G := hid (srcIn_below G.out hb)
  replace EO := hid (rd_below EO.out hb)
  replace Z0 := hid (ca_below Z0.out hb)
  replace RE := hid (rd_below RE.out hb)
  replace ZW := hid (ca_below ZW.out hb)
  replace EW := hid (rd_below EW.out hb)
  replace RW := hid (rd_below RW.out hb)
  clear hle
  clear hb
  go_wp2
  go_ret
  exact ⟨rfl, B.out⟩
 have hF0 : 0 = F := by rw [← HF.out]; unfold zoneF findE; rw [HE.out, HN'.out, HH.out]; rfl
 subst hF0
 obtain ⟨j, hj1, hj2⟩ := zPlace_has xs 0 HH.out
 rw [hj1, Nat.zero_add] at CL0
 obtain ⟨p, hp⟩ : ∃ p, zvAt xs n' = p := ⟨_, rfl⟩
 have hZ0 : z = p.z := by rw [← hp, ← HZ.out, ← HN'.out]; exact zoneZ_is HF.out
 subst hZ0
 rw [hp] at hj2
 have hL0 : endsE p.z.eras = L := by rw [← HL.out]; rfl
 obtain ⟨_, zin, h8, h4⟩ := zoneZ_ok G.out.zv HF.out
 rw [HZ.out] at zin h8 h4
 have hpin : p ∈ xs := List.mem_of_getElem? hj2
 have hjl : j < xs.length := (List.getElem?_eq_some_iff.1 hj2).1
 have LO := hid (lastO_zone (OKS.out.zone p.z zin))
 have TILL := hid (show ∀ e ∈ p.z.eras, e.opn = true ∨ EndOk e from fun e he => (h4 e he).till)
 have HL2 := hid hL0
 have HJ2 := hid hj2
 have HPIN := hid hpin
 have h9 : p.z.eras.length ≤ 8 := h8
 have HC := hid CL0
 have hj3 : (j : Int) < (xs.length : Int) := by omega
 clear CL0 hp zin h4 hL0 hj2 hj1 hpin h8 HF HZ HL
 go_wp2_with fail
 refine HC.out.mono ?_
 rintro e w5 ⟨rfl, hb⟩
 clear HC s0 s1 s2 ss
 have hle := Nat.le_of_lt X.out.1
 replace B := hid (below_on B.out hle hb)
 replace X := hid (ca_below X.out hb)
 replace G := hid (srcIn_below G.out hb)
 replace EO := hid (rd_below EO.out hb)
 replace Z := hid (ca_below Z.out hb)
 replace RE := hid (rd_below RE.out hb)
 clear hle
 clear hb
 obtain ⟨w6, g_w6, L0, hb2, sz⟩ := named_new w5 #[.string ⟨#[]⟩, .slice none 0 0] 44
 obtain ⟨bW, h_bW⟩ : ∃ b, w5.heap.size = b := ⟨_, rfl⟩
 have ZW : Hid (CellsAt w6 bW [.string ⟨#[]⟩, .slice none 0 0]) := h_bW ▸ L0
 have BWD : Below w5.heap.size w5 w6.drew := hb2.trans ((show Below w6.heap.size w6 w6.drew from ⟨rfl, rfl, rfl, Nat.le_refl _, fun _ _ => rfl⟩).mono hb2.size)
 have HBW := hid BWD
 have hNb : w5.heap.size ≤ bW := by omega
 have hNw : bW < w6.drew.heap.size := by show bW < w6.heap.size; omega
 have HNB := hid hNb
 have HNW := hid hNw
 obtain ⟨zb, zo, e1, hzb, hc⟩ := rd_elem G.out.zv.rd HJ2.out
 subst e1
 have a0 : w5.cell? ⟨zb, zo + j * 2, none⟩ = some (strV p.z.name) := by have := hc 0 _ rfl; simpa using this
 have a1 : w5.cell? ⟨zb, zo + j * 2 + 1, none⟩ = some (.slice p.a p.z.eras.length p.c) := hc 1 _ rfl
 obtain ⟨s1, _⟩ := ca_at X.out 1 rfl
 have sx := X.out.1
 have KS : Hid (∀ wz, Below w5.heap.size w5 wz → (wz.cell? ⟨N, 1, none⟩ = some (.slice (some ⟨zb, zo, none⟩) xs.length zcap) ∧ wz.cell? ⟨zb, zo + j * 2, none⟩ = some (strV p.z.name) ∧ wz.cell? ⟨zb, zo + j * 2 + 1, none⟩ = some (.slice p.a p.z.eras.length p.c))) := fun wz hb => ⟨(hb.cell (p := ⟨N, 1, none⟩) sx).trans s1, (hb.cell (p := ⟨zb, zo + j * 2, none⟩) hzb).trans a0, (hb.cell (p := ⟨zb, zo + j * 2 + 1, none⟩) hzb).trans a1⟩
 have SS := hid (KS.out _ hb2)
 have CE : Hid (∀ W, Below w5.heap.size w5 W → Calls Tryz.prog 20 #[.agg #[strV p.z.name, .slice p.a p.z.eras.length p.c]] W fun e w' => ∃ v, e = .returned v ∧ OwnEnds w' W.heap.size v L ∧ Below W.heap.size W w') := fun W hW => by
  have := rEndsOf_any p.z.name p.z.eras p.a p.c W (rd_below (G.out.zv.eras p HPIN.out) hW) LO.out (by omega) TILL.out
  rw [HL2.out] at this
  exact this
 clear s1 sx a0 a1 hc hzb L0 sz hb2 BWD hNb hNw
 go_upto_region 13 with fail
 clear g_w6 h_bW
 have BWD := HBW.out
 have hNb := HNB.out
 have hNw := HNW.out
 refine wp_region_held_drew (S := fun w' => w'.cell? ⟨N, 1, none⟩ = some (.slice (some ⟨zb, zo, none⟩) xs.length zcap) ∧ w'.cell? ⟨zb, zo + j * 2, none⟩ = some (strV p.z.name) ∧ w'.cell? ⟨zb, zo + j * 2 + 1, none⟩ = some (.slice p.a p.z.eras.length p.c)) (by kernel_rfl) SS.out (fun hHeld => ?_)
 refine tkA 0 rfl ?_
 try simp only [Act.put, j]
 refine tkA 1 rfl ?_
 try simp only [Act.put, j]
 refine tkA 2 rfl ?_
 try simp only [Act.put, j]
 refine tkA 3 rfl ?_
 try simp only [Act.put, j]
 refine tkA 4 rfl ?_
 try simp only [Act.put, j]
 refine tkA 5 rfl ?_
 try simp only [Act.put, j]
 refine tkA 6 rfl ?_
 try simp only [Act.put, j]
 refine tkA 7 rfl ?_
 try simp only [Act.put, j]
 refine tkA 8 rfl ?_
 try simp only [Act.put, j]
 refine tkA 9 rfl ?_
 try simp only [Act.put, j]
 refine rdH 10 rfl fun K hK => ?_
 go_simp
 refine (CE.out w6.drew BWD).mono ?_
 rintro e w10 ⟨ev, rfl, hO, hb10⟩
 have hb := BWD.trans (hb10.mono BWD.size)
 have S7 := KS.out w10 hb
 obtain ⟨va, vc, rfl⟩ := owns_shape0 hO
 have T7 : CellsAt w10 bW [.string ⟨#[]⟩, .slice none 0 0] := ca_below (ca_drew ZW.out) hb10
 obtain ⟨q0, k0⟩ := ca_at T7 0 rfl
 obtain ⟨q1, k1⟩ := ca_at T7 1 rfl
 have sT := T7.1
 have B9 := below_put (below_put hb hNb 0 (strV p.z.name)) hNb 1 (.slice p.a p.z.eras.length p.c)
 have S9 := KS.out _ B9
 have T9 := ca_put (ca_put T7 0 (strV p.z.name) (by simp)) 1 (.slice p.a p.z.eras.length p.c) (by simp)
 simp only [List.set_cons_zero, List.set_cons_succ] at T9
 have O9 := own_low (own_low hO hNw (o := 0) (u := strV p.z.name)) hNw (o := 1) (u := .slice p.a p.z.eras.length p.c)
 refine hK.out _ _ ?_ (fun hHeld => ?_)
 ·exact S7
 clear hK K
 try simp only [Act.put, j]
 refine rdH 11 rfl fun K hK => ?_
 go_simp
 refine hK.out _ _ ?_ (fun hHeld => ?_)
 ·exact S9
 clear hK K
 try simp only [Act.put, j]
 refine tkA 12 rfl ?_
 try simp only [Act.put, j]
 refine wpAnyH_done (by kernel_rfl) ?_ _
 obtain ⟨wS, hwS⟩ : ∃ y, ((w10.setCell ⟨bW, 0, none⟩ (strV p.z.name)).setCell ⟨bW, 1, none⟩ (.slice p.a p.z.eras.length p.c)) = y := ⟨_, rfl⟩
 rw [hwS] at B9 T9 O9 ⊢
 have RW := hid (ownEnds_rd O9)
 have ZW := hid T9
 have EW := hid (rd_below (G.out.zv.eras p HPIN.out) B9)
 have HB9 := hid B9
 clear S7 S9 hHeld hO O9 T7 q0 q1 k0 k1 sT T9 B9 hwS hb hb10 KS SS CE BWD hNb hNw HBW HNB HNW
 have hle := Nat.le_of_lt X.out.1
 replace B := hid (below_on B.out hle HB9.out)
 replace X := hid (ca_below X.out HB9.out)
 replace G := hid (srcIn_below G.out HB9.out)
 replace EO := hid (rd_below EO.out HB9.out)
 replace Z := hid (ca_below Z.out HB9.out)
 replace RE := hid (rd_below RE.out HB9.out)
 clear hle
 go_wp2_with fail
 refine (zoneBegun_is m wS G.out.max G.out.pos).mono ?_
 rintro e n1 ⟨rfl, hb⟩
 have hle := Nat.le_of_lt X.out.1
 replace B := hid (below_on B.out hle hb)
 replace X := hid (ca_below X.out hb)
 replace G := hid (srcIn_below G.out hb)
 replace EO := hid (rd_below EO.out hb)
 replace Z := hid (ca_below Z.out hb)
 replace RE := hid (rd_below RE.out hb)
 replace ZW := hid (ca_below ZW.out hb)
 replace EW := hid (rd_below EW.out hb)
 replace RW := hid (rd_below RW.out hb)
 clear hle
 clear hb
 obtain ⟨s0, _⟩ := ca_at X.out 0 rfl
 obtain ⟨s1, _⟩ := ca_at X.out 1 rfl
 obtain ⟨s2, _⟩ := ca_at X.out 2 rfl
 have ss := X.out.1
 have CK0 := zCheck_any s xs ra (some ⟨zb, zo, none⟩) la rcap zcap lcap m n1 G.out
 rw [HE.out] at CK0
 have HC := hid CK0
 clear CK0
 go_wp2_with fail
 refine HC.out.mono ?_
 rintro e n2 ⟨rfl, hb⟩
 clear HC s0 s1 s2 ss
 have hle := Nat.le_of_lt X.out.1
 replace B := hid (below_on B.out hle hb)
 replace X := hid (ca_below X.out hb)
 replace G := hid (srcIn_below G.out hb)
 replace EO := hid (rd_below EO.out hb)
 replace Z := hid (ca_below Z.out hb)
 replace RE := hid (rd_below RE.out hb)
 replace ZW := hid (ca_below ZW.out hb)
 replace EW := hid (rd_below EW.out hb)
 replace RW := hid (rd_below RW.out hb)
 clear hle
 clear hb
 obtain ⟨z0, _⟩ := ca_at Z.out 0 rfl
 obtain ⟨z1, _⟩ := ca_at Z.out 1 rfl
 have sz := Z.out.1
 obtain ⟨q0, _⟩ := ca_at ZW.out 0 rfl
 obtain ⟨q1, _⟩ := ca_at ZW.out 1 rfl
 have sq := ZW.out.1
 have HC : Hid (Calls Tryz.prog 21 #[.agg #[.string ⟨p.z.name.toArray⟩, .slice ea p.z.eras.length ec], .agg #[.string ⟨p.z.name.toArray⟩, .slice p.a p.z.eras.length p.c]] n2 fun e w' => e = .returned (.bool true) ∧ Below n2.heap.size n2 w') := sameZone_yes p.z.name p.z.eras ea p.a ec p.c n2 EO.out EW.out (by omega)
 go_wp2_with fail
 refine HC.out.mono ?_
 rintro e n3 ⟨rfl, hb⟩
 clear HC z0 z1 sz q0 q1 sq
 have hle := Nat.le_of_lt X.out.1
 replace B := hid (below_on B.out hle hb)
 replace X := hid (ca_below X.out hb)
 replace G := hid (srcIn_below G.out hb)
 replace EO := hid (rd_below EO.out hb)
 replace Z := hid (ca_below Z.out hb)
 replace RE := hid (rd_below RE.out hb)
 replace ZW := hid (ca_below ZW.out hb)
 replace EW := hid (rd_below EW.out hb)
 replace RW := hid (rd_below RW.out hb)
 clear hle
 clear hb
 have HC : Hid (Calls Tryz.prog 22 #[.slice la2 L.length lc2, .slice va L.length vc] n3 fun e w' => e = .returned (.bool true) ∧ Below n3.heap.size n3 w') := sameInts_yes _ _ L n3 RE.out RW.out (by rw [← HL2.out]; have := ends_len LO.out; omega)
 go_wp2_with fail
 refine HC.out.mono ?_
 rintro e n4 ⟨rfl, hb⟩
 clear HC
 have hle := Nat.le_of_lt X.out.1
 replace B := hid (below_on B.out hle hb)
 replace X := hid (ca_below X.out hb)
 replace G := hid (srcIn_below G.out hb)
 replace EO := hid (rd_below EO.out hb)
 replace Z := hid (ca_below Z.out hb)
 replace RE := hid (rd_below RE.out hb)
 replace ZW := hid (ca_below ZW.out hb)
 replace EW := hid (rd_below EW.out hb)
 replace RW := hid (rd_below RW.out hb)
 clear hle
 clear hb
 go_wp2
 go_ret
 exact ⟨rfl, B.out⟩
theorem zoneTells_row (s : Sx.Sr) (xs : List ZV) (ra za la : Option Addr) (rcap zcap lcap : Nat) (a1 : ByteArray) (w : World) (g : SrcArg s xs ra za la rcap zcap lcap w) (m : Int) (hm : w.cell? ⟨0, 0, none⟩ = some (.int .i64 m)) (h0 : 0 < w.heap.size) :
  Calls Tryz.prog 5 #[.agg #[.slice ra s.rules.length rcap, .slice za xs.length zcap, .slice la s.links.length lcap], .string a1] w fun e w' => e = .returned (.bool true) ∧ Below w.heap.size w w' := by
 have q := zoneTells_is s xs ra za la rcap zcap lcap m a1.data.toList w (srcIn_arg g hm h0)
 rw [strT_of] at q
 exact q
end Go.Proofs.YtkhlkohlccndgaaGreat
namespace Go.Proofs.YtkhlkohlccndgaaGreat
open Go.ChangeShapes Go.WideShapes Go.ChangeAt Go.RowKit

theorem int_of_shape {P : Program} {w : World} {g : Nat} {t : TypeId} {zero : Array Value} (h : w.ShapedOpen P) (hg : g < P.globals.size)
  (h0 : ((begin P (fun _ _ => 0) default).world.heap[g]?).bind Obj.row? = some (zero, t)) (hz : zero.size = 1)
  (hb : P.buildable t = true) (hc : P.cellTypes P.depth t = some [t]) (hu : P.underlying t = some (.int .i64)) : ∃ m, w.cell? ⟨g, 0, none⟩ = some (.int .i64 m) := by
 obtain ⟨cs, hh, hs, hr⟩ := h.1 g zero t hg h0
 obtain ⟨ts, hts, _, hall⟩ := hr hb
 rw [hc] at hts
 cases hts
 have h1 : 0 < cs.size := by omega
 obtain ⟨u, hu', hok⟩ := hall 0 cs[0] (by simp [h1])
 have : u = t := by simpa using hu'.symm
 subst this
 have hcell : w.cell? ⟨g, 0, none⟩ = some cs[0] := by simp [World.cell?, hh, h1]
 rw [hcell]
 unfold Cell.ok at hok
 rw [hu] at hok
 cases hv : cs[0] <;> rw [hv] at hok <;> simp at hok ⊢
 rename_i k n
 cases k <;> simp_all
theorem globalsSome : decide (0 < Tryz.prog.globals.size) = true := by kernel_rfl
theorem maxLen_is {w : World} (h : w.ShapedOpen Tryz.prog) : ∃ m, w.cell? ⟨0, 0, none⟩ = some (.int .i64 m) :=
 int_of_shape (t := 3) (zero := #[.int .i64 0]) h (of_decide_eq_true globalsSome) (by kernel_rfl) rfl (by kernel_rfl) (by kernel_rfl) Tryz.underlying3
theorem heap_pos {w : World} {m : Int} (h : w.cell? ⟨0, 0, none⟩ = some (.int .i64 m)) : 0 < w.heap.size := by
 unfold World.cell? at h
 split at h
 ·rename_i hb; exact (Array.getElem?_eq_some_iff.1 hb).1
 ·cases h
end Go.Proofs.YtkhlkohlccndgaaGreat
