/- Proved: what another zone is, and other rules, changes nothing here (the law ZoneOther), for every two sources, name and time; no condition. -/
import Derived.Test.YtkhlkohlccndgaaGreatQz
import Derived.Test.YtkhlkohlccndgaaGreatQaj
import Derived.Test.YtkhlkohlccndgaaGreatQao
import Derived.Deep.Slices
import Derived.SizedLaws
import Derived.Test.YtkhlkohlccndgaaGreatQaa
import Derived.ProofKit
import Derived.OpenShut
import Derived.Lib.SmallJoins
import Derived.Carry
import Derived.HandedShaped
set_option linter.unusedVariables false
set_option linter.unusedSimpArgs false
set_option maxRecDepth 100000
set_option maxHeartbeats 16000000
namespace Go.Proofs.YtkhlkohlccndgaaGreat
section
open Go.RowKit Go.Shelf
attribute [local go_sem] Oper.semAt_some
attribute [local go_sem ↓] Go.wp_at_zero Go.wp_at_succ
theorem Ac (s t : Sx.Sr) (xs yt : List ZV) (ra za la rb zb lb : Option Addr) (rcap zcap lcap rdap zdap ldap : Nat) (m at_ : Int) (nm : Tx.Bs) (w : World) (h : kF s xs ra za la rcap zcap lcap m w) (h2 : kF t yt rb zb lb rdap zdap ldap m w)
  (ht : t.rules.length * 104 ≤ 140737488351232 ∧ yt.length * 40 ≤ 140737488351232 ∧ t.links.length * 32 ≤ 140737488351232) :
  Calls Tryz.prog 4 #[.agg #[.slice ra s.rules.length rcap, .slice za xs.length zcap, .slice la s.links.length lcap], .agg #[.slice rb t.rules.length rdap, .slice zb yt.length zdap, .slice lb t.links.length ldap], ag nm, .int .i64 at_] w fun e w' => e = .returned (.bool true) ∧ Below w.heap.size w w' := by
 obtain ⟨ht1, ht2, ht3⟩ := ht
 obtain ⟨N, hN⟩ : ∃ N, w.heap.size = N := ⟨_, rfl⟩
 obtain ⟨V0, g0, X0, hb0, sz0⟩ := oh w #[.slice ra s.rules.length rcap, .slice za xs.length zcap, .slice la s.links.length lcap] 26
 obtain ⟨V, g1, Y0, hb1, sz1⟩ := oh V0 #[.slice rb t.rules.length rdap, .slice zb yt.length zdap, .slice lb t.links.length ldap] 26
 have e0 : V0.heap.size = N + 1 := by omega
 rw [hN] at X0
 rw [e0] at Y0
 have bb := hb0.trans (hb1.mono (by omega))
 have X : Hid (ak V N [.slice ra s.rules.length rcap, .slice za xs.length zcap, .slice la s.links.length lcap]) := ai X0 hb1
 have Y : Hid (ak V (N + 1) [.slice rb t.rules.length rdap, .slice zb yt.length zdap, .slice lb t.links.length ldap]) := Y0
 have B : Hid (Below N w V) := hN ▸ bb
 have G := hid (bD h bb)
 have G2 := hid (bD h2 bb)
 have gV : (w.alloc (.cells #[.slice ra s.rules.length rcap, .slice za xs.length zcap, .slice la s.links.length lcap] 26)).alloc (.cells #[.slice rb t.rules.length rdap, .slice zb yt.length zdap, .slice lb t.links.length ldap] 26) = V := by rw [g0]; exact g1
 clear h h2 X0 Y0 hb0 hb1 sz0 sz1 g0 g1 e0 bb
 go_enter Tryz.func4, Tryz.ntmps4
 simp only [hN]
 go_wp2_with fail
 refine (Ab m V G.out.max G.out.pos).mono ?_
 rintro e w1 ⟨rfl, hb⟩
 clear gV
 have hle := Nat.le_of_lt X.out.1
 replace B := hid (jh B.out hle hb)
 replace X := hid (ai X.out hb)
 replace Y := hid (ai Y.out hb)
 replace G := hid (bD G.out hb)
 replace G2 := hid (bD G2.out hb)
 clear hle
 clear hb
 obtain ⟨⟨s0, _⟩, ⟨s1, _⟩, ⟨s2, _⟩, ss⟩ := cp3 X.out
 obtain ⟨F, hF⟩ : ∃ F, iG s xs nm = F := ⟨_, rfl⟩
 obtain ⟨z, hz⟩ : ∃ z, eU s xs nm = z := ⟨_, rfl⟩
 have HF := hid hF
 have HZ := hid hz
 have CA0 := qX s xs ra za la rcap zcap lcap m at_ nm w1 G.out
 rw [hF, hz] at CA0
 obtain ⟨A, hA⟩ : ∃ A, atL F at_ s.rules z = A := ⟨_, rfl⟩
 obtain ⟨E, hE⟩ : ∃ E, atE F at_ = E := ⟨_, rfl⟩
 rw [hA, hE] at CA0
 have HC := hid CA0
 have HA := hid hA
 have HE := hid hE
 clear CA0 hA hE hF hz
 go_wp2_with fail
 refine HC.out.mono ?_
 rintro e w2 ⟨rfl, hb⟩
 clear HC s0 s1 s2 ss
 have hle := Nat.le_of_lt X.out.1
 replace B := hid (jh B.out hle hb)
 replace X := hid (ai X.out hb)
 replace Y := hid (ai Y.out hb)
 replace G := hid (bD G.out hb)
 replace G2 := hid (bD G2.out hb)
 clear hle
 clear hb
 obtain ⟨w3, g_w3, L0, hb2, sz⟩ := oh w2 #[.int .i64 A.shift, .int .i64 A.save, .string ⟨A.name.toArray⟩] 31
 obtain ⟨bA, h_bA⟩ : ∃ b, w2.heap.size = b := ⟨_, rfl⟩
 have LA : Hid (ak w3 bA [.int .i64 A.shift, .int .i64 A.save, .string ⟨A.name.toArray⟩]) := h_bA ▸ L0
 have hle := Nat.le_of_lt X.out.1
 replace B := hid (jh B.out hle hb2)
 replace X := hid (ai X.out hb2)
 replace Y := hid (ai Y.out hb2)
 replace G := hid (bD G.out hb2)
 replace G2 := hid (bD G2.out hb2)
 clear hle
 clear hb2 sz L0
 go_upto_region 4 with fail
 clear g_w3 h_bA
 by_cases e0 : E = 0
 case neg =>
  have hA0 : A = ⟨0, 0, []⟩ := by rw [← HA.out]; unfold atL; rw [HE.out, if_neg e0]; rfl
  subst hA0
  have LA0 : Hid (ak w3 bA [.int .i64 0, .int .i64 0, .string ⟨#[]⟩]) := LA.out
  have p1 : (E != 0) = true := by simp [e0]
  clear LA HA HE HF HZ
  obtain ⟨⟨l0, _⟩, ⟨l1, _⟩, ⟨l2, _⟩, sl⟩ := cp3 LA0.out
  go_wp2
  go_ret
  exact ⟨rfl, B.out⟩
 subst e0
 have hF0 : F = 0 := by
  have := HE.out
  unfold atE at this
  split at this
  ·assumption
  ·rename_i q; simpa using q
 subst hF0
 obtain ⟨f1, f2, f3⟩ : s.rules.length ≤ 40 ∧ xs.length ≤ 20 ∧ s.links.length ≤ 20 := by
  obtain ⟨u1, u2⟩ := oC HF.out
  have ok := Sx.uo (jQ u1 0 (by omega))
  obtain ⟨f1, f2, f3, f4⟩ := ny ok.many
  have hl := lh G.out.zv
  exact ⟨by omega, by omega, by omega⟩
 obtain ⟨w4, hw4⟩ : ∃ y, w3 = y := ⟨_, rfl⟩
 have X4 : Hid (ak w4 N [.slice ra s.rules.length rcap, .slice za xs.length zcap, .slice la s.links.length lcap]) := hw4 ▸ X
 have Y4 : Hid (ak w4 (N + 1) [.slice rb t.rules.length rdap, .slice zb yt.length zdap, .slice lb t.links.length ldap]) := hw4 ▸ Y
 have G4 : Hid (kF s xs ra za la rcap zcap lcap m w4) := hw4 ▸ G
 have G24 : Hid (kF t yt rb zb lb rdap zdap ldap m w4) := hw4 ▸ G2
 have B4 : Hid (Below N w w4) := hw4 ▸ B
 have LA4 : Hid (ak w4 bA [.int .i64 A.shift, .int .i64 A.save, .string ⟨A.name.toArray⟩]) := hw4 ▸ LA
 obtain ⟨⟨s0, _⟩, ⟨s1, _⟩, ⟨s2, _⟩, -⟩ := cp3 X4.out
 obtain ⟨⟨y0, _⟩, ⟨y1, _⟩, ⟨y2, _⟩, -⟩ := cp3 Y4.out
 have sx := X4.out.1
 have sy := Y4.out.1
 have SS := hid (show w4.cell? ⟨N, 0, none⟩ = some (.slice ra s.rules.length rcap) ∧ w4.cell? ⟨N, 1, none⟩ = some (.slice za xs.length zcap) ∧ w4.cell? ⟨N, 2, none⟩ = some (.slice la s.links.length lcap) ∧ w4.cell? ⟨N + 1, 0, none⟩ = some (.slice rb t.rules.length rdap) ∧ w4.cell? ⟨N + 1, 1, none⟩ = some (.slice zb yt.length zdap) ∧ w4.cell? ⟨N + 1, 2, none⟩ = some (.slice lb t.links.length ldap) from ⟨s0, s1, s2, y0, y1, y2⟩)
 have KS : Hid (∀ wz, Below w4.heap.size w4 wz → (wz.cell? ⟨N, 0, none⟩ = some (.slice ra s.rules.length rcap) ∧ wz.cell? ⟨N, 1, none⟩ = some (.slice za xs.length zcap) ∧ wz.cell? ⟨N, 2, none⟩ = some (.slice la s.links.length lcap) ∧ wz.cell? ⟨N + 1, 0, none⟩ = some (.slice rb t.rules.length rdap) ∧ wz.cell? ⟨N + 1, 1, none⟩ = some (.slice zb yt.length zdap) ∧ wz.cell? ⟨N + 1, 2, none⟩ = some (.slice lb t.links.length ldap))) := fun wz hb => ⟨(hb.cell (p := ⟨N, 0, none⟩) sx).trans s0, (hb.cell (p := ⟨N, 1, none⟩) sx).trans s1, (hb.cell (p := ⟨N, 2, none⟩) sx).trans s2, (hb.cell (p := ⟨N + 1, 0, none⟩) sy).trans y0, (hb.cell (p := ⟨N + 1, 1, none⟩) sy).trans y1, (hb.cell (p := ⟨N + 1, 2, none⟩) sy).trans y2⟩
 obtain ⟨i1, hi1, hz01, hz11, hz21⟩ := info_parts Tryz.AV
 obtain ⟨i3, hi3, hz03, hz13, hz23⟩ := info_parts Tryz.AX
 obtain ⟨i4, hi4, hz04, hz14, hz24⟩ := info_parts Tryz.AU
 clear X Y G G2 B LA sx sy s0 s1 s2 y0 y1 y2
 go_upto_region 6 with fail
 try rw [show w3 = w4 from hw4]
 clear hw4
 go_cut [11] from 29 to 50 (fun s11 wc => ∃ (Bb : Nat) (va : Option Addr) (ka : Nat) (vb : Option Addr) (kb : Nat) (vc : Option Addr) (kc n1 n2 n3 : Nat), s11 = .pointer (some ⟨Bb, 0, none⟩) ∧ Hid ((s.rules ++ t.rules).length = n1) ∧ Hid ((yt ++ xs).length = n2) ∧ Hid ((s.links ++ t.links).length = n3) ∧ ak wc Bb [.slice va n1 ka, .slice vb n2 kb, .slice vc n3 kc] ∧ wc.ownsRow w4.heap.size 40 11 (.slice va n1 ka) n1 ((s.rules ++ t.rules).flatMap ah) ∧ wc.ownsRow w4.heap.size 44 2 (.slice vb n2 kb) n2 ((yt ++ xs).flatMap aJ) ∧ wc.ownsRow w4.heap.size 35 2 (.slice vc n3 kc) n3 ((s.links ++ t.links).flatMap aH) ∧ Below w4.heap.size w4 wc)
 case first =>
  refine wp_region_held_drew (S := fun w' => w'.cell? ⟨N, 0, none⟩ = some (.slice ra s.rules.length rcap) ∧ w'.cell? ⟨N, 1, none⟩ = some (.slice za xs.length zcap) ∧ w'.cell? ⟨N, 2, none⟩ = some (.slice la s.links.length lcap) ∧ w'.cell? ⟨N + 1, 0, none⟩ = some (.slice rb t.rules.length rdap) ∧ w'.cell? ⟨N + 1, 1, none⟩ = some (.slice zb yt.length zdap) ∧ w'.cell? ⟨N + 1, 2, none⟩ = some (.slice lb t.links.length ldap)) (by kernel_rfl) SS.out (fun hHeld => ?_)
  refine tkA 1 rfl ?_
  refine tkA 2 rfl ?_
  refine tkA 4 rfl ?_
  refine tkA 5 rfl ?_
  refine tkA 8 rfl ?_
  refine tkA 9 rfl ?_
  refine tkA 11 rfl ?_
  refine tkA 12 rfl ?_
  refine tkA 15 rfl ?_
  refine tkA 16 rfl ?_
  refine tkA 18 rfl ?_
  refine tkA 19 rfl ?_
  refine IC (fun W a0 ha0 FW UW => ?_)
  have hX : (11 : Nat) < 29 := by decide
  have hB : 29 + 21 < a0.tmps.size := by rw [ha0]; exact Nat.le_of_ble_eq_true rfl
  have E31 : Hid (a0.eval (.tmp 31) = .slice ra s.rules.length rcap) := by show _ = _; rw [ha0]; rfl
  have E34 : Hid (a0.eval (.tmp 34) = .slice rb t.rules.length rdap) := by show _ = _; rw [ha0]; rfl
  have E38 : Hid (a0.eval (.tmp 38) = .slice zb yt.length zdap) := by show _ = _; rw [ha0]; rfl
  have E41 : Hid (a0.eval (.tmp 41) = .slice za xs.length zcap) := by show _ = _; rw [ha0]; rfl
  have E45 : Hid (a0.eval (.tmp 45) = .slice la s.links.length lcap) := by show _ = _; rw [ha0]; rfl
  have E48 : Hid (a0.eval (.tmp 48) = .slice lb t.links.length ldap) := by show _ = _; rw [ha0]; rfl
  have H0 : Hid (MB s.rules t.rules yt xs s.links t.links 29 11 a0 w4.heap.size w4.drew 0 false false false false a0 w4.drew) := ⟨rfl, rfl, fun _ _ _ _ _ _ _ _ _ _ _ _ => rfl, q4B _ _, Nat.le_refl _, fun _ h => (by cases h), fun h => absurd h (by omega), fun h => absurd h (by omega), fun _ h => (by cases h), fun h => absurd h (by omega), fun h => absurd h (by omega), fun _ h => (by cases h), fun h => absurd h (by omega), fun h => absurd h (by omega), fun h => absurd h (by omega), fun h => (by cases h)⟩
  have FIN : ∀ (x0 x3 x7 x10 x14 x17 : Value) (va : Option Addr) (ka : Nat) (vb : Option Addr) (kb : Nat) (vc : Option Addr) (kc Bb : Nat) (wz : World), Below w4.heap.size w4 wz → aB wz w4.heap.size (.slice va (s.rules ++ t.rules).length ka) (s.rules ++ t.rules) → bn wz w4.heap.size (.slice vb (yt ++ xs).length kb) (yt ++ xs) → aA wz w4.heap.size (.slice vc (s.links ++ t.links).length kc) (s.links ++ t.links) → w4.heap.size ≤ Bb → ak wz Bb xq → Blk wz Bb 26 3 → W 1 #[true, true, true, true, true, true, true, true, true, true, true, true, true, true, true, true, true, true, true, true, true, true, true, false] (ru a0 29 11 x0 x3 (.slice va (s.rules ++ t.rules).length ka) x7 x10 (.slice vb (yt ++ xs).length kb) x14 x17 (.slice vc (s.links ++ t.links).length kc) (.agg #[.slice va (s.rules ++ t.rules).length ka, .slice vb (yt ++ xs).length kb, .slice vc (s.links ++ t.links).length kc]) (.pointer (some ⟨Bb, 0, none⟩))) wz := fun x0 x3 x7 x10 x14 x17 va ka vb kb vc kc Bb wz bz o1 o2 o3 hB9 hc9 hk9 => UW _ _ _ _ (by
   obtain ⟨n1, hn1⟩ : ∃ n, (s.rules ++ t.rules).length = n := ⟨_, rfl⟩
   obtain ⟨n2, hn2⟩ : ∃ n, (yt ++ xs).length = n := ⟨_, rfl⟩
   obtain ⟨n3, hn3⟩ : ∃ n, (s.links ++ t.links).length = n := ⟨_, rfl⟩
   unfold aB at o1
   unfold bn at o2
   unfold aA at o3
   rw [hn1] at o1 ⊢
   rw [hn2] at o2 ⊢
   rw [hn3] at o3 ⊢
   have HN1 := hid hn1
   have HN2 := hid hn2
   have HN3 := hid hn3
   have d1 := dH o1 hk9 (by decide)
   have d2 := dH o2 hk9 (by decide)
   have d3 := dH o3 hk9 (by decide)
   have D1 := hid (fun (p : (Value.slice va n1 ka).ownBlock = some Bb) => d1 Bb p rfl)
   have D2 := hid (fun (p : (Value.slice vb n2 kb).ownBlock = some Bb) => d2 Bb p rfl)
   have D3 := hid (fun (p : (Value.slice vc n3 kc).ownBlock = some Bb) => d3 Bb p rfl)
   obtain ⟨⟨q0, k0⟩, ⟨q1, k1⟩, ⟨q2, k2⟩, sT⟩ := cp3 hc9
   have B9 := aR (aR (aR bz hB9 0 (.slice va n1 ka)) hB9 1 (.slice vb n2 kb)) hB9 2 (.slice vc n3 kc)
   have S9 := KS.out _ B9
   have T9 := cK (cK (cK hc9 0 (.slice va n1 ka) (by simp [xq])) 1 (.slice vb n2 kb) (by simp [xq])) 2 (.slice vc n3 kc) (by simp [xq])
   simp only [xq, List.set_cons_zero, List.set_cons_succ] at T9
   have O1 := ownsRow_setCell_other (a := ⟨Bb, 2, none⟩) (ownsRow_setCell_other (a := ⟨Bb, 1, none⟩) (ownsRow_setCell_other (a := ⟨Bb, 0, none⟩) o1 D1.out (.slice va n1 ka)) D1.out (.slice vb n2 kb)) D1.out (.slice vc n3 kc)
   have O2 := ownsRow_setCell_other (a := ⟨Bb, 2, none⟩) (ownsRow_setCell_other (a := ⟨Bb, 1, none⟩) (ownsRow_setCell_other (a := ⟨Bb, 0, none⟩) o2 D2.out (.slice va n1 ka)) D2.out (.slice vb n2 kb)) D2.out (.slice vc n3 kc)
   have O3 := ownsRow_setCell_other (a := ⟨Bb, 2, none⟩) (ownsRow_setCell_other (a := ⟨Bb, 1, none⟩) (ownsRow_setCell_other (a := ⟨Bb, 0, none⟩) o3 D3.out (.slice va n1 ka)) D3.out (.slice vb n2 kb)) D3.out (.slice vc n3 kc)
   have HO1 := hid O1
   have HO2 := hid O2
   have HO3 := hid O3
   have HT9 := hid T9
   have HB9' := hid B9
   clear O1 O2 O3 T9 o1 o2 o3 d1 d2 d3 hk9 hn1 hn2 hn3
   rw [ha0]
   simp only [ru, Act.put, List.setIfInBounds_toArray, List.set_cons_zero, List.set_cons_succ]
   refine rdH 23 rfl fun K hK => ?_
   go_simp
   refine hK.out _ _ S9 (fun hHeld2 => ?_)
   refine wpAnyH_done (by kernel_rfl) ?_ _
   clear S9 B9 hK K q0 q1 q2 k0 k1 k2 sT
   go_wp2_with fail
   go_meet
   exact ⟨Bb, va, ka, vb, kb, vc, kc, n1, n2, n3, rfl, HN1, HN2, HN3, HT9.out, HO1.out, HO2.out, HO3.out, HB9'.out⟩)
  have K71111 : ∀ a w, MB s.rules t.rules yt xs s.links t.links 29 11 a0 w4.heap.size w4.drew 7 true true true true a w → W 1 #[true, true, true, true, true, true, true, true, true, true, true, true, true, true, true, true, true, true, true, true, true, true, true, false] a w := fun a wz H => UW _ _ _ _ (by
   obtain ⟨x0, x3, x7, x10, x14, x17, va, ka, vb, kb, vc, kc, Bb, rfl, o1, o2, o3, hB9, hc9, hk9⟩ := Li hX hB H
   exact FW _ _ _ _ (FIN _ _ _ _ _ _ _ _ _ _ _ _ _ wz (af H.bel) o1 o2 o3 hB9 hc9 hk9))
  have K61111 : ∀ a w, MB s.rules t.rules yt xs s.links t.links 29 11 a0 w4.heap.size w4.drew 6 true true true true a w → W 2 #[true, true, true, true, true, true, true, true, true, true, true, true, true, true, true, true, true, true, true, true, true, false, true, false] a w := fun a wz H => UW _ _ _ _ (by
   refine rdH 21 rfl fun K hK => ?_
   ·obtain ⟨r, q1, o1⟩ := H.r2 (by omega)
    obtain ⟨zz, q2, o2⟩ := H.z2 (by omega)
    obtain ⟨l, q3, o3⟩ := H.l2 (by omega)
    obtain ⟨va, ka, rfl⟩ := aQ o1
    obtain ⟨vb, kb, rfl⟩ := aQ o2
    obtain ⟨vc, kc, rfl⟩ := aQ o3
    clear o1 o2 o3
    generalize (s.rules ++ t.rules).length = n1 at q1
    generalize (yt ++ xs).length = n2 at q2
    generalize (s.links ++ t.links).length = n3 at q3
    have u1 := aT q1
    have u2 := aT q2
    have u3 := aT q3
    go_simp
    exact hK.out _ _ (KS.out _ (af (zy hX hB H q1 q2 q3).bel)) fun _ => FW _ _ _ _ (K71111 _ _ (zy hX hB H q1 q2 q3)))
  have K71110 : ∀ a w, MB s.rules t.rules yt xs s.links t.links 29 11 a0 w4.heap.size w4.drew 7 true true true false a w → W 2 #[true, true, true, true, true, true, true, true, true, true, true, true, true, true, true, true, true, true, true, true, true, true, false, false] a w := fun a wz H => UW _ _ _ _ (by
   refine rdH 22 rfl fun K hK => ?_
   ·go_simp
    exact hK.out _ _ (KS.out _ (af (bW hX hB H).bel)) fun _ => FW _ _ _ _ (K71111 _ _ (bW hX hB H)))
  have K51111 : ∀ a w, MB s.rules t.rules yt xs s.links t.links 29 11 a0 w4.heap.size w4.drew 5 true true true true a w → W 3 #[true, true, true, true, true, true, true, true, true, true, true, true, true, true, true, true, true, true, true, true, false, false, true, false] a w := fun a wz H => UW _ _ _ _ (by
   refine rdH 20 rfl fun K hK => ?_
   ·obtain ⟨v, hv, ho⟩ := H.l1 rfl
    refine aK rfl (.tmp 46) (.tmp 48) 24 rfl w4.heap.size 35 i4 (.agg #[.string ⟨#[]⟩, .string ⟨#[]⟩]) 2 32 Tryz.underlying24 hi4 hz04 hz14 hz24 rfl (by decide) v s.links.length _ (aT hv) ho lb t.links.length ldap (t.links.flatMap aH) ((bf (H.far 48 (by decide) (by decide) (by decide) (by decide) (by decide) (by decide) (by decide) (by decide) (by decide) (by decide) (by decide))).trans E48.out) (show (List.flatMap aH t.links).length = t.links.length * 2 from aY (cells := aH) (fun _ => rfl) _) (bG (z := 2) (cells := aH) (fun _ => rfl) (by decide) (au G24.out.links (af H.bel))) (bU G24.out.links) (bg qA _) (by unfold maxLen; omega) (by omega) H.hM ?_
    intro v' w' hown hg
    exact hK.out _ _ (KS.out _ (af (zw hX hB H ho (by simpa [aB, aA, bn] using hown) hg).bel)) fun _ => FW _ _ _ _ (K61111 _ _ (zw hX hB H ho (by simpa [aB, aA, bn] using hown) hg)))
  have K61110 : ∀ a w, MB s.rules t.rules yt xs s.links t.links 29 11 a0 w4.heap.size w4.drew 6 true true true false a w → W 3 #[true, true, true, true, true, true, true, true, true, true, true, true, true, true, true, true, true, true, true, true, true, false, false, false] a w := fun a wz H => UW _ _ _ _ (by
   refine wpAnyH_ready (rs := [21, 22]) (by kernel_rfl) (by simp) ?_
   refine AllReadyH.cons rfl (fun K hK => ?_) ?_
   ·obtain ⟨r, q1, o1⟩ := H.r2 (by omega)
    obtain ⟨zz, q2, o2⟩ := H.z2 (by omega)
    obtain ⟨l, q3, o3⟩ := H.l2 (by omega)
    obtain ⟨va, ka, rfl⟩ := aQ o1
    obtain ⟨vb, kb, rfl⟩ := aQ o2
    obtain ⟨vc, kc, rfl⟩ := aQ o3
    clear o1 o2 o3
    generalize (s.rules ++ t.rules).length = n1 at q1
    generalize (yt ++ xs).length = n2 at q2
    generalize (s.links ++ t.links).length = n3 at q3
    have u1 := aT q1
    have u2 := aT q2
    have u3 := aT q3
    go_simp
    exact hK.out _ _ (KS.out _ (af (zy hX hB H q1 q2 q3).bel)) fun _ => FW _ _ _ _ (K71110 _ _ (zy hX hB H q1 q2 q3))
   refine AllReadyH.cons rfl (fun K hK => ?_) AllReadyH.nil
   ·go_simp
    exact hK.out _ _ (KS.out _ (af (bW hX hB H).bel)) fun _ => FW _ _ _ _ (K61111 _ _ (bW hX hB H)))
  have K41111 : ∀ a w, MB s.rules t.rules yt xs s.links t.links 29 11 a0 w4.heap.size w4.drew 4 true true true true a w → W 4 #[true, true, true, true, true, true, true, true, true, true, true, true, true, true, true, true, true, false, true, true, false, false, true, false] a w := fun a wz H => UW _ _ _ _ (by
   refine rdH 17 rfl fun K hK => ?_
   ·obtain ⟨v, hv, ho⟩ := H.l0 (by omega) rfl
    refine aK rfl (.tmp 43) (.tmp 45) 24 rfl w4.heap.size 35 i4 (.agg #[.string ⟨#[]⟩, .string ⟨#[]⟩]) 2 32 Tryz.underlying24 hi4 hz04 hz14 hz24 rfl (by decide) v 0 [] (aT hv) ho la s.links.length lcap (s.links.flatMap aH) ((bf (H.far 45 (by decide) (by decide) (by decide) (by decide) (by decide) (by decide) (by decide) (by decide) (by decide) (by decide) (by decide))).trans E45.out) (show (List.flatMap aH s.links).length = s.links.length * 2 from aY (cells := aH) (fun _ => rfl) _) (bG (z := 2) (cells := aH) (fun _ => rfl) (by decide) (au G4.out.links (af H.bel))) (bU G4.out.links) (bg qA _) (by unfold maxLen; omega) (by omega) H.hM ?_
    intro v' w' hown hg
    exact hK.out _ _ (KS.out _ (af (zu hX hB H ho (by simpa [aB, aA, bn] using hown) hg).bel)) fun _ => FW _ _ _ _ (K51111 _ _ (zu hX hB H ho (by simpa [aB, aA, bn] using hown) hg)))
  have K51110 : ∀ a w, MB s.rules t.rules yt xs s.links t.links 29 11 a0 w4.heap.size w4.drew 5 true true true false a w → W 4 #[true, true, true, true, true, true, true, true, true, true, true, true, true, true, true, true, true, true, true, true, false, false, false, false] a w := fun a wz H => UW _ _ _ _ (by
   refine wpAnyH_ready (rs := [20, 22]) (by kernel_rfl) (by simp) ?_
   refine AllReadyH.cons rfl (fun K hK => ?_) ?_
   ·obtain ⟨v, hv, ho⟩ := H.l1 rfl
    refine aK rfl (.tmp 46) (.tmp 48) 24 rfl w4.heap.size 35 i4 (.agg #[.string ⟨#[]⟩, .string ⟨#[]⟩]) 2 32 Tryz.underlying24 hi4 hz04 hz14 hz24 rfl (by decide) v s.links.length _ (aT hv) ho lb t.links.length ldap (t.links.flatMap aH) ((bf (H.far 48 (by decide) (by decide) (by decide) (by decide) (by decide) (by decide) (by decide) (by decide) (by decide) (by decide) (by decide))).trans E48.out) (show (List.flatMap aH t.links).length = t.links.length * 2 from aY (cells := aH) (fun _ => rfl) _) (bG (z := 2) (cells := aH) (fun _ => rfl) (by decide) (au G24.out.links (af H.bel))) (bU G24.out.links) (bg qA _) (by unfold maxLen; omega) (by omega) H.hM ?_
    intro v' w' hown hg
    exact hK.out _ _ (KS.out _ (af (zw hX hB H ho (by simpa [aB, aA, bn] using hown) hg).bel)) fun _ => FW _ _ _ _ (K61110 _ _ (zw hX hB H ho (by simpa [aB, aA, bn] using hown) hg))
   refine AllReadyH.cons rfl (fun K hK => ?_) AllReadyH.nil
   ·go_simp
    exact hK.out _ _ (KS.out _ (af (bW hX hB H).bel)) fun _ => FW _ _ _ _ (K51111 _ _ (bW hX hB H)))
  have K31111 : ∀ a w, MB s.rules t.rules yt xs s.links t.links 29 11 a0 w4.heap.size w4.drew 3 true true true true a w → W 5 #[true, true, true, true, true, true, true, true, true, true, true, true, true, false, true, true, true, false, true, true, false, false, true, false] a w := fun a wz H => UW _ _ _ _ (by
   refine rdH 13 rfl fun K hK => ?_
   ·obtain ⟨v, hv, ho⟩ := H.z1 rfl
    refine aK rfl (.tmp 39) (.tmp 41) 23 rfl w4.heap.size 44 i3 (.agg #[.string ⟨#[]⟩, .slice none 0 0]) 2 40 Tryz.underlying23 hi3 hz03 hz13 hz23 rfl (by decide) v yt.length _ (aT hv) ho za xs.length zcap (xs.flatMap aJ) ((bf (H.far 41 (by decide) (by decide) (by decide) (by decide) (by decide) (by decide) (by decide) (by decide) (by decide) (by decide) (by decide))).trans E41.out) (show (List.flatMap aJ xs).length = xs.length * 2 from aY (cells := aJ) (fun _ => rfl) _) (bG (z := 2) (cells := aJ) (fun _ => rfl) (by decide) (au G4.out.zv.rd (af H.bel))) (bU G4.out.zv.rd) (bg nQ _) (by unfold maxLen; omega) (by omega) H.hM ?_
    intro v' w' hown hg
    exact hK.out _ _ (KS.out _ (af (nA hX hB H ho (by simpa [aB, aA, bn] using hown) hg).bel)) fun _ => FW _ _ _ _ (K41111 _ _ (nA hX hB H ho (by simpa [aB, aA, bn] using hown) hg)))
  have K41101 : ∀ a w, MB s.rules t.rules yt xs s.links t.links 29 11 a0 w4.heap.size w4.drew 4 true true false true a w → W 5 #[true, true, true, true, true, true, true, true, true, true, true, true, true, true, false, true, true, false, true, true, false, false, true, false] a w := fun a wz H => UW _ _ _ _ (by
   refine rdH 14 rfl fun K hK => ?_
   ·exact aI rfl 24 35 rfl i4 Tryz.underlying24 hi4 (hK.out _ _ (KS.out _ (af (bI (by omega) hX hB H).bel)) fun _ => FW _ _ _ _ (K41111 _ _ (bI (by omega) hX hB H))))
  have K41110 : ∀ a w, MB s.rules t.rules yt xs s.links t.links 29 11 a0 w4.heap.size w4.drew 4 true true true false a w → W 5 #[true, true, true, true, true, true, true, true, true, true, true, true, true, true, true, true, true, false, true, true, false, false, false, false] a w := fun a wz H => UW _ _ _ _ (by
   refine wpAnyH_ready (rs := [17, 22]) (by kernel_rfl) (by simp) ?_
   refine AllReadyH.cons rfl (fun K hK => ?_) ?_
   ·obtain ⟨v, hv, ho⟩ := H.l0 (by omega) rfl
    refine aK rfl (.tmp 43) (.tmp 45) 24 rfl w4.heap.size 35 i4 (.agg #[.string ⟨#[]⟩, .string ⟨#[]⟩]) 2 32 Tryz.underlying24 hi4 hz04 hz14 hz24 rfl (by decide) v 0 [] (aT hv) ho la s.links.length lcap (s.links.flatMap aH) ((bf (H.far 45 (by decide) (by decide) (by decide) (by decide) (by decide) (by decide) (by decide) (by decide) (by decide) (by decide) (by decide))).trans E45.out) (show (List.flatMap aH s.links).length = s.links.length * 2 from aY (cells := aH) (fun _ => rfl) _) (bG (z := 2) (cells := aH) (fun _ => rfl) (by decide) (au G4.out.links (af H.bel))) (bU G4.out.links) (bg qA _) (by unfold maxLen; omega) (by omega) H.hM ?_
    intro v' w' hown hg
    exact hK.out _ _ (KS.out _ (af (zu hX hB H ho (by simpa [aB, aA, bn] using hown) hg).bel)) fun _ => FW _ _ _ _ (K51110 _ _ (zu hX hB H ho (by simpa [aB, aA, bn] using hown) hg))
   refine AllReadyH.cons rfl (fun K hK => ?_) AllReadyH.nil
   ·go_simp
    exact hK.out _ _ (KS.out _ (af (bW hX hB H).bel)) fun _ => FW _ _ _ _ (K41111 _ _ (bW hX hB H)))
  have K21111 : ∀ a w, MB s.rules t.rules yt xs s.links t.links 29 11 a0 w4.heap.size w4.drew 2 true true true true a w → W 6 #[true, true, true, true, true, true, true, true, true, true, false, true, true, false, true, true, true, false, true, true, false, false, true, false] a w := fun a wz H => UW _ _ _ _ (by
   refine rdH 10 rfl fun K hK => ?_
   ·obtain ⟨v, hv, ho⟩ := H.z0 (by omega) rfl
    refine aK rfl (.tmp 36) (.tmp 38) 23 rfl w4.heap.size 44 i3 (.agg #[.string ⟨#[]⟩, .slice none 0 0]) 2 40 Tryz.underlying23 hi3 hz03 hz13 hz23 rfl (by decide) v 0 [] (aT hv) ho zb yt.length zdap (yt.flatMap aJ) ((bf (H.far 38 (by decide) (by decide) (by decide) (by decide) (by decide) (by decide) (by decide) (by decide) (by decide) (by decide) (by decide))).trans E38.out) (show (List.flatMap aJ yt).length = yt.length * 2 from aY (cells := aJ) (fun _ => rfl) _) (bG (z := 2) (cells := aJ) (fun _ => rfl) (by decide) (au G24.out.zv.rd (af H.bel))) (bU G24.out.zv.rd) (bg nQ _) (by unfold maxLen; omega) (by omega) H.hM ?_
    intro v' w' hown hg
    exact hK.out _ _ (KS.out _ (af (nz hX hB H ho (by simpa [aB, aA, bn] using hown) hg).bel)) fun _ => FW _ _ _ _ (K31111 _ _ (nz hX hB H ho (by simpa [aB, aA, bn] using hown) hg)))
  have K31101 : ∀ a w, MB s.rules t.rules yt xs s.links t.links 29 11 a0 w4.heap.size w4.drew 3 true true false true a w → W 6 #[true, true, true, true, true, true, true, true, true, true, true, true, true, false, false, true, true, false, true, true, false, false, true, false] a w := fun a wz H => UW _ _ _ _ (by
   refine wpAnyH_ready (rs := [13, 14]) (by kernel_rfl) (by simp) ?_
   refine AllReadyH.cons rfl (fun K hK => ?_) ?_
   ·obtain ⟨v, hv, ho⟩ := H.z1 rfl
    refine aK rfl (.tmp 39) (.tmp 41) 23 rfl w4.heap.size 44 i3 (.agg #[.string ⟨#[]⟩, .slice none 0 0]) 2 40 Tryz.underlying23 hi3 hz03 hz13 hz23 rfl (by decide) v yt.length _ (aT hv) ho za xs.length zcap (xs.flatMap aJ) ((bf (H.far 41 (by decide) (by decide) (by decide) (by decide) (by decide) (by decide) (by decide) (by decide) (by decide) (by decide) (by decide))).trans E41.out) (show (List.flatMap aJ xs).length = xs.length * 2 from aY (cells := aJ) (fun _ => rfl) _) (bG (z := 2) (cells := aJ) (fun _ => rfl) (by decide) (au G4.out.zv.rd (af H.bel))) (bU G4.out.zv.rd) (bg nQ _) (by unfold maxLen; omega) (by omega) H.hM ?_
    intro v' w' hown hg
    exact hK.out _ _ (KS.out _ (af (nA hX hB H ho (by simpa [aB, aA, bn] using hown) hg).bel)) fun _ => FW _ _ _ _ (K41101 _ _ (nA hX hB H ho (by simpa [aB, aA, bn] using hown) hg))
   refine AllReadyH.cons rfl (fun K hK => ?_) AllReadyH.nil
   ·exact aI rfl 24 35 rfl i4 Tryz.underlying24 hi4 (hK.out _ _ (KS.out _ (af (bI (by omega) hX hB H).bel)) fun _ => FW _ _ _ _ (K31111 _ _ (bI (by omega) hX hB H))))
  have K31110 : ∀ a w, MB s.rules t.rules yt xs s.links t.links 29 11 a0 w4.heap.size w4.drew 3 true true true false a w → W 6 #[true, true, true, true, true, true, true, true, true, true, true, true, true, false, true, true, true, false, true, true, false, false, false, false] a w := fun a wz H => UW _ _ _ _ (by
   refine wpAnyH_ready (rs := [13, 22]) (by kernel_rfl) (by simp) ?_
   refine AllReadyH.cons rfl (fun K hK => ?_) ?_
   ·obtain ⟨v, hv, ho⟩ := H.z1 rfl
    refine aK rfl (.tmp 39) (.tmp 41) 23 rfl w4.heap.size 44 i3 (.agg #[.string ⟨#[]⟩, .slice none 0 0]) 2 40 Tryz.underlying23 hi3 hz03 hz13 hz23 rfl (by decide) v yt.length _ (aT hv) ho za xs.length zcap (xs.flatMap aJ) ((bf (H.far 41 (by decide) (by decide) (by decide) (by decide) (by decide) (by decide) (by decide) (by decide) (by decide) (by decide) (by decide))).trans E41.out) (show (List.flatMap aJ xs).length = xs.length * 2 from aY (cells := aJ) (fun _ => rfl) _) (bG (z := 2) (cells := aJ) (fun _ => rfl) (by decide) (au G4.out.zv.rd (af H.bel))) (bU G4.out.zv.rd) (bg nQ _) (by unfold maxLen; omega) (by omega) H.hM ?_
    intro v' w' hown hg
    exact hK.out _ _ (KS.out _ (af (nA hX hB H ho (by simpa [aB, aA, bn] using hown) hg).bel)) fun _ => FW _ _ _ _ (K41110 _ _ (nA hX hB H ho (by simpa [aB, aA, bn] using hown) hg))
   refine AllReadyH.cons rfl (fun K hK => ?_) AllReadyH.nil
   ·go_simp
    exact hK.out _ _ (KS.out _ (af (bW hX hB H).bel)) fun _ => FW _ _ _ _ (K31111 _ _ (bW hX hB H)))
  have K41100 : ∀ a w, MB s.rules t.rules yt xs s.links t.links 29 11 a0 w4.heap.size w4.drew 4 true true false false a w → W 6 #[true, true, true, true, true, true, true, true, true, true, true, true, true, true, false, true, true, false, true, true, false, false, false, false] a w := fun a wz H => UW _ _ _ _ (by
   refine wpAnyH_ready (rs := [14, 22]) (by kernel_rfl) (by simp) ?_
   refine AllReadyH.cons rfl (fun K hK => ?_) ?_
   ·exact aI rfl 24 35 rfl i4 Tryz.underlying24 hi4 (hK.out _ _ (KS.out _ (af (bI (by omega) hX hB H).bel)) fun _ => FW _ _ _ _ (K41110 _ _ (bI (by omega) hX hB H)))
   refine AllReadyH.cons rfl (fun K hK => ?_) AllReadyH.nil
   ·go_simp
    exact hK.out _ _ (KS.out _ (af (bW hX hB H).bel)) fun _ => FW _ _ _ _ (K41101 _ _ (bW hX hB H)))
  have K11111 : ∀ a w, MB s.rules t.rules yt xs s.links t.links 29 11 a0 w4.heap.size w4.drew 1 true true true true a w → W 7 #[true, true, true, true, true, true, false, true, true, true, false, true, true, false, true, true, true, false, true, true, false, false, true, false] a w := fun a wz H => UW _ _ _ _ (by
   refine rdH 6 rfl fun K hK => ?_
   ·obtain ⟨v, hv, ho⟩ := H.r1 rfl
    refine aK rfl (.tmp 32) (.tmp 34) 22 rfl w4.heap.size 40 i1 (.agg #[.string ⟨#[]⟩, .int .i64 0, .int .i64 0, .int .i64 0, .int .i64 0, .int .i64 0, .int .i64 0, .int .i64 0, .int .i64 0, .int .i64 0, .string ⟨#[]⟩]) 11 104 Tryz.underlying22 hi1 hz01 hz11 hz21 rfl (by decide) v s.rules.length _ (aT hv) ho rb t.rules.length rdap (t.rules.flatMap ah) ((bf (H.far 34 (by decide) (by decide) (by decide) (by decide) (by decide) (by decide) (by decide) (by decide) (by decide) (by decide) (by decide))).trans E34.out) (show (List.flatMap ah t.rules).length = t.rules.length * 11 from aY (cells := ah) (fun _ => rfl) _) (bG (z := 11) (cells := ah) (fun _ => rfl) (by decide) (au G24.out.rules (af H.bel))) (bU G24.out.rules) (bg dL _) (by unfold maxLen; omega) (by omega) H.hM ?_
    intro v' w' hown hg
    exact hK.out _ _ (KS.out _ (af (jC hX hB H ho (by simpa [aB, aA, bn] using hown) hg).bel)) fun _ => FW _ _ _ _ (K21111 _ _ (jC hX hB H ho (by simpa [aB, aA, bn] using hown) hg)))
  have K21011 : ∀ a w, MB s.rules t.rules yt xs s.links t.links 29 11 a0 w4.heap.size w4.drew 2 true false true true a w → W 7 #[true, true, true, true, true, true, true, false, true, true, false, true, true, false, true, true, true, false, true, true, false, false, true, false] a w := fun a wz H => UW _ _ _ _ (by
   refine rdH 7 rfl fun K hK => ?_
   ·exact aI rfl 23 44 rfl i3 Tryz.underlying23 hi3 (hK.out _ _ (KS.out _ (af (dX (by omega) hX hB H).bel)) fun _ => FW _ _ _ _ (K21111 _ _ (dX (by omega) hX hB H))))
  have K21101 : ∀ a w, MB s.rules t.rules yt xs s.links t.links 29 11 a0 w4.heap.size w4.drew 2 true true false true a w → W 7 #[true, true, true, true, true, true, true, true, true, true, false, true, true, false, false, true, true, false, true, true, false, false, true, false] a w := fun a wz H => UW _ _ _ _ (by
   refine wpAnyH_ready (rs := [10, 14]) (by kernel_rfl) (by simp) ?_
   refine AllReadyH.cons rfl (fun K hK => ?_) ?_
   ·obtain ⟨v, hv, ho⟩ := H.z0 (by omega) rfl
    refine aK rfl (.tmp 36) (.tmp 38) 23 rfl w4.heap.size 44 i3 (.agg #[.string ⟨#[]⟩, .slice none 0 0]) 2 40 Tryz.underlying23 hi3 hz03 hz13 hz23 rfl (by decide) v 0 [] (aT hv) ho zb yt.length zdap (yt.flatMap aJ) ((bf (H.far 38 (by decide) (by decide) (by decide) (by decide) (by decide) (by decide) (by decide) (by decide) (by decide) (by decide) (by decide))).trans E38.out) (show (List.flatMap aJ yt).length = yt.length * 2 from aY (cells := aJ) (fun _ => rfl) _) (bG (z := 2) (cells := aJ) (fun _ => rfl) (by decide) (au G24.out.zv.rd (af H.bel))) (bU G24.out.zv.rd) (bg nQ _) (by unfold maxLen; omega) (by omega) H.hM ?_
    intro v' w' hown hg
    exact hK.out _ _ (KS.out _ (af (nz hX hB H ho (by simpa [aB, aA, bn] using hown) hg).bel)) fun _ => FW _ _ _ _ (K31101 _ _ (nz hX hB H ho (by simpa [aB, aA, bn] using hown) hg))
   refine AllReadyH.cons rfl (fun K hK => ?_) AllReadyH.nil
   ·exact aI rfl 24 35 rfl i4 Tryz.underlying24 hi4 (hK.out _ _ (KS.out _ (af (bI (by omega) hX hB H).bel)) fun _ => FW _ _ _ _ (K21111 _ _ (bI (by omega) hX hB H))))
  have K21110 : ∀ a w, MB s.rules t.rules yt xs s.links t.links 29 11 a0 w4.heap.size w4.drew 2 true true true false a w → W 7 #[true, true, true, true, true, true, true, true, true, true, false, true, true, false, true, true, true, false, true, true, false, false, false, false] a w := fun a wz H => UW _ _ _ _ (by
   refine wpAnyH_ready (rs := [10, 22]) (by kernel_rfl) (by simp) ?_
   refine AllReadyH.cons rfl (fun K hK => ?_) ?_
   ·obtain ⟨v, hv, ho⟩ := H.z0 (by omega) rfl
    refine aK rfl (.tmp 36) (.tmp 38) 23 rfl w4.heap.size 44 i3 (.agg #[.string ⟨#[]⟩, .slice none 0 0]) 2 40 Tryz.underlying23 hi3 hz03 hz13 hz23 rfl (by decide) v 0 [] (aT hv) ho zb yt.length zdap (yt.flatMap aJ) ((bf (H.far 38 (by decide) (by decide) (by decide) (by decide) (by decide) (by decide) (by decide) (by decide) (by decide) (by decide) (by decide))).trans E38.out) (show (List.flatMap aJ yt).length = yt.length * 2 from aY (cells := aJ) (fun _ => rfl) _) (bG (z := 2) (cells := aJ) (fun _ => rfl) (by decide) (au G24.out.zv.rd (af H.bel))) (bU G24.out.zv.rd) (bg nQ _) (by unfold maxLen; omega) (by omega) H.hM ?_
    intro v' w' hown hg
    exact hK.out _ _ (KS.out _ (af (nz hX hB H ho (by simpa [aB, aA, bn] using hown) hg).bel)) fun _ => FW _ _ _ _ (K31110 _ _ (nz hX hB H ho (by simpa [aB, aA, bn] using hown) hg))
   refine AllReadyH.cons rfl (fun K hK => ?_) AllReadyH.nil
   ·go_simp
    exact hK.out _ _ (KS.out _ (af (bW hX hB H).bel)) fun _ => FW _ _ _ _ (K21111 _ _ (bW hX hB H)))
  have K31100 : ∀ a w, MB s.rules t.rules yt xs s.links t.links 29 11 a0 w4.heap.size w4.drew 3 true true false false a w → W 7 #[true, true, true, true, true, true, true, true, true, true, true, true, true, false, false, true, true, false, true, true, false, false, false, false] a w := fun a wz H => UW _ _ _ _ (by
   refine wpAnyH_ready (rs := [13, 14, 22]) (by kernel_rfl) (by simp) ?_
   refine AllReadyH.cons rfl (fun K hK => ?_) ?_
   ·obtain ⟨v, hv, ho⟩ := H.z1 rfl
    refine aK rfl (.tmp 39) (.tmp 41) 23 rfl w4.heap.size 44 i3 (.agg #[.string ⟨#[]⟩, .slice none 0 0]) 2 40 Tryz.underlying23 hi3 hz03 hz13 hz23 rfl (by decide) v yt.length _ (aT hv) ho za xs.length zcap (xs.flatMap aJ) ((bf (H.far 41 (by decide) (by decide) (by decide) (by decide) (by decide) (by decide) (by decide) (by decide) (by decide) (by decide) (by decide))).trans E41.out) (show (List.flatMap aJ xs).length = xs.length * 2 from aY (cells := aJ) (fun _ => rfl) _) (bG (z := 2) (cells := aJ) (fun _ => rfl) (by decide) (au G4.out.zv.rd (af H.bel))) (bU G4.out.zv.rd) (bg nQ _) (by unfold maxLen; omega) (by omega) H.hM ?_
    intro v' w' hown hg
    exact hK.out _ _ (KS.out _ (af (nA hX hB H ho (by simpa [aB, aA, bn] using hown) hg).bel)) fun _ => FW _ _ _ _ (K41100 _ _ (nA hX hB H ho (by simpa [aB, aA, bn] using hown) hg))
   refine AllReadyH.cons rfl (fun K hK => ?_) ?_
   ·exact aI rfl 24 35 rfl i4 Tryz.underlying24 hi4 (hK.out _ _ (KS.out _ (af (bI (by omega) hX hB H).bel)) fun _ => FW _ _ _ _ (K31110 _ _ (bI (by omega) hX hB H)))
   refine AllReadyH.cons rfl (fun K hK => ?_) AllReadyH.nil
   ·go_simp
    exact hK.out _ _ (KS.out _ (af (bW hX hB H).bel)) fun _ => FW _ _ _ _ (K31101 _ _ (bW hX hB H)))
  have K01111 : ∀ a w, MB s.rules t.rules yt xs s.links t.links 29 11 a0 w4.heap.size w4.drew 0 true true true true a w → W 8 #[true, true, true, false, true, true, false, true, true, true, false, true, true, false, true, true, true, false, true, true, false, false, true, false] a w := fun a wz H => UW _ _ _ _ (by
   refine rdH 3 rfl fun K hK => ?_
   ·obtain ⟨v, hv, ho⟩ := H.r0 rfl rfl
    refine aK rfl (.tmp 29) (.tmp 31) 22 rfl w4.heap.size 40 i1 (.agg #[.string ⟨#[]⟩, .int .i64 0, .int .i64 0, .int .i64 0, .int .i64 0, .int .i64 0, .int .i64 0, .int .i64 0, .int .i64 0, .int .i64 0, .string ⟨#[]⟩]) 11 104 Tryz.underlying22 hi1 hz01 hz11 hz21 rfl (by decide) v 0 [] (aT hv) ho ra s.rules.length rcap (s.rules.flatMap ah) ((bf (H.far 31 (by decide) (by decide) (by decide) (by decide) (by decide) (by decide) (by decide) (by decide) (by decide) (by decide) (by decide))).trans E31.out) (show (List.flatMap ah s.rules).length = s.rules.length * 11 from aY (cells := ah) (fun _ => rfl) _) (bG (z := 11) (cells := ah) (fun _ => rfl) (by decide) (au G4.out.rules (af H.bel))) (bU G4.out.rules) (bg dL _) (by unfold maxLen; omega) (by omega) H.hM ?_
    intro v' w' hown hg
    exact hK.out _ _ (KS.out _ (af (jB hX hB H ho (by simpa [aB, aA, bn] using hown) hg).bel)) fun _ => FW _ _ _ _ (K11111 _ _ (jB hX hB H ho (by simpa [aB, aA, bn] using hown) hg)))
  have K11011 : ∀ a w, MB s.rules t.rules yt xs s.links t.links 29 11 a0 w4.heap.size w4.drew 1 true false true true a w → W 8 #[true, true, true, true, true, true, false, false, true, true, false, true, true, false, true, true, true, false, true, true, false, false, true, false] a w := fun a wz H => UW _ _ _ _ (by
   refine wpAnyH_ready (rs := [6, 7]) (by kernel_rfl) (by simp) ?_
   refine AllReadyH.cons rfl (fun K hK => ?_) ?_
   ·obtain ⟨v, hv, ho⟩ := H.r1 rfl
    refine aK rfl (.tmp 32) (.tmp 34) 22 rfl w4.heap.size 40 i1 (.agg #[.string ⟨#[]⟩, .int .i64 0, .int .i64 0, .int .i64 0, .int .i64 0, .int .i64 0, .int .i64 0, .int .i64 0, .int .i64 0, .int .i64 0, .string ⟨#[]⟩]) 11 104 Tryz.underlying22 hi1 hz01 hz11 hz21 rfl (by decide) v s.rules.length _ (aT hv) ho rb t.rules.length rdap (t.rules.flatMap ah) ((bf (H.far 34 (by decide) (by decide) (by decide) (by decide) (by decide) (by decide) (by decide) (by decide) (by decide) (by decide) (by decide))).trans E34.out) (show (List.flatMap ah t.rules).length = t.rules.length * 11 from aY (cells := ah) (fun _ => rfl) _) (bG (z := 11) (cells := ah) (fun _ => rfl) (by decide) (au G24.out.rules (af H.bel))) (bU G24.out.rules) (bg dL _) (by unfold maxLen; omega) (by omega) H.hM ?_
    intro v' w' hown hg
    exact hK.out _ _ (KS.out _ (af (jC hX hB H ho (by simpa [aB, aA, bn] using hown) hg).bel)) fun _ => FW _ _ _ _ (K21011 _ _ (jC hX hB H ho (by simpa [aB, aA, bn] using hown) hg))
   refine AllReadyH.cons rfl (fun K hK => ?_) AllReadyH.nil
   ·exact aI rfl 23 44 rfl i3 Tryz.underlying23 hi3 (hK.out _ _ (KS.out _ (af (dX (by omega) hX hB H).bel)) fun _ => FW _ _ _ _ (K11111 _ _ (dX (by omega) hX hB H))))
  have K11101 : ∀ a w, MB s.rules t.rules yt xs s.links t.links 29 11 a0 w4.heap.size w4.drew 1 true true false true a w → W 8 #[true, true, true, true, true, true, false, true, true, true, false, true, true, false, false, true, true, false, true, true, false, false, true, false] a w := fun a wz H => UW _ _ _ _ (by
   refine wpAnyH_ready (rs := [6, 14]) (by kernel_rfl) (by simp) ?_
   refine AllReadyH.cons rfl (fun K hK => ?_) ?_
   ·obtain ⟨v, hv, ho⟩ := H.r1 rfl
    refine aK rfl (.tmp 32) (.tmp 34) 22 rfl w4.heap.size 40 i1 (.agg #[.string ⟨#[]⟩, .int .i64 0, .int .i64 0, .int .i64 0, .int .i64 0, .int .i64 0, .int .i64 0, .int .i64 0, .int .i64 0, .int .i64 0, .string ⟨#[]⟩]) 11 104 Tryz.underlying22 hi1 hz01 hz11 hz21 rfl (by decide) v s.rules.length _ (aT hv) ho rb t.rules.length rdap (t.rules.flatMap ah) ((bf (H.far 34 (by decide) (by decide) (by decide) (by decide) (by decide) (by decide) (by decide) (by decide) (by decide) (by decide) (by decide))).trans E34.out) (show (List.flatMap ah t.rules).length = t.rules.length * 11 from aY (cells := ah) (fun _ => rfl) _) (bG (z := 11) (cells := ah) (fun _ => rfl) (by decide) (au G24.out.rules (af H.bel))) (bU G24.out.rules) (bg dL _) (by unfold maxLen; omega) (by omega) H.hM ?_
    intro v' w' hown hg
    exact hK.out _ _ (KS.out _ (af (jC hX hB H ho (by simpa [aB, aA, bn] using hown) hg).bel)) fun _ => FW _ _ _ _ (K21101 _ _ (jC hX hB H ho (by simpa [aB, aA, bn] using hown) hg))
   refine AllReadyH.cons rfl (fun K hK => ?_) AllReadyH.nil
   ·exact aI rfl 24 35 rfl i4 Tryz.underlying24 hi4 (hK.out _ _ (KS.out _ (af (bI (by omega) hX hB H).bel)) fun _ => FW _ _ _ _ (K11111 _ _ (bI (by omega) hX hB H))))
  have K11110 : ∀ a w, MB s.rules t.rules yt xs s.links t.links 29 11 a0 w4.heap.size w4.drew 1 true true true false a w → W 8 #[true, true, true, true, true, true, false, true, true, true, false, true, true, false, true, true, true, false, true, true, false, false, false, false] a w := fun a wz H => UW _ _ _ _ (by
   refine wpAnyH_ready (rs := [6, 22]) (by kernel_rfl) (by simp) ?_
   refine AllReadyH.cons rfl (fun K hK => ?_) ?_
   ·obtain ⟨v, hv, ho⟩ := H.r1 rfl
    refine aK rfl (.tmp 32) (.tmp 34) 22 rfl w4.heap.size 40 i1 (.agg #[.string ⟨#[]⟩, .int .i64 0, .int .i64 0, .int .i64 0, .int .i64 0, .int .i64 0, .int .i64 0, .int .i64 0, .int .i64 0, .int .i64 0, .string ⟨#[]⟩]) 11 104 Tryz.underlying22 hi1 hz01 hz11 hz21 rfl (by decide) v s.rules.length _ (aT hv) ho rb t.rules.length rdap (t.rules.flatMap ah) ((bf (H.far 34 (by decide) (by decide) (by decide) (by decide) (by decide) (by decide) (by decide) (by decide) (by decide) (by decide) (by decide))).trans E34.out) (show (List.flatMap ah t.rules).length = t.rules.length * 11 from aY (cells := ah) (fun _ => rfl) _) (bG (z := 11) (cells := ah) (fun _ => rfl) (by decide) (au G24.out.rules (af H.bel))) (bU G24.out.rules) (bg dL _) (by unfold maxLen; omega) (by omega) H.hM ?_
    intro v' w' hown hg
    exact hK.out _ _ (KS.out _ (af (jC hX hB H ho (by simpa [aB, aA, bn] using hown) hg).bel)) fun _ => FW _ _ _ _ (K21110 _ _ (jC hX hB H ho (by simpa [aB, aA, bn] using hown) hg))
   refine AllReadyH.cons rfl (fun K hK => ?_) AllReadyH.nil
   ·go_simp
    exact hK.out _ _ (KS.out _ (af (bW hX hB H).bel)) fun _ => FW _ _ _ _ (K11111 _ _ (bW hX hB H)))
  have K21001 : ∀ a w, MB s.rules t.rules yt xs s.links t.links 29 11 a0 w4.heap.size w4.drew 2 true false false true a w → W 8 #[true, true, true, true, true, true, true, false, true, true, false, true, true, false, false, true, true, false, true, true, false, false, true, false] a w := fun a wz H => UW _ _ _ _ (by
   refine wpAnyH_ready (rs := [7, 14]) (by kernel_rfl) (by simp) ?_
   refine AllReadyH.cons rfl (fun K hK => ?_) ?_
   ·exact aI rfl 23 44 rfl i3 Tryz.underlying23 hi3 (hK.out _ _ (KS.out _ (af (dX (by omega) hX hB H).bel)) fun _ => FW _ _ _ _ (K21101 _ _ (dX (by omega) hX hB H)))
   refine AllReadyH.cons rfl (fun K hK => ?_) AllReadyH.nil
   ·exact aI rfl 24 35 rfl i4 Tryz.underlying24 hi4 (hK.out _ _ (KS.out _ (af (bI (by omega) hX hB H).bel)) fun _ => FW _ _ _ _ (K21011 _ _ (bI (by omega) hX hB H))))
  have K21010 : ∀ a w, MB s.rules t.rules yt xs s.links t.links 29 11 a0 w4.heap.size w4.drew 2 true false true false a w → W 8 #[true, true, true, true, true, true, true, false, true, true, false, true, true, false, true, true, true, false, true, true, false, false, false, false] a w := fun a wz H => UW _ _ _ _ (by
   refine wpAnyH_ready (rs := [7, 22]) (by kernel_rfl) (by simp) ?_
   refine AllReadyH.cons rfl (fun K hK => ?_) ?_
   ·exact aI rfl 23 44 rfl i3 Tryz.underlying23 hi3 (hK.out _ _ (KS.out _ (af (dX (by omega) hX hB H).bel)) fun _ => FW _ _ _ _ (K21110 _ _ (dX (by omega) hX hB H)))
   refine AllReadyH.cons rfl (fun K hK => ?_) AllReadyH.nil
   ·go_simp
    exact hK.out _ _ (KS.out _ (af (bW hX hB H).bel)) fun _ => FW _ _ _ _ (K21011 _ _ (bW hX hB H)))
  have K21100 : ∀ a w, MB s.rules t.rules yt xs s.links t.links 29 11 a0 w4.heap.size w4.drew 2 true true false false a w → W 8 #[true, true, true, true, true, true, true, true, true, true, false, true, true, false, false, true, true, false, true, true, false, false, false, false] a w := fun a wz H => UW _ _ _ _ (by
   refine wpAnyH_ready (rs := [10, 14, 22]) (by kernel_rfl) (by simp) ?_
   refine AllReadyH.cons rfl (fun K hK => ?_) ?_
   ·obtain ⟨v, hv, ho⟩ := H.z0 (by omega) rfl
    refine aK rfl (.tmp 36) (.tmp 38) 23 rfl w4.heap.size 44 i3 (.agg #[.string ⟨#[]⟩, .slice none 0 0]) 2 40 Tryz.underlying23 hi3 hz03 hz13 hz23 rfl (by decide) v 0 [] (aT hv) ho zb yt.length zdap (yt.flatMap aJ) ((bf (H.far 38 (by decide) (by decide) (by decide) (by decide) (by decide) (by decide) (by decide) (by decide) (by decide) (by decide) (by decide))).trans E38.out) (show (List.flatMap aJ yt).length = yt.length * 2 from aY (cells := aJ) (fun _ => rfl) _) (bG (z := 2) (cells := aJ) (fun _ => rfl) (by decide) (au G24.out.zv.rd (af H.bel))) (bU G24.out.zv.rd) (bg nQ _) (by unfold maxLen; omega) (by omega) H.hM ?_
    intro v' w' hown hg
    exact hK.out _ _ (KS.out _ (af (nz hX hB H ho (by simpa [aB, aA, bn] using hown) hg).bel)) fun _ => FW _ _ _ _ (K31100 _ _ (nz hX hB H ho (by simpa [aB, aA, bn] using hown) hg))
   refine AllReadyH.cons rfl (fun K hK => ?_) ?_
   ·exact aI rfl 24 35 rfl i4 Tryz.underlying24 hi4 (hK.out _ _ (KS.out _ (af (bI (by omega) hX hB H).bel)) fun _ => FW _ _ _ _ (K21110 _ _ (bI (by omega) hX hB H)))
   refine AllReadyH.cons rfl (fun K hK => ?_) AllReadyH.nil
   ·go_simp
    exact hK.out _ _ (KS.out _ (af (bW hX hB H).bel)) fun _ => FW _ _ _ _ (K21101 _ _ (bW hX hB H)))
  have K00111 : ∀ a w, MB s.rules t.rules yt xs s.links t.links 29 11 a0 w4.heap.size w4.drew 0 false true true true a w → W 9 #[false, true, true, false, true, true, false, true, true, true, false, true, true, false, true, true, true, false, true, true, false, false, true, false] a w := fun a wz H => UW _ _ _ _ (by
   refine rdH 0 rfl fun K hK => ?_
   ·exact aI rfl 22 40 rfl i1 Tryz.underlying22 hi1 (hK.out _ _ (KS.out _ (af (jD hX hB H).bel)) fun _ => FW _ _ _ _ (K01111 _ _ (jD hX hB H))))
  have K01011 : ∀ a w, MB s.rules t.rules yt xs s.links t.links 29 11 a0 w4.heap.size w4.drew 0 true false true true a w → W 9 #[true, true, true, false, true, true, false, false, true, true, false, true, true, false, true, true, true, false, true, true, false, false, true, false] a w := fun a wz H => UW _ _ _ _ (by
   refine wpAnyH_ready (rs := [3, 7]) (by kernel_rfl) (by simp) ?_
   refine AllReadyH.cons rfl (fun K hK => ?_) ?_
   ·obtain ⟨v, hv, ho⟩ := H.r0 rfl rfl
    refine aK rfl (.tmp 29) (.tmp 31) 22 rfl w4.heap.size 40 i1 (.agg #[.string ⟨#[]⟩, .int .i64 0, .int .i64 0, .int .i64 0, .int .i64 0, .int .i64 0, .int .i64 0, .int .i64 0, .int .i64 0, .int .i64 0, .string ⟨#[]⟩]) 11 104 Tryz.underlying22 hi1 hz01 hz11 hz21 rfl (by decide) v 0 [] (aT hv) ho ra s.rules.length rcap (s.rules.flatMap ah) ((bf (H.far 31 (by decide) (by decide) (by decide) (by decide) (by decide) (by decide) (by decide) (by decide) (by decide) (by decide) (by decide))).trans E31.out) (show (List.flatMap ah s.rules).length = s.rules.length * 11 from aY (cells := ah) (fun _ => rfl) _) (bG (z := 11) (cells := ah) (fun _ => rfl) (by decide) (au G4.out.rules (af H.bel))) (bU G4.out.rules) (bg dL _) (by unfold maxLen; omega) (by omega) H.hM ?_
    intro v' w' hown hg
    exact hK.out _ _ (KS.out _ (af (jB hX hB H ho (by simpa [aB, aA, bn] using hown) hg).bel)) fun _ => FW _ _ _ _ (K11011 _ _ (jB hX hB H ho (by simpa [aB, aA, bn] using hown) hg))
   refine AllReadyH.cons rfl (fun K hK => ?_) AllReadyH.nil
   ·exact aI rfl 23 44 rfl i3 Tryz.underlying23 hi3 (hK.out _ _ (KS.out _ (af (dX (by omega) hX hB H).bel)) fun _ => FW _ _ _ _ (K01111 _ _ (dX (by omega) hX hB H))))
  have K01101 : ∀ a w, MB s.rules t.rules yt xs s.links t.links 29 11 a0 w4.heap.size w4.drew 0 true true false true a w → W 9 #[true, true, true, false, true, true, false, true, true, true, false, true, true, false, false, true, true, false, true, true, false, false, true, false] a w := fun a wz H => UW _ _ _ _ (by
   refine wpAnyH_ready (rs := [3, 14]) (by kernel_rfl) (by simp) ?_
   refine AllReadyH.cons rfl (fun K hK => ?_) ?_
   ·obtain ⟨v, hv, ho⟩ := H.r0 rfl rfl
    refine aK rfl (.tmp 29) (.tmp 31) 22 rfl w4.heap.size 40 i1 (.agg #[.string ⟨#[]⟩, .int .i64 0, .int .i64 0, .int .i64 0, .int .i64 0, .int .i64 0, .int .i64 0, .int .i64 0, .int .i64 0, .int .i64 0, .string ⟨#[]⟩]) 11 104 Tryz.underlying22 hi1 hz01 hz11 hz21 rfl (by decide) v 0 [] (aT hv) ho ra s.rules.length rcap (s.rules.flatMap ah) ((bf (H.far 31 (by decide) (by decide) (by decide) (by decide) (by decide) (by decide) (by decide) (by decide) (by decide) (by decide) (by decide))).trans E31.out) (show (List.flatMap ah s.rules).length = s.rules.length * 11 from aY (cells := ah) (fun _ => rfl) _) (bG (z := 11) (cells := ah) (fun _ => rfl) (by decide) (au G4.out.rules (af H.bel))) (bU G4.out.rules) (bg dL _) (by unfold maxLen; omega) (by omega) H.hM ?_
    intro v' w' hown hg
    exact hK.out _ _ (KS.out _ (af (jB hX hB H ho (by simpa [aB, aA, bn] using hown) hg).bel)) fun _ => FW _ _ _ _ (K11101 _ _ (jB hX hB H ho (by simpa [aB, aA, bn] using hown) hg))
   refine AllReadyH.cons rfl (fun K hK => ?_) AllReadyH.nil
   ·exact aI rfl 24 35 rfl i4 Tryz.underlying24 hi4 (hK.out _ _ (KS.out _ (af (bI (by omega) hX hB H).bel)) fun _ => FW _ _ _ _ (K01111 _ _ (bI (by omega) hX hB H))))
  have K01110 : ∀ a w, MB s.rules t.rules yt xs s.links t.links 29 11 a0 w4.heap.size w4.drew 0 true true true false a w → W 9 #[true, true, true, false, true, true, false, true, true, true, false, true, true, false, true, true, true, false, true, true, false, false, false, false] a w := fun a wz H => UW _ _ _ _ (by
   refine wpAnyH_ready (rs := [3, 22]) (by kernel_rfl) (by simp) ?_
   refine AllReadyH.cons rfl (fun K hK => ?_) ?_
   ·obtain ⟨v, hv, ho⟩ := H.r0 rfl rfl
    refine aK rfl (.tmp 29) (.tmp 31) 22 rfl w4.heap.size 40 i1 (.agg #[.string ⟨#[]⟩, .int .i64 0, .int .i64 0, .int .i64 0, .int .i64 0, .int .i64 0, .int .i64 0, .int .i64 0, .int .i64 0, .int .i64 0, .string ⟨#[]⟩]) 11 104 Tryz.underlying22 hi1 hz01 hz11 hz21 rfl (by decide) v 0 [] (aT hv) ho ra s.rules.length rcap (s.rules.flatMap ah) ((bf (H.far 31 (by decide) (by decide) (by decide) (by decide) (by decide) (by decide) (by decide) (by decide) (by decide) (by decide) (by decide))).trans E31.out) (show (List.flatMap ah s.rules).length = s.rules.length * 11 from aY (cells := ah) (fun _ => rfl) _) (bG (z := 11) (cells := ah) (fun _ => rfl) (by decide) (au G4.out.rules (af H.bel))) (bU G4.out.rules) (bg dL _) (by unfold maxLen; omega) (by omega) H.hM ?_
    intro v' w' hown hg
    exact hK.out _ _ (KS.out _ (af (jB hX hB H ho (by simpa [aB, aA, bn] using hown) hg).bel)) fun _ => FW _ _ _ _ (K11110 _ _ (jB hX hB H ho (by simpa [aB, aA, bn] using hown) hg))
   refine AllReadyH.cons rfl (fun K hK => ?_) AllReadyH.nil
   ·go_simp
    exact hK.out _ _ (KS.out _ (af (bW hX hB H).bel)) fun _ => FW _ _ _ _ (K01111 _ _ (bW hX hB H)))
  have K11001 : ∀ a w, MB s.rules t.rules yt xs s.links t.links 29 11 a0 w4.heap.size w4.drew 1 true false false true a w → W 9 #[true, true, true, true, true, true, false, false, true, true, false, true, true, false, false, true, true, false, true, true, false, false, true, false] a w := fun a wz H => UW _ _ _ _ (by
   refine wpAnyH_ready (rs := [6, 7, 14]) (by kernel_rfl) (by simp) ?_
   refine AllReadyH.cons rfl (fun K hK => ?_) ?_
   ·obtain ⟨v, hv, ho⟩ := H.r1 rfl
    refine aK rfl (.tmp 32) (.tmp 34) 22 rfl w4.heap.size 40 i1 (.agg #[.string ⟨#[]⟩, .int .i64 0, .int .i64 0, .int .i64 0, .int .i64 0, .int .i64 0, .int .i64 0, .int .i64 0, .int .i64 0, .int .i64 0, .string ⟨#[]⟩]) 11 104 Tryz.underlying22 hi1 hz01 hz11 hz21 rfl (by decide) v s.rules.length _ (aT hv) ho rb t.rules.length rdap (t.rules.flatMap ah) ((bf (H.far 34 (by decide) (by decide) (by decide) (by decide) (by decide) (by decide) (by decide) (by decide) (by decide) (by decide) (by decide))).trans E34.out) (show (List.flatMap ah t.rules).length = t.rules.length * 11 from aY (cells := ah) (fun _ => rfl) _) (bG (z := 11) (cells := ah) (fun _ => rfl) (by decide) (au G24.out.rules (af H.bel))) (bU G24.out.rules) (bg dL _) (by unfold maxLen; omega) (by omega) H.hM ?_
    intro v' w' hown hg
    exact hK.out _ _ (KS.out _ (af (jC hX hB H ho (by simpa [aB, aA, bn] using hown) hg).bel)) fun _ => FW _ _ _ _ (K21001 _ _ (jC hX hB H ho (by simpa [aB, aA, bn] using hown) hg))
   refine AllReadyH.cons rfl (fun K hK => ?_) ?_
   ·exact aI rfl 23 44 rfl i3 Tryz.underlying23 hi3 (hK.out _ _ (KS.out _ (af (dX (by omega) hX hB H).bel)) fun _ => FW _ _ _ _ (K11101 _ _ (dX (by omega) hX hB H)))
   refine AllReadyH.cons rfl (fun K hK => ?_) AllReadyH.nil
   ·exact aI rfl 24 35 rfl i4 Tryz.underlying24 hi4 (hK.out _ _ (KS.out _ (af (bI (by omega) hX hB H).bel)) fun _ => FW _ _ _ _ (K11011 _ _ (bI (by omega) hX hB H))))
  have K11010 : ∀ a w, MB s.rules t.rules yt xs s.links t.links 29 11 a0 w4.heap.size w4.drew 1 true false true false a w → W 9 #[true, true, true, true, true, true, false, false, true, true, false, true, true, false, true, true, true, false, true, true, false, false, false, false] a w := fun a wz H => UW _ _ _ _ (by
   refine wpAnyH_ready (rs := [6, 7, 22]) (by kernel_rfl) (by simp) ?_
   refine AllReadyH.cons rfl (fun K hK => ?_) ?_
   ·obtain ⟨v, hv, ho⟩ := H.r1 rfl
    refine aK rfl (.tmp 32) (.tmp 34) 22 rfl w4.heap.size 40 i1 (.agg #[.string ⟨#[]⟩, .int .i64 0, .int .i64 0, .int .i64 0, .int .i64 0, .int .i64 0, .int .i64 0, .int .i64 0, .int .i64 0, .int .i64 0, .string ⟨#[]⟩]) 11 104 Tryz.underlying22 hi1 hz01 hz11 hz21 rfl (by decide) v s.rules.length _ (aT hv) ho rb t.rules.length rdap (t.rules.flatMap ah) ((bf (H.far 34 (by decide) (by decide) (by decide) (by decide) (by decide) (by decide) (by decide) (by decide) (by decide) (by decide) (by decide))).trans E34.out) (show (List.flatMap ah t.rules).length = t.rules.length * 11 from aY (cells := ah) (fun _ => rfl) _) (bG (z := 11) (cells := ah) (fun _ => rfl) (by decide) (au G24.out.rules (af H.bel))) (bU G24.out.rules) (bg dL _) (by unfold maxLen; omega) (by omega) H.hM ?_
    intro v' w' hown hg
    exact hK.out _ _ (KS.out _ (af (jC hX hB H ho (by simpa [aB, aA, bn] using hown) hg).bel)) fun _ => FW _ _ _ _ (K21010 _ _ (jC hX hB H ho (by simpa [aB, aA, bn] using hown) hg))
   refine AllReadyH.cons rfl (fun K hK => ?_) ?_
   ·exact aI rfl 23 44 rfl i3 Tryz.underlying23 hi3 (hK.out _ _ (KS.out _ (af (dX (by omega) hX hB H).bel)) fun _ => FW _ _ _ _ (K11110 _ _ (dX (by omega) hX hB H)))
   refine AllReadyH.cons rfl (fun K hK => ?_) AllReadyH.nil
   ·go_simp
    exact hK.out _ _ (KS.out _ (af (bW hX hB H).bel)) fun _ => FW _ _ _ _ (K11011 _ _ (bW hX hB H)))
  have K11100 : ∀ a w, MB s.rules t.rules yt xs s.links t.links 29 11 a0 w4.heap.size w4.drew 1 true true false false a w → W 9 #[true, true, true, true, true, true, false, true, true, true, false, true, true, false, false, true, true, false, true, true, false, false, false, false] a w := fun a wz H => UW _ _ _ _ (by
   refine wpAnyH_ready (rs := [6, 14, 22]) (by kernel_rfl) (by simp) ?_
   refine AllReadyH.cons rfl (fun K hK => ?_) ?_
   ·obtain ⟨v, hv, ho⟩ := H.r1 rfl
    refine aK rfl (.tmp 32) (.tmp 34) 22 rfl w4.heap.size 40 i1 (.agg #[.string ⟨#[]⟩, .int .i64 0, .int .i64 0, .int .i64 0, .int .i64 0, .int .i64 0, .int .i64 0, .int .i64 0, .int .i64 0, .int .i64 0, .string ⟨#[]⟩]) 11 104 Tryz.underlying22 hi1 hz01 hz11 hz21 rfl (by decide) v s.rules.length _ (aT hv) ho rb t.rules.length rdap (t.rules.flatMap ah) ((bf (H.far 34 (by decide) (by decide) (by decide) (by decide) (by decide) (by decide) (by decide) (by decide) (by decide) (by decide) (by decide))).trans E34.out) (show (List.flatMap ah t.rules).length = t.rules.length * 11 from aY (cells := ah) (fun _ => rfl) _) (bG (z := 11) (cells := ah) (fun _ => rfl) (by decide) (au G24.out.rules (af H.bel))) (bU G24.out.rules) (bg dL _) (by unfold maxLen; omega) (by omega) H.hM ?_
    intro v' w' hown hg
    exact hK.out _ _ (KS.out _ (af (jC hX hB H ho (by simpa [aB, aA, bn] using hown) hg).bel)) fun _ => FW _ _ _ _ (K21100 _ _ (jC hX hB H ho (by simpa [aB, aA, bn] using hown) hg))
   refine AllReadyH.cons rfl (fun K hK => ?_) ?_
   ·exact aI rfl 24 35 rfl i4 Tryz.underlying24 hi4 (hK.out _ _ (KS.out _ (af (bI (by omega) hX hB H).bel)) fun _ => FW _ _ _ _ (K11110 _ _ (bI (by omega) hX hB H)))
   refine AllReadyH.cons rfl (fun K hK => ?_) AllReadyH.nil
   ·go_simp
    exact hK.out _ _ (KS.out _ (af (bW hX hB H).bel)) fun _ => FW _ _ _ _ (K11101 _ _ (bW hX hB H)))
  have K21000 : ∀ a w, MB s.rules t.rules yt xs s.links t.links 29 11 a0 w4.heap.size w4.drew 2 true false false false a w → W 9 #[true, true, true, true, true, true, true, false, true, true, false, true, true, false, false, true, true, false, true, true, false, false, false, false] a w := fun a wz H => UW _ _ _ _ (by
   refine wpAnyH_ready (rs := [7, 14, 22]) (by kernel_rfl) (by simp) ?_
   refine AllReadyH.cons rfl (fun K hK => ?_) ?_
   ·exact aI rfl 23 44 rfl i3 Tryz.underlying23 hi3 (hK.out _ _ (KS.out _ (af (dX (by omega) hX hB H).bel)) fun _ => FW _ _ _ _ (K21100 _ _ (dX (by omega) hX hB H)))
   refine AllReadyH.cons rfl (fun K hK => ?_) ?_
   ·exact aI rfl 24 35 rfl i4 Tryz.underlying24 hi4 (hK.out _ _ (KS.out _ (af (bI (by omega) hX hB H).bel)) fun _ => FW _ _ _ _ (K21010 _ _ (bI (by omega) hX hB H)))
   refine AllReadyH.cons rfl (fun K hK => ?_) AllReadyH.nil
   ·go_simp
    exact hK.out _ _ (KS.out _ (af (bW hX hB H).bel)) fun _ => FW _ _ _ _ (K21001 _ _ (bW hX hB H)))
  have K00011 : ∀ a w, MB s.rules t.rules yt xs s.links t.links 29 11 a0 w4.heap.size w4.drew 0 false false true true a w → W 10 #[false, true, true, false, true, true, false, false, true, true, false, true, true, false, true, true, true, false, true, true, false, false, true, false] a w := fun a wz H => UW _ _ _ _ (by
   refine wpAnyH_ready (rs := [0, 7]) (by kernel_rfl) (by simp) ?_
   refine AllReadyH.cons rfl (fun K hK => ?_) ?_
   ·exact aI rfl 22 40 rfl i1 Tryz.underlying22 hi1 (hK.out _ _ (KS.out _ (af (jD hX hB H).bel)) fun _ => FW _ _ _ _ (K01011 _ _ (jD hX hB H)))
   refine AllReadyH.cons rfl (fun K hK => ?_) AllReadyH.nil
   ·exact aI rfl 23 44 rfl i3 Tryz.underlying23 hi3 (hK.out _ _ (KS.out _ (af (dX (by omega) hX hB H).bel)) fun _ => FW _ _ _ _ (K00111 _ _ (dX (by omega) hX hB H))))
  have K00101 : ∀ a w, MB s.rules t.rules yt xs s.links t.links 29 11 a0 w4.heap.size w4.drew 0 false true false true a w → W 10 #[false, true, true, false, true, true, false, true, true, true, false, true, true, false, false, true, true, false, true, true, false, false, true, false] a w := fun a wz H => UW _ _ _ _ (by
   refine wpAnyH_ready (rs := [0, 14]) (by kernel_rfl) (by simp) ?_
   refine AllReadyH.cons rfl (fun K hK => ?_) ?_
   ·exact aI rfl 22 40 rfl i1 Tryz.underlying22 hi1 (hK.out _ _ (KS.out _ (af (jD hX hB H).bel)) fun _ => FW _ _ _ _ (K01101 _ _ (jD hX hB H)))
   refine AllReadyH.cons rfl (fun K hK => ?_) AllReadyH.nil
   ·exact aI rfl 24 35 rfl i4 Tryz.underlying24 hi4 (hK.out _ _ (KS.out _ (af (bI (by omega) hX hB H).bel)) fun _ => FW _ _ _ _ (K00111 _ _ (bI (by omega) hX hB H))))
  have K00110 : ∀ a w, MB s.rules t.rules yt xs s.links t.links 29 11 a0 w4.heap.size w4.drew 0 false true true false a w → W 10 #[false, true, true, false, true, true, false, true, true, true, false, true, true, false, true, true, true, false, true, true, false, false, false, false] a w := fun a wz H => UW _ _ _ _ (by
   refine wpAnyH_ready (rs := [0, 22]) (by kernel_rfl) (by simp) ?_
   refine AllReadyH.cons rfl (fun K hK => ?_) ?_
   ·exact aI rfl 22 40 rfl i1 Tryz.underlying22 hi1 (hK.out _ _ (KS.out _ (af (jD hX hB H).bel)) fun _ => FW _ _ _ _ (K01110 _ _ (jD hX hB H)))
   refine AllReadyH.cons rfl (fun K hK => ?_) AllReadyH.nil
   ·go_simp
    exact hK.out _ _ (KS.out _ (af (bW hX hB H).bel)) fun _ => FW _ _ _ _ (K00111 _ _ (bW hX hB H)))
  have K01001 : ∀ a w, MB s.rules t.rules yt xs s.links t.links 29 11 a0 w4.heap.size w4.drew 0 true false false true a w → W 10 #[true, true, true, false, true, true, false, false, true, true, false, true, true, false, false, true, true, false, true, true, false, false, true, false] a w := fun a wz H => UW _ _ _ _ (by
   refine wpAnyH_ready (rs := [3, 7, 14]) (by kernel_rfl) (by simp) ?_
   refine AllReadyH.cons rfl (fun K hK => ?_) ?_
   ·obtain ⟨v, hv, ho⟩ := H.r0 rfl rfl
    refine aK rfl (.tmp 29) (.tmp 31) 22 rfl w4.heap.size 40 i1 (.agg #[.string ⟨#[]⟩, .int .i64 0, .int .i64 0, .int .i64 0, .int .i64 0, .int .i64 0, .int .i64 0, .int .i64 0, .int .i64 0, .int .i64 0, .string ⟨#[]⟩]) 11 104 Tryz.underlying22 hi1 hz01 hz11 hz21 rfl (by decide) v 0 [] (aT hv) ho ra s.rules.length rcap (s.rules.flatMap ah) ((bf (H.far 31 (by decide) (by decide) (by decide) (by decide) (by decide) (by decide) (by decide) (by decide) (by decide) (by decide) (by decide))).trans E31.out) (show (List.flatMap ah s.rules).length = s.rules.length * 11 from aY (cells := ah) (fun _ => rfl) _) (bG (z := 11) (cells := ah) (fun _ => rfl) (by decide) (au G4.out.rules (af H.bel))) (bU G4.out.rules) (bg dL _) (by unfold maxLen; omega) (by omega) H.hM ?_
    intro v' w' hown hg
    exact hK.out _ _ (KS.out _ (af (jB hX hB H ho (by simpa [aB, aA, bn] using hown) hg).bel)) fun _ => FW _ _ _ _ (K11001 _ _ (jB hX hB H ho (by simpa [aB, aA, bn] using hown) hg))
   refine AllReadyH.cons rfl (fun K hK => ?_) ?_
   ·exact aI rfl 23 44 rfl i3 Tryz.underlying23 hi3 (hK.out _ _ (KS.out _ (af (dX (by omega) hX hB H).bel)) fun _ => FW _ _ _ _ (K01101 _ _ (dX (by omega) hX hB H)))
   refine AllReadyH.cons rfl (fun K hK => ?_) AllReadyH.nil
   ·exact aI rfl 24 35 rfl i4 Tryz.underlying24 hi4 (hK.out _ _ (KS.out _ (af (bI (by omega) hX hB H).bel)) fun _ => FW _ _ _ _ (K01011 _ _ (bI (by omega) hX hB H))))
  have K01010 : ∀ a w, MB s.rules t.rules yt xs s.links t.links 29 11 a0 w4.heap.size w4.drew 0 true false true false a w → W 10 #[true, true, true, false, true, true, false, false, true, true, false, true, true, false, true, true, true, false, true, true, false, false, false, false] a w := fun a wz H => UW _ _ _ _ (by
   refine wpAnyH_ready (rs := [3, 7, 22]) (by kernel_rfl) (by simp) ?_
   refine AllReadyH.cons rfl (fun K hK => ?_) ?_
   ·obtain ⟨v, hv, ho⟩ := H.r0 rfl rfl
    refine aK rfl (.tmp 29) (.tmp 31) 22 rfl w4.heap.size 40 i1 (.agg #[.string ⟨#[]⟩, .int .i64 0, .int .i64 0, .int .i64 0, .int .i64 0, .int .i64 0, .int .i64 0, .int .i64 0, .int .i64 0, .int .i64 0, .string ⟨#[]⟩]) 11 104 Tryz.underlying22 hi1 hz01 hz11 hz21 rfl (by decide) v 0 [] (aT hv) ho ra s.rules.length rcap (s.rules.flatMap ah) ((bf (H.far 31 (by decide) (by decide) (by decide) (by decide) (by decide) (by decide) (by decide) (by decide) (by decide) (by decide) (by decide))).trans E31.out) (show (List.flatMap ah s.rules).length = s.rules.length * 11 from aY (cells := ah) (fun _ => rfl) _) (bG (z := 11) (cells := ah) (fun _ => rfl) (by decide) (au G4.out.rules (af H.bel))) (bU G4.out.rules) (bg dL _) (by unfold maxLen; omega) (by omega) H.hM ?_
    intro v' w' hown hg
    exact hK.out _ _ (KS.out _ (af (jB hX hB H ho (by simpa [aB, aA, bn] using hown) hg).bel)) fun _ => FW _ _ _ _ (K11010 _ _ (jB hX hB H ho (by simpa [aB, aA, bn] using hown) hg))
   refine AllReadyH.cons rfl (fun K hK => ?_) ?_
   ·exact aI rfl 23 44 rfl i3 Tryz.underlying23 hi3 (hK.out _ _ (KS.out _ (af (dX (by omega) hX hB H).bel)) fun _ => FW _ _ _ _ (K01110 _ _ (dX (by omega) hX hB H)))
   refine AllReadyH.cons rfl (fun K hK => ?_) AllReadyH.nil
   ·go_simp
    exact hK.out _ _ (KS.out _ (af (bW hX hB H).bel)) fun _ => FW _ _ _ _ (K01011 _ _ (bW hX hB H)))
  have K01100 : ∀ a w, MB s.rules t.rules yt xs s.links t.links 29 11 a0 w4.heap.size w4.drew 0 true true false false a w → W 10 #[true, true, true, false, true, true, false, true, true, true, false, true, true, false, false, true, true, false, true, true, false, false, false, false] a w := fun a wz H => UW _ _ _ _ (by
   refine wpAnyH_ready (rs := [3, 14, 22]) (by kernel_rfl) (by simp) ?_
   refine AllReadyH.cons rfl (fun K hK => ?_) ?_
   ·obtain ⟨v, hv, ho⟩ := H.r0 rfl rfl
    refine aK rfl (.tmp 29) (.tmp 31) 22 rfl w4.heap.size 40 i1 (.agg #[.string ⟨#[]⟩, .int .i64 0, .int .i64 0, .int .i64 0, .int .i64 0, .int .i64 0, .int .i64 0, .int .i64 0, .int .i64 0, .int .i64 0, .string ⟨#[]⟩]) 11 104 Tryz.underlying22 hi1 hz01 hz11 hz21 rfl (by decide) v 0 [] (aT hv) ho ra s.rules.length rcap (s.rules.flatMap ah) ((bf (H.far 31 (by decide) (by decide) (by decide) (by decide) (by decide) (by decide) (by decide) (by decide) (by decide) (by decide) (by decide))).trans E31.out) (show (List.flatMap ah s.rules).length = s.rules.length * 11 from aY (cells := ah) (fun _ => rfl) _) (bG (z := 11) (cells := ah) (fun _ => rfl) (by decide) (au G4.out.rules (af H.bel))) (bU G4.out.rules) (bg dL _) (by unfold maxLen; omega) (by omega) H.hM ?_
    intro v' w' hown hg
    exact hK.out _ _ (KS.out _ (af (jB hX hB H ho (by simpa [aB, aA, bn] using hown) hg).bel)) fun _ => FW _ _ _ _ (K11100 _ _ (jB hX hB H ho (by simpa [aB, aA, bn] using hown) hg))
   refine AllReadyH.cons rfl (fun K hK => ?_) ?_
   ·exact aI rfl 24 35 rfl i4 Tryz.underlying24 hi4 (hK.out _ _ (KS.out _ (af (bI (by omega) hX hB H).bel)) fun _ => FW _ _ _ _ (K01110 _ _ (bI (by omega) hX hB H)))
   refine AllReadyH.cons rfl (fun K hK => ?_) AllReadyH.nil
   ·go_simp
    exact hK.out _ _ (KS.out _ (af (bW hX hB H).bel)) fun _ => FW _ _ _ _ (K01101 _ _ (bW hX hB H)))
  have K11000 : ∀ a w, MB s.rules t.rules yt xs s.links t.links 29 11 a0 w4.heap.size w4.drew 1 true false false false a w → W 10 #[true, true, true, true, true, true, false, false, true, true, false, true, true, false, false, true, true, false, true, true, false, false, false, false] a w := fun a wz H => UW _ _ _ _ (by
   refine wpAnyH_ready (rs := [6, 7, 14, 22]) (by kernel_rfl) (by simp) ?_
   refine AllReadyH.cons rfl (fun K hK => ?_) ?_
   ·obtain ⟨v, hv, ho⟩ := H.r1 rfl
    refine aK rfl (.tmp 32) (.tmp 34) 22 rfl w4.heap.size 40 i1 (.agg #[.string ⟨#[]⟩, .int .i64 0, .int .i64 0, .int .i64 0, .int .i64 0, .int .i64 0, .int .i64 0, .int .i64 0, .int .i64 0, .int .i64 0, .string ⟨#[]⟩]) 11 104 Tryz.underlying22 hi1 hz01 hz11 hz21 rfl (by decide) v s.rules.length _ (aT hv) ho rb t.rules.length rdap (t.rules.flatMap ah) ((bf (H.far 34 (by decide) (by decide) (by decide) (by decide) (by decide) (by decide) (by decide) (by decide) (by decide) (by decide) (by decide))).trans E34.out) (show (List.flatMap ah t.rules).length = t.rules.length * 11 from aY (cells := ah) (fun _ => rfl) _) (bG (z := 11) (cells := ah) (fun _ => rfl) (by decide) (au G24.out.rules (af H.bel))) (bU G24.out.rules) (bg dL _) (by unfold maxLen; omega) (by omega) H.hM ?_
    intro v' w' hown hg
    exact hK.out _ _ (KS.out _ (af (jC hX hB H ho (by simpa [aB, aA, bn] using hown) hg).bel)) fun _ => FW _ _ _ _ (K21000 _ _ (jC hX hB H ho (by simpa [aB, aA, bn] using hown) hg))
   refine AllReadyH.cons rfl (fun K hK => ?_) ?_
   ·exact aI rfl 23 44 rfl i3 Tryz.underlying23 hi3 (hK.out _ _ (KS.out _ (af (dX (by omega) hX hB H).bel)) fun _ => FW _ _ _ _ (K11100 _ _ (dX (by omega) hX hB H)))
   refine AllReadyH.cons rfl (fun K hK => ?_) ?_
   ·exact aI rfl 24 35 rfl i4 Tryz.underlying24 hi4 (hK.out _ _ (KS.out _ (af (bI (by omega) hX hB H).bel)) fun _ => FW _ _ _ _ (K11010 _ _ (bI (by omega) hX hB H)))
   refine AllReadyH.cons rfl (fun K hK => ?_) AllReadyH.nil
   ·go_simp
    exact hK.out _ _ (KS.out _ (af (bW hX hB H).bel)) fun _ => FW _ _ _ _ (K11001 _ _ (bW hX hB H)))
  have K00001 : ∀ a w, MB s.rules t.rules yt xs s.links t.links 29 11 a0 w4.heap.size w4.drew 0 false false false true a w → W 11 #[false, true, true, false, true, true, false, false, true, true, false, true, true, false, false, true, true, false, true, true, false, false, true, false] a w := fun a wz H => UW _ _ _ _ (by
   refine wpAnyH_ready (rs := [0, 7, 14]) (by kernel_rfl) (by simp) ?_
   refine AllReadyH.cons rfl (fun K hK => ?_) ?_
   ·exact aI rfl 22 40 rfl i1 Tryz.underlying22 hi1 (hK.out _ _ (KS.out _ (af (jD hX hB H).bel)) fun _ => FW _ _ _ _ (K01001 _ _ (jD hX hB H)))
   refine AllReadyH.cons rfl (fun K hK => ?_) ?_
   ·exact aI rfl 23 44 rfl i3 Tryz.underlying23 hi3 (hK.out _ _ (KS.out _ (af (dX (by omega) hX hB H).bel)) fun _ => FW _ _ _ _ (K00101 _ _ (dX (by omega) hX hB H)))
   refine AllReadyH.cons rfl (fun K hK => ?_) AllReadyH.nil
   ·exact aI rfl 24 35 rfl i4 Tryz.underlying24 hi4 (hK.out _ _ (KS.out _ (af (bI (by omega) hX hB H).bel)) fun _ => FW _ _ _ _ (K00011 _ _ (bI (by omega) hX hB H))))
  have K00010 : ∀ a w, MB s.rules t.rules yt xs s.links t.links 29 11 a0 w4.heap.size w4.drew 0 false false true false a w → W 11 #[false, true, true, false, true, true, false, false, true, true, false, true, true, false, true, true, true, false, true, true, false, false, false, false] a w := fun a wz H => UW _ _ _ _ (by
   refine wpAnyH_ready (rs := [0, 7, 22]) (by kernel_rfl) (by simp) ?_
   refine AllReadyH.cons rfl (fun K hK => ?_) ?_
   ·exact aI rfl 22 40 rfl i1 Tryz.underlying22 hi1 (hK.out _ _ (KS.out _ (af (jD hX hB H).bel)) fun _ => FW _ _ _ _ (K01010 _ _ (jD hX hB H)))
   refine AllReadyH.cons rfl (fun K hK => ?_) ?_
   ·exact aI rfl 23 44 rfl i3 Tryz.underlying23 hi3 (hK.out _ _ (KS.out _ (af (dX (by omega) hX hB H).bel)) fun _ => FW _ _ _ _ (K00110 _ _ (dX (by omega) hX hB H)))
   refine AllReadyH.cons rfl (fun K hK => ?_) AllReadyH.nil
   ·go_simp
    exact hK.out _ _ (KS.out _ (af (bW hX hB H).bel)) fun _ => FW _ _ _ _ (K00011 _ _ (bW hX hB H)))
  have K00100 : ∀ a w, MB s.rules t.rules yt xs s.links t.links 29 11 a0 w4.heap.size w4.drew 0 false true false false a w → W 11 #[false, true, true, false, true, true, false, true, true, true, false, true, true, false, false, true, true, false, true, true, false, false, false, false] a w := fun a wz H => UW _ _ _ _ (by
   refine wpAnyH_ready (rs := [0, 14, 22]) (by kernel_rfl) (by simp) ?_
   refine AllReadyH.cons rfl (fun K hK => ?_) ?_
   ·exact aI rfl 22 40 rfl i1 Tryz.underlying22 hi1 (hK.out _ _ (KS.out _ (af (jD hX hB H).bel)) fun _ => FW _ _ _ _ (K01100 _ _ (jD hX hB H)))
   refine AllReadyH.cons rfl (fun K hK => ?_) ?_
   ·exact aI rfl 24 35 rfl i4 Tryz.underlying24 hi4 (hK.out _ _ (KS.out _ (af (bI (by omega) hX hB H).bel)) fun _ => FW _ _ _ _ (K00110 _ _ (bI (by omega) hX hB H)))
   refine AllReadyH.cons rfl (fun K hK => ?_) AllReadyH.nil
   ·go_simp
    exact hK.out _ _ (KS.out _ (af (bW hX hB H).bel)) fun _ => FW _ _ _ _ (K00101 _ _ (bW hX hB H)))
  have K01000 : ∀ a w, MB s.rules t.rules yt xs s.links t.links 29 11 a0 w4.heap.size w4.drew 0 true false false false a w → W 11 #[true, true, true, false, true, true, false, false, true, true, false, true, true, false, false, true, true, false, true, true, false, false, false, false] a w := fun a wz H => UW _ _ _ _ (by
   refine wpAnyH_ready (rs := [3, 7, 14, 22]) (by kernel_rfl) (by simp) ?_
   refine AllReadyH.cons rfl (fun K hK => ?_) ?_
   ·obtain ⟨v, hv, ho⟩ := H.r0 rfl rfl
    refine aK rfl (.tmp 29) (.tmp 31) 22 rfl w4.heap.size 40 i1 (.agg #[.string ⟨#[]⟩, .int .i64 0, .int .i64 0, .int .i64 0, .int .i64 0, .int .i64 0, .int .i64 0, .int .i64 0, .int .i64 0, .int .i64 0, .string ⟨#[]⟩]) 11 104 Tryz.underlying22 hi1 hz01 hz11 hz21 rfl (by decide) v 0 [] (aT hv) ho ra s.rules.length rcap (s.rules.flatMap ah) ((bf (H.far 31 (by decide) (by decide) (by decide) (by decide) (by decide) (by decide) (by decide) (by decide) (by decide) (by decide) (by decide))).trans E31.out) (show (List.flatMap ah s.rules).length = s.rules.length * 11 from aY (cells := ah) (fun _ => rfl) _) (bG (z := 11) (cells := ah) (fun _ => rfl) (by decide) (au G4.out.rules (af H.bel))) (bU G4.out.rules) (bg dL _) (by unfold maxLen; omega) (by omega) H.hM ?_
    intro v' w' hown hg
    exact hK.out _ _ (KS.out _ (af (jB hX hB H ho (by simpa [aB, aA, bn] using hown) hg).bel)) fun _ => FW _ _ _ _ (K11000 _ _ (jB hX hB H ho (by simpa [aB, aA, bn] using hown) hg))
   refine AllReadyH.cons rfl (fun K hK => ?_) ?_
   ·exact aI rfl 23 44 rfl i3 Tryz.underlying23 hi3 (hK.out _ _ (KS.out _ (af (dX (by omega) hX hB H).bel)) fun _ => FW _ _ _ _ (K01100 _ _ (dX (by omega) hX hB H)))
   refine AllReadyH.cons rfl (fun K hK => ?_) ?_
   ·exact aI rfl 24 35 rfl i4 Tryz.underlying24 hi4 (hK.out _ _ (KS.out _ (af (bI (by omega) hX hB H).bel)) fun _ => FW _ _ _ _ (K01010 _ _ (bI (by omega) hX hB H)))
   refine AllReadyH.cons rfl (fun K hK => ?_) AllReadyH.nil
   ·go_simp
    exact hK.out _ _ (KS.out _ (af (bW hX hB H).bel)) fun _ => FW _ _ _ _ (K01001 _ _ (bW hX hB H)))
  have K00000 : ∀ a w, MB s.rules t.rules yt xs s.links t.links 29 11 a0 w4.heap.size w4.drew 0 false false false false a w → W 12 #[false, true, true, false, true, true, false, false, true, true, false, true, true, false, false, true, true, false, true, true, false, false, false, false] a w := fun a wz H => UW _ _ _ _ (by
   refine wpAnyH_ready (rs := [0, 7, 14, 22]) (by kernel_rfl) (by simp) ?_
   refine AllReadyH.cons rfl (fun K hK => ?_) ?_
   ·exact aI rfl 22 40 rfl i1 Tryz.underlying22 hi1 (hK.out _ _ (KS.out _ (af (jD hX hB H).bel)) fun _ => FW _ _ _ _ (K01000 _ _ (jD hX hB H)))
   refine AllReadyH.cons rfl (fun K hK => ?_) ?_
   ·exact aI rfl 23 44 rfl i3 Tryz.underlying23 hi3 (hK.out _ _ (KS.out _ (af (dX (by omega) hX hB H).bel)) fun _ => FW _ _ _ _ (K00100 _ _ (dX (by omega) hX hB H)))
   refine AllReadyH.cons rfl (fun K hK => ?_) ?_
   ·exact aI rfl 24 35 rfl i4 Tryz.underlying24 hi4 (hK.out _ _ (KS.out _ (af (bI (by omega) hX hB H).bel)) fun _ => FW _ _ _ _ (K00010 _ _ (bI (by omega) hX hB H)))
   refine AllReadyH.cons rfl (fun K hK => ?_) AllReadyH.nil
   ·go_simp
    exact hK.out _ _ (KS.out _ (af (bW hX hB H).bel)) fun _ => FW _ _ _ _ (K00001 _ _ (bW hX hB H)))
  exact K00000 _ _ H0.out
 case rest =>
 obtain ⟨Bb, va, ka, vb, kb, vc, kc, n1, n2, n3, rfl, HN1, HN2, HN3, CB, O1, O2, O3, B6⟩ := hcut
 obtain ⟨w5, hw5⟩ : ∃ y, wc = y := ⟨_, rfl⟩
 rw [hw5] at CB O1 O2 O3 B6 ⊢
 clear hw5 SS KS
 have X5 := hid (ai X4.out B6)
 have Y5 := hid (ai Y4.out B6)
 have LA5 := hid (ai LA4.out B6)
 have G5 := hid (bD G4.out B6)
 have G25 := hid (bD G24.out B6)
 have B5 := hid (jh B4.out (by have := X4.out.1; omega) B6)
 have HCB := hid CB
 have HO1 := hid O1
 have HO2 := hid O2
 have HO3 := hid O3
 clear X4 Y4 LA4 G4 G24 B4 CB O1 O2 O3 B6
 clear i1 hi1 hz01 hz11 hz21 i3 hi3 hz03 hz13 hz23 i4 hi4 hz04 hz14 hz24
 go_wp2_with fail
 go_loopw [12] (fun iv wr => ∃ i : Nat, i ≤ t.rules.length ∧ iv = .int .i64 i ∧ Hid (∀ q ∈ t.rules.take i, ∀ r ∈ s.rules, ¬ r.name = q.name) ∧ Hid (Below w5.heap.size w5 wr)) (fun iv _ => t.rules.length - (intOf iv).toNat)
 case atStart => exact ⟨0, by omega, rfl, fun q hq => by simp at hq, q4B _ _⟩
 case round =>
  obtain ⟨i, hi, rfl, HF2, BR⟩ := hrel
  obtain ⟨y0, _⟩ := aa (ai Y5.out BR.out) 0 rfl
  by_cases hlt : i < t.rules.length
  case neg =>
   have e : t.rules.take i = t.rules := List.take_of_length_le (by omega)
   have HN : Hid (∀ r ∈ s.rules, ∀ q ∈ t.rules, ¬ r.name = q.name) := by
    intro r hr q hq
    have := HF2.out
    rw [e] at this
    exact this q hq r hr
   clear HF2 e
   have B5' := hid (jh B5.out (by have := X5.out.1; omega) BR.out)
   have CB6 := hid (ai HCB.out BR.out)
   have LA6 := hid (ai LA5.out BR.out)
   have G6 := hid (bD G5.out BR.out)
   have G26 := hid (bD G25.out BR.out)
   have P1 : Hid (bY wr (.slice va (s.rules ++ t.rules).length ka) (s.rules ++ t.rules)) := au (ku (cells := ah) (fun _ => rfl) (HN1.out.symm ▸ HO1.out)) BR.out
   have P2 : Hid (Rd 2 aJ wr (.slice vb (yt ++ xs).length kb) (yt ++ xs)) := au (ku (cells := aJ) (fun _ => rfl) (HN2.out.symm ▸ HO2.out)) BR.out
   have P3 : Hid (fe wr (.slice vc (s.links ++ t.links).length kc) (s.links ++ t.links)) := au (ku (cells := aH) (fun _ => rfl) (HN3.out.symm ▸ HO3.out)) BR.out
   have PZ : Hid (jr wr (.slice vb (yt ++ xs).length kb) (t.zones ++ s.zones) (yt ++ xs)) := by
    refine ⟨by rw [List.map_append, G26.out.zv.fst, G6.out.zv.fst], P2.out, fun p hp => ?_, fun p hp => ?_⟩
    ·rcases List.mem_append.1 hp with h | h
     ·exact G26.out.zv.eras p h
     ·exact G6.out.zv.eras p h
    ·rcases List.mem_append.1 hp with h | h
     ·exact G26.out.zv.cap p h
     ·exact G6.out.zv.cap p h
   have SZ : mO ⟨s.rules ++ t.rules, t.zones ++ s.zones, s.links ++ t.links⟩ := by
    refine ⟨fun r hr => ?_, fun r hr => ?_, fun r hr => ?_⟩
    ·rcases List.mem_append.1 hr with h | h
     ·exact G6.out.size.rules r h
     ·exact G26.out.size.rules r h
    ·rcases List.mem_append.1 hr with h | h
     ·exact G26.out.size.zones r h
     ·exact G6.out.size.zones r h
    ·rcases List.mem_append.1 hr with h | h
     ·exact G6.out.size.links r h
     ·exact G26.out.size.links r h
   have PG : Hid (kF ⟨s.rules ++ t.rules, t.zones ++ s.zones, s.links ++ t.links⟩ (yt ++ xs) va vb vc ka kb kc m wr) := ⟨P1.out, vZ PZ.out, Ai PZ.out, PZ.out, P3.out, SZ, G6.out.max, G6.out.pos⟩
   obtain ⟨bs, hbs⟩ : ∃ b : Sx.Sr, b = ⟨s.rules ++ t.rules, t.zones ++ s.zones, s.links ++ t.links⟩ := ⟨_, rfl⟩
   obtain ⟨xb, hxb⟩ : ∃ l, l = yt ++ xs := ⟨_, rfl⟩
   rw [← hbs, ← hxb] at PG
   have C0 := qX bs xb va vb vc ka kb kc m at_ nm wr PG.out
   rw [show bs.rules.length = n1 from by rw [hbs]; exact HN1.out, show xb.length = n2 from by rw [hxb]; exact HN2.out, show bs.links.length = n3 from by rw [hbs]; exact HN3.out] at C0
   obtain ⟨A2, hA2⟩ : ∃ l, atL (iG bs xb nm) at_ bs.rules (eU bs xb nm) = l := ⟨_, rfl⟩
   obtain ⟨E2, hE2⟩ : ∃ e, atE (iG bs xb nm) at_ = e := ⟨_, rfl⟩
   rw [hA2, hE2] at C0
   have HH : Hid (E2 = 0 → A2 = A) := by
    intro e
    rw [e] at hE2
    have h0 : iG bs xb nm = 0 := by
     have q0 := hE2
     unfold atE at q0
     split at q0
     ·exact q0
     ·rename_i q; simpa using q
    rw [← hA2, ← HA.out]
    unfold atL
    rw [hE2, HE.out, if_pos rfl, if_pos rfl, ← HZ.out]
    exact Dx (t := t) (by rw [hbs]) hxb (by rw [hbs]) G6.out.zv.fst (by rw [hbs, hxb, List.map_append, G26.out.zv.fst, G6.out.zv.fst]) HF.out h0 HN.out at_
   have HC := hid C0
   obtain ⟨⟨c0, _⟩, ⟨c1, _⟩, ⟨c2, _⟩, -⟩ := cp3 CB6.out
   clear C0 P1 P2 P3 PZ SZ PG hbs hxb hA2 hE2 HN G6 G26 CB6 HCB HO1 HO2 HO3 G5 G25 X5 Y5 LA5 B5 BR
   go_wp2_with fail
   refine HC.out.mono ?_
   rintro e w7 ⟨rfl, hb⟩
   have LA7 := hid (ai LA6.out hb)
   have B7 := hid (jh B5'.out (hN ▸ B5'.out.size) hb)
   clear HC c0 c1 c2 LA6 B5' hb y0
   obtain ⟨w8, g_w8, L0, hb2, sz⟩ := oh w7 #[.int .i64 A2.shift, .int .i64 A2.save, .string ⟨A2.name.toArray⟩] 31
   obtain ⟨bC, h_bC⟩ : ∃ b, w7.heap.size = b := ⟨_, rfl⟩
   have LC : Hid (ak w8 bC [.int .i64 A2.shift, .int .i64 A2.save, .string ⟨A2.name.toArray⟩]) := h_bC ▸ L0
   have LA8 := hid (ai LA7.out hb2)
   have B8 := hid (jh B7.out (hN ▸ B7.out.size) hb2)
   clear hb2 sz L0 LA7 B7
   go_upto_region 16 with fail
   clear g_w8 h_bC
   by_cases e2 : E2 = 0
   case pos =>
    have hA := HH.out e2
    subst hA
    subst e2
    obtain ⟨⟨t0, _⟩, ⟨t1, _⟩, ⟨t2, _⟩, -⟩ := cp3 LA8.out
    obtain ⟨⟨u0, _⟩, ⟨u1, _⟩, ⟨u2, _⟩, -⟩ := cp3 LC.out
    go_wp2
    go_ret
    exact ⟨rfl, B8.out⟩
   have p1 : (E2 != 0) = true := by simp [e2]
   clear HH
   go_wp2
   go_ret
   exact ⟨rfl, B8.out⟩
  obtain ⟨q, hq⟩ : ∃ q, t.rules[i]? = some q := ⟨_, q4G hlt⟩
  have HQ := hid hq
  clear hq
  go_wp2_with fail
  go_loopw [13] (fun kv wr2 => ∃ k : Nat, k ≤ s.rules.length ∧ kv = .int .i64 k ∧ Hid (∀ r ∈ s.rules.take k, ¬ r.name = q.name) ∧ Hid (Below w5.heap.size w5 wr2)) (fun kv _ => s.rules.length - (intOf kv).toNat)
  case atStart => exact ⟨0, by omega, rfl, fun q hq => by simp at hq, BR⟩
  case round =>
   clear y0 BR
   obtain ⟨k, hk, rfl, HK, BR⟩ := hrel
   by_cases hlt2 : k < s.rules.length
   case neg =>
    obtain ⟨x0, _⟩ := aa (ai X5.out BR.out) 0 rfl
    have HF3 : Hid (∀ p ∈ t.rules.take (i + 1), ∀ r ∈ s.rules, ¬ r.name = p.name) := by
     intro p hp
     rw [Sx.dm HQ.out] at hp
     rcases List.mem_append.1 hp with h | h
     ·exact HF2.out p h
     ·simp at h
      subst h
      have e : s.rules.take k = s.rules := List.take_of_length_le (by omega)
      have := HK.out
      rw [e] at this
      exact this
    go_wp2
    go_roundw
    case rel => exact ⟨i + 1, by omega, by go_num, HF3, BR⟩
    case measure => simp [intOf]; omega
   obtain ⟨r, hr⟩ : ∃ r, s.rules[k]? = some r := ⟨_, q4G hlt2⟩
   have HR := hid hr
   obtain ⟨xb, xo, rfl, hxb, cx⟩ := dx (au G5.out.rules BR.out) hr
   obtain ⟨qb, qo, rfl, hqb, cq⟩ := dx (au G25.out.rules BR.out) HQ.out
   obtain ⟨x0, sx⟩ := aa (ai X5.out BR.out) 0 rfl
   obtain ⟨y0, sy⟩ := aa (ai Y5.out BR.out) 0 rfl
   have e1 : wr.cell? ⟨xb, xo + k * 11, none⟩ = some (ag r.name) := cx 0 _ rfl
   have e2 : wr.cell? ⟨qb, qo + i * 11, none⟩ = some (ag q.name) := cq 0 _ rfl
   clear cx cq hxb hqb hr sx sy
   go_upto_region 13 with fail
   have SS : Hid (wr.cell? ⟨N, 0, none⟩ = some (.slice (some ⟨xb, xo, none⟩) s.rules.length rcap) ∧ wr.cell? ⟨N + 1, 0, none⟩ = some (.slice (some ⟨qb, qo, none⟩) t.rules.length rdap) ∧ wr.cell? ⟨xb, xo + k * 11, none⟩ = some (ag r.name) ∧ wr.cell? ⟨qb, qo + i * 11, none⟩ = some (ag q.name)) := ⟨x0, y0, e1, e2⟩
   refine wp_region_held_drew (S := fun w' => w'.cell? ⟨N, 0, none⟩ = some (.slice (some ⟨xb, xo, none⟩) s.rules.length rcap) ∧ w'.cell? ⟨N + 1, 0, none⟩ = some (.slice (some ⟨qb, qo, none⟩) t.rules.length rdap) ∧ w'.cell? ⟨xb, xo + k * 11, none⟩ = some (ag r.name) ∧ w'.cell? ⟨qb, qo + i * 11, none⟩ = some (ag q.name)) (by kernel_rfl) SS.out (fun hHeld => ?_)
   refine tkA 0 rfl ?_
   refine tkA 1 rfl ?_
   refine tkA 2 rfl ?_
   refine tkA 3 rfl ?_
   refine tkA 4 rfl ?_
   refine tkA 5 rfl ?_
   refine tkA 6 rfl ?_
   refine tkA 7 rfl ?_
   refine tkA 8 rfl ?_
   refine tkA 9 rfl ?_
   refine tkA 10 rfl ?_
   refine tkA 11 rfl ?_
   refine tkA 12 rfl ?_
   refine wpAnyH_done (by kernel_rfl) ?_ _
   have BR2 : Hid (Below w5.heap.size w5 wr.drew) := BR.out.trans ((show Below wr.heap.size wr wr.drew from ⟨rfl, rfl, rfl, Nat.le_refl _, fun _ _ => rfl⟩).mono BR.out.size)
   obtain ⟨bq, hbq⟩ : ∃ bq, (r.name == q.name) = bq := ⟨_, rfl⟩
   rw [hbq]
   cases bq
   case true =>
    clear hbq
    go_wp2
    go_ret
    exact ⟨rfl, jh B5.out (by have := X5.out.1; omega) BR2.out⟩
   have e0 : ¬ r.name = q.name := by simpa using hbq
   clear hbq
   have HK2 : Hid (∀ r ∈ s.rules.take (k + 1), ¬ r.name = q.name) := by
    intro p hp
    rw [Sx.dm HR.out] at hp
    rcases List.mem_append.1 hp with h | h
    ·exact HK.out p h
    ·simp at h
     subst h
     exact e0
   clear HK
   go_wp2
   go_roundw
   case rel => exact ⟨k + 1, by omega, by go_num, HK2, BR2⟩
   case measure => simp [intOf]; omega
end
section
open Go.RowKit Go.Shelf
section
variable {H : Type} {enc : TypeId × Value → H}
theorem mg {W : World} {T e : TypeId} (hu : Tryz.prog.underlying T = some (.slice e)) {fuel : Nat} {a : Option Addr} {k c : Nat} {x : DataW H × List MemPlace} (h : DataW.trod enc Tryz.prog W 0 (fun _ => true) true fuel T [.slice a k c] = some x) (hw : ∀ n ∈ x.1.weights Tryz.prog T, n ≤ reachBytes) : k * Tryz.prog.bytesOf e ≤ reachBytes := by
 rcases Deep.open_slice hu h with ⟨e, rfl⟩ | ⟨a', len, cap, m, n, D, Pl, e1, _, hl, hm, hmm, rfl, _⟩
 ·simp at e
  obtain ⟨_, rfl, _⟩ := e
  simp
 ·simp at e1
  obtain ⟨_, rfl, rfl⟩ := e1
  have := hw ((((List.range k).map D).length + ((List.range (m - k)).map fun j => D (k + j)).length) * Tryz.prog.bytesOf e) (by simp [DataW.weights, hu])
  refine Nat.le_trans (Nat.mul_le_mul_right _ ?_) this
  simp
theorem BS {W : World} {ra za la : Option Addr} {n1 n2 n3 rc zc lc : Nat} {d : DataW H} {p : List MemPlace} (h : DataW.Trod enc Tryz.prog W 0 (fun _ => true) true 26 (.agg #[.slice ra n1 rc, .slice za n2 zc, .slice la n3 lc]) d p) (hw : ∀ n ∈ d.weights Tryz.prog 26, n ≤ reachBytes) :
  n1 * 104 ≤ reachBytes ∧ n2 * 40 ≤ reachBytes ∧ n3 * 32 ≤ reachBytes := by
 obtain ⟨fuel, hf⟩ := h
 cases fuel with
 | zero => simp [DataW.trod] at hf
 | succ n =>
   unfold DataW.trod at hf
   rw [Tryz.underlying26] at hf
   simp [Value.cells, o9, uF, uG, uD, List.mapM_cons, Option.bind_eq_some_iff] at hf
   obtain ⟨a1, b1, h1, l, ⟨a2, b2, h2, l2, ⟨a3, b3, h3, rfl⟩, rfl⟩, rfl, qp⟩ := hf
   have w1 := mg Tryz.underlying22 h1 (fun n hn => hw n (by unfold DataW.weights; rw [Tryz.underlying26]; simp [DataW.weightsEach]; exact .inl hn))
   have w2 := mg Tryz.underlying23 h2 (fun n hn => hw n (by unfold DataW.weights; rw [Tryz.underlying26]; simp [DataW.weightsEach]; exact .inr (.inl hn)))
   have w3 := mg Tryz.underlying24 h3 (fun n hn => hw n (by unfold DataW.weights; rw [Tryz.underlying26]; simp [DataW.weightsEach]; exact .inr (.inr hn)))
   rw [show Tryz.prog.bytesOf 40 = 104 from by kernel_rfl] at w1
   rw [show Tryz.prog.bytesOf 44 = 40 from by kernel_rfl] at w2
   rw [show Tryz.prog.bytesOf 35 = 32 from by kernel_rfl] at w3
   exact ⟨w1, w2, w3⟩
end
theorem xu (s : Sx.Sr) (xs : List ZV) (ra za la : Option Addr) (rcap zcap lcap : Nat) (t : Sx.Sr) (yt : List ZV) (rb zb lb : Option Addr) (rdap zdap ldap : Nat) (a1 : ByteArray) (at_ : Int) (w : World) (g : yM s xs ra za la rcap zcap lcap w) (g2 : yM t yt rb zb lb rdap zdap ldap w) (m : Int) (hm : w.cell? ⟨0, 0, none⟩ = some (.int .i64 m)) (h0 : 0 < w.heap.size)
  (ht : t.rules.length * 104 ≤ reachBytes ∧ yt.length * 40 ≤ reachBytes ∧ t.links.length * 32 ≤ reachBytes) :
  Calls Tryz.prog 4 #[.agg #[.slice ra s.rules.length rcap, .slice za xs.length zcap, .slice la s.links.length lcap], .agg #[.slice rb t.rules.length rdap, .slice zb yt.length zdap, .slice lb t.links.length ldap], (.string a1), .int .i64 at_] w fun e w' => e = .returned (.bool true) ∧ Below w.heap.size w w' := by
 have q := Ac s t xs yt ra za la rb zb lb rcap zcap lcap rdap zdap ldap m at_ a1.data.toList w (yx g hm h0) (yx g2 hm h0) ht
 rw [qN] at q
 exact q
end
section
open Go.ChangeShapes Go.WideShapes Go.ChangeAt Go.RowKit

theorem int_of_shape {P : Program} {w : World} {g : Nat} {t : TypeId} {zero : Array Value} (h : w.ShapedOpen P) (hg : g < P.globals.size)
  (h0 : ((begin P (fun _ _ => 0) default).world.heap[g]?).bind Obj.row? = some (zero, t)) (hz : zero.size = 1)
  (hb : P.buildable t = true) (hc : P.cellTypes P.depth t = some [t]) (hu : P.underlying t = some (.int .i64)) : ∃ m, w.cell? ⟨g, 0, none⟩ = some (.int .i64 m) := by
 obtain ⟨cs, hh, hs, hr⟩ := h.1 g zero t hg h0
 obtain ⟨ts, hts, _, hall⟩ := hr hb
 rw [hc] at hts
 cases hts
 have h1 : 0 < cs.size := by omega
 obtain ⟨u, hu', hok⟩ := hall 0 cs[0] (by simp [h1])
 have : u = t := by simpa using hu'.symm
 subst this
 have hcell : w.cell? ⟨g, 0, none⟩ = some cs[0] := by simp [World.cell?, hh, h1]
 rw [hcell]
 unfold Cell.ok at hok
 rw [hu] at hok
 cases hv : cs[0] <;> rw [hv] at hok <;> simp at hok ⊢
 rename_i k n
 cases k <;> simp_all
theorem AQ : decide (0 < Tryz.prog.globals.size) = true := by kernel_rfl
theorem Gg {w : World} (h : w.ShapedOpen Tryz.prog) : ∃ m, w.cell? ⟨0, 0, none⟩ = some (.int .i64 m) :=
 int_of_shape (t := 3) (zero := #[.int .i64 0]) h (of_decide_eq_true AQ) (by kernel_rfl) rfl (by kernel_rfl) (by kernel_rfl) Tryz.underlying3
theorem IW {w : World} {m : Int} (h : w.cell? ⟨0, 0, none⟩ = some (.int .i64 m)) : 0 < w.heap.size := by
 unfold World.cell? at h
 split at h
 ·rename_i hb; exact (q4A.1 hb).1
 ·cases h
end
section
open Go.ChangeShapes Go.WideShapes Go.ChangeAt Go.RowKit Go.Joins Go.ChangeMaps

theorem rW (os : Os) (started : os.Started) (H : Type) (enc : TypeId × Value → H) :
  ReturnsInHanded {} Tryz.checked os 4 .any (Rows.zoneOtherSpec.pre6 enc Tryz.prog Tryz.f4 Rows.zoneOtherRow.domain false) (Rows.zoneOtherSpec.post enc Tryz.prog Tryz.f4 false true false false) := by
 refine returnsInHanded_of_change_shaped (C := Tryz.checked) own started (by kernel_rfl) Tryz.func4
  (ChangeSpec.witness6 (enc := enc) (C := Tryz.checked) false ⟨#[], #[.agg #[.slice none 0 0, .slice none 0 0, .slice none 0 0], .agg #[.slice none 0 0, .slice none 0 0, .slice none 0 0], .string ⟨#[]⟩, .int .i64 0], []⟩ 8 (by kernel_rfl) (by kernel_rfl) (by kernel_rfl) (by kernel_rfl)) ?_
 intro W base args ds gs before hval0 hW hcnd hsz hsh _
 have hval : ∀ (j : Nat) t v, Tryz.f4.params[j]? = some t → args[j]? = some v → Value.okWide Tryz.prog W .any base t v := hval0
 have hW' := hW
 obtain ⟨p, q, hA0, hV, rfl, hfz, hnd⟩ := hW
 have hA : DataW.TrodAll enc Tryz.prog W 0 (fun _ => true) true Tryz.f4.params.toList args.toList ds p := hA0
 rw [Tryz.params4] at hA hval
 obtain ⟨v0, v1, v2, v3, d0, d1, d2, d3, p0, p1, p2, p3, rfl, rfl, rfl, h0, h1, h2, h3⟩ := trodAll_four hA
 obtain ⟨rfl, rfl⟩ := trodVars_none hV
 obtain ⟨⟨s0, xs0, ra0, za0, la0, rc0, zc0, lc0, rfl, g0⟩, lt0⟩ := mJ (hval 0 26 v0 rfl rfl) h0
 obtain ⟨⟨s1, xs1, ra1, za1, la1, rc1, zc1, lc1, rfl, g1⟩, lt1⟩ := mJ (hval 1 26 v1 rfl rfl) h1
 obtain ⟨a2, rfl, rfl, rfl, w2⟩ := open_string Tryz.underlying9 (hval 2 9 v2 rfl rfl) h2
 obtain ⟨a3, rfl, rfl, rfl, w3⟩ := open_int Tryz.underlying3 (hval 3 3 v3 rfl rfl) h3
 obtain ⟨m, hm⟩ := Gg hsh
 have HW1 : ∀ n ∈ d1.weights Tryz.prog 26, n ≤ reachBytes := fun n hn => by simpa using List.all_eq_true.1 hsz n (DataW.weights_mem_each (j := 1) (t := 26) (d := d1) rfl rfl n hn)
 clear hA0 hval0
 refine (xu s0 xs0 ra0 za0 la0 rc0 zc0 lc0 s1 xs1 ra1 za1 la1 rc1 zc1 lc1 a2 a3 W g0 g1 m hm (IW hm) (BS h1 HW1)).mono fun e W' ⟨he, bel⟩ => ?_
 subst he
 exact ⟨_, rfl, _, _, _, [], _, [], hW', trodAll_mk1 (shut_bool Tryz.underlying4 _), trodAll_mk4 (qL h0 bel lt0) (qL h1 bel lt1) (shut_string Tryz.underlying9 w2) (shut_int Tryz.underlying3 w3), rfl, bel.frame _, fun h => by cases h⟩

theorem zoneOther_holds : Rows.ZoneOtherSaid :=
 OpenClaim.holds_of_wide 4 Tryz.f4 rfl rfl rfl rfl rfl rfl rfl ⟨rfl, rfl, rfl, rfl, rfl⟩ rfl rfl rfl rfl rfl (by kernel_rfl) Tryz.func4 (by kernel_rfl)
  (of_decide_eq_true (by kernel_rfl)) (by unfold Func.isWrapper; first | (rw [if_pos (by decide +kernel)]; kernel_rfl) | (rw [if_neg (by decide +kernel)]; exact ⟨rfl, rfl⟩))
  (fun os started H enc _ => rW os started H enc)
#print axioms zoneOther_holds
end
end Go.Proofs.YtkhlkohlccndgaaGreat
