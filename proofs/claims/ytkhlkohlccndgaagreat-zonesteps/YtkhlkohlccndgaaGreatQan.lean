/- Proved: in an era without rules it is always the same, and from one time of its rules to the next one it is the same (the law ZoneSteps), for every source, name and times; no condition. -/
import Derived.Test.YtkhlkohlccndgaaGreatQam
import Derived.HandedShaped
namespace Go.Proofs.YtkhlkohlccndgaaGreat
open Go.RowKit Go.Shelf
set_option linter.unusedVariables false
set_option linter.unusedSimpArgs false
attribute [local go_sem ↓] Go.wp_at_zero Go.wp_at_succ

set_option maxRecDepth 100000 in
set_option maxHeartbeats 1000000 in
theorem zoneSteps_is (s : Sx.Sr) (xs : List ZV) (ra za la : Option Addr) (rcap zcap lcap : Nat) (m : Int) (nm : Tx.Bs) (at_ later : Int) (w : World) (h : SrcIn s xs ra za la rcap zcap lcap m w) :
    Calls Tryz.prog 7 #[.agg #[.slice ra s.rules.length rcap, .slice za xs.length zcap, .slice la s.links.length lcap], strV nm, .int .i64 at_, .int .i64 later] w fun e w' => e = .returned (.bool true) ∧ Below w.heap.size w w' := by
  obtain ⟨N, hN⟩ : ∃ N, w.heap.size = N := ⟨_, rfl⟩
  obtain ⟨V, gV, X0, hb, sz⟩ := named_new w #[.slice ra s.rules.length rcap, .slice za xs.length zcap, .slice la s.links.length lcap] 26
  rw [hN] at X0
  have X : Hid (CellsAt V N [.slice ra s.rules.length rcap, .slice za xs.length zcap, .slice la s.links.length lcap]) := X0
  have B : Hid (Below N w V) := hN ▸ hb
  have G := hid (srcIn_below h hb)
  clear h X0 sz hb
  go_enter Tryz.func7, Tryz.ntmps7
  simp only [hN]
  go_wp2_with fail
  refine (zoneBegun_is m V G.out.max G.out.pos).mono ?_
  rintro e w1 ⟨rfl, hb⟩
  have hle := Nat.le_of_lt X.out.1
  replace B := hid (below_on B.out hle hb)
  replace X := hid (ca_below X.out hb)
  replace G := hid (srcIn_below G.out hb)
  clear hle
  clear hb
  go_wp2_with fail
  refine (ruleBegun_is w1).mono ?_
  rintro e w2 ⟨rfl, hb⟩
  have hle := Nat.le_of_lt X.out.1
  replace B := hid (below_on B.out hle hb)
  replace X := hid (ca_below X.out hb)
  replace G := hid (srcIn_below G.out hb)
  clear hle
  clear hb
  obtain ⟨s0, _⟩ := ca_at X.out 0 rfl
  obtain ⟨s1, _⟩ := ca_at X.out 1 rfl
  obtain ⟨s2, _⟩ := ca_at X.out 2 rfl
  have sx := X.out.1
  obtain ⟨F, hF⟩ : ∃ F, zoneF s xs nm = F := ⟨_, rfl⟩
  obtain ⟨z, hz⟩ : ∃ z, zoneZ s xs nm = z := ⟨_, rfl⟩
  have HF := hid hF
  have HZ := hid hz
  have CA := zAt_any s xs ra za la rcap zcap lcap m at_ nm w2 G.out
  rw [hF, hz] at CA
  obtain ⟨A, hA⟩ : ∃ A, atL F at_ s.rules z = A := ⟨_, rfl⟩
  obtain ⟨E, hE⟩ : ∃ E, atE F at_ = E := ⟨_, rfl⟩
  rw [hA, hE] at CA
  have HA := hid hA
  have HE := hid hE
  clear hA hE
  have HC := hid CA
  clear CA
  go_wp2_with fail
  refine (HC.out).mono ?_
  rintro e w3 ⟨rfl, hb⟩
  clear HC s0 s1 s2 sx
  have hle := Nat.le_of_lt X.out.1
  replace B := hid (below_on B.out hle hb)
  replace X := hid (ca_below X.out hb)
  replace G := hid (srcIn_below G.out hb)
  clear hle
  clear hb
  obtain ⟨w4, gy, LA0, hb, sz⟩ := named_new w3 #[.int .i64 A.shift, .int .i64 A.save, .string ⟨A.name.toArray⟩] 31
  obtain ⟨bA, hbA⟩ : ∃ b, w3.heap.size = b := ⟨_, rfl⟩
  rw [hbA] at LA0
  have LA : Hid (CellsAt w4 bA [.int .i64 A.shift, .int .i64 A.save, .string ⟨A.name.toArray⟩]) := LA0
  have hle := Nat.le_of_lt X.out.1
  replace B := hid (below_on B.out hle hb)
  replace X := hid (ca_below X.out hb)
  replace G := hid (srcIn_below G.out hb)
  clear hle
  clear hb LA0 sz
  obtain ⟨s0, _⟩ := ca_at X.out 0 rfl
  obtain ⟨s1, _⟩ := ca_at X.out 1 rfl
  obtain ⟨s2, _⟩ := ca_at X.out 2 rfl
  have sx := X.out.1
  have cf := hid (zFind_any s xs ra za la rcap zcap lcap m nm)
  clear cf
  -- the alloc is named by gy
  have GY0 := gy
  clear gy
  have hbb0 := hbA
  clear hbA
  have CA := zAt_any s xs ra za la rcap zcap lcap m later nm w4 G.out
  rw [hF, hz] at CA
  obtain ⟨D, hD⟩ : ∃ D, atL F later s.rules z = D := ⟨_, rfl⟩
  obtain ⟨H, hH⟩ : ∃ H, atE F later = H := ⟨_, rfl⟩
  rw [hD, hH] at CA
  have HD := hid hD
  have HH := hid hH
  clear hD hH
  have HC := hid CA
  clear CA
  go_wp2_with fail
  refine (HC.out).mono ?_
  rintro e w5 ⟨rfl, hb⟩
  clear HC s0 s1 s2 sx
  have hle := Nat.le_of_lt X.out.1
  replace B := hid (below_on B.out hle hb)
  replace X := hid (ca_below X.out hb)
  replace G := hid (srcIn_below G.out hb)
  replace LA := hid (ca_below LA.out hb)
  clear hle
  clear hb
  obtain ⟨w6, gy, LD0, hb, sz⟩ := named_new w5 #[.int .i64 D.shift, .int .i64 D.save, .string ⟨D.name.toArray⟩] 31
  obtain ⟨bD, hbD⟩ : ∃ b, w5.heap.size = b := ⟨_, rfl⟩
  rw [hbD] at LD0
  have LD : Hid (CellsAt w6 bD [.int .i64 D.shift, .int .i64 D.save, .string ⟨D.name.toArray⟩]) := LD0
  have hle := Nat.le_of_lt X.out.1
  replace B := hid (below_on B.out hle hb)
  replace X := hid (ca_below X.out hb)
  replace G := hid (srcIn_below G.out hb)
  replace LA := hid (ca_below LA.out hb)
  clear hle
  clear hb LD0 sz
  obtain ⟨s0, _⟩ := ca_at X.out 0 rfl
  obtain ⟨s1, _⟩ := ca_at X.out 1 rfl
  obtain ⟨s2, _⟩ := ca_at X.out 2 rfl
  have sx := X.out.1
  -- the alloc is named by gy
  have GY1 := gy
  clear gy
  have hbb1 := hbD
  clear hbD
  have CF0 := zFind_any s xs ra za la rcap zcap lcap m nm w6 G.out w6 (Below.refl _ _)
  rw [hF, hz] at CF0
  have HC := hid CF0
  clear CF0
  go_wp2_with fail
  refine (HC.out).mono ?_
  rintro e w7 ⟨v, rfl, hO, hb⟩
  clear HC s0 s1 s2 sx
  have hle := Nat.le_of_lt X.out.1
  replace B := hid (below_on B.out hle hb)
  replace X := hid (ca_below X.out hb)
  replace G := hid (srcIn_below G.out hb)
  replace LA := hid (ca_below LA.out hb)
  replace LD := hid (ca_below LD.out hb)
  clear hle
  clear hb
  have EO := hid (rdEras_own hO)
  obtain ⟨ea, ec, rfl⟩ := owns_shape0 hO
  clear hO
  obtain ⟨w8, gy, Z0, hb, sz⟩ := named_new w7 #[.string ⟨z.name.toArray⟩, .slice ea z.eras.length ec] 44
  obtain ⟨bZ, hbZ⟩ : ∃ b, w7.heap.size = b := ⟨_, rfl⟩
  rw [hbZ] at Z0
  have Z : Hid (CellsAt w8 bZ [.string ⟨z.name.toArray⟩, .slice ea z.eras.length ec]) := Z0
  have hle := Nat.le_of_lt X.out.1
  replace B := hid (below_on B.out hle hb)
  replace X := hid (ca_below X.out hb)
  replace G := hid (srcIn_below G.out hb)
  replace LA := hid (ca_below LA.out hb)
  replace LD := hid (ca_below LD.out hb)
  replace EO := hid (rd_below EO.out hb)
  clear hle
  clear hb Z0 sz
  obtain ⟨s0, _⟩ := ca_at X.out 0 rfl
  obtain ⟨s1, _⟩ := ca_at X.out 1 rfl
  obtain ⟨s2, _⟩ := ca_at X.out 2 rfl
  have sx := X.out.1
  have CE0 := zEnds_any s xs ra za la rcap zcap lcap m nm w8 G.out
  rw [hF, hz] at CE0
  have HC := hid CE0
  clear CE0
  go_wp2_with fail
  refine (HC.out).mono ?_
  rintro e w9 ⟨v2, rfl, hO, hb⟩
  clear HC s0 s1 s2 sx
  have hle := Nat.le_of_lt X.out.1
  replace B := hid (below_on B.out hle hb)
  replace X := hid (ca_below X.out hb)
  replace G := hid (srcIn_below G.out hb)
  replace LA := hid (ca_below LA.out hb)
  replace LD := hid (ca_below LD.out hb)
  replace EO := hid (rd_below EO.out hb)
  replace Z := hid (ca_below Z.out hb)
  clear hle
  clear hb
  have RE := hid (ownEnds_rd hO)
  obtain ⟨la2, lc2, rfl⟩ := owns_shape0 hO
  clear hO
  obtain ⟨L, hL⟩ : ∃ L, (if F = 0 then endsE z.eras else []) = L := ⟨_, rfl⟩
  rw [hL] at RE ⊢
  have HL := hid hL
  clear hL hF hz hbb0 hbb1 hbZ gy GY0 GY1
  obtain ⟨z0, _⟩ := ca_at Z.out 0 rfl
  obtain ⟨z1, _⟩ := ca_at Z.out 1 rfl
  have sz := Z.out.1
  by_cases hE0 : E = 0
  case neg =>
    have q1 : (E == 0) = false := by simp [hE0]
    go_wp2
    go_ret
    exact ⟨rfl, B.out⟩
  subst hE0
  by_cases hH0 : H = 0
  case neg =>
    have q1 : (H == 0) = false := by simp [hH0]
    go_wp2
    go_ret
    exact ⟨rfl, B.out⟩
  subst hH0
  have hF0 : F = 0 := by
    have := HE.out
    unfold atE at this
    split at this
    · assumption
    · rename_i q; simpa using q
  subst hF0
  by_cases hlt : later < at_
  case pos =>
    go_wp2
    go_ret
    exact ⟨rfl, B.out⟩
  have hle : at_ ≤ later := by omega
  have HL2 : Hid (endsE z.eras = L) := by have := HL.out; rw [if_pos rfl] at this; exact this
  obtain ⟨ok, zin, h8, _⟩ := zoneZ_ok G.out.zv HF.out
  rw [HZ.out] at zin h8
  have LO := hid (lastO_zone (ok.zone z zin))
  have hlen : L.length + 1 = z.eras.length := by rw [← HL2.out]; exact ends_len LO.out
  have HLEN := hid hlen
  have q7 : ((z.eras.length : Int) != (L.length : Int) + 1) = false := by simp; omega
  have hd : decide (later < at_) = false := by simpa using hlt
  have hl9 : L.length ≤ 8 := by omega
  clear hlen zin h8 HL
  go_upto_block 0 with fail
  go_cut [17] from 91 to 104 (fun kv wc => wc = w9 ∧ ∃ k : Nat, kv = .int .i64 k ∧ k ≤ L.length ∧ Hid (∀ (j : Nat) (n : Int), j < k → L[j]? = some n → n ≤ at_) ∧ Hid (k = L.length ∨ ∃ n, L[k]? = some n ∧ at_ < n))
  case first =>
    go_wp2_with fail
    go_loop [17] (fun kv => ∃ k : Nat, k ≤ L.length ∧ kv = .int .i64 k ∧ Hid (∀ (j : Nat) (n : Int), j < k → L[j]? = some n → n ≤ at_)) (fun kv => L.length - (intOf kv).toNat)
    case atStart => exact ⟨0, Nat.zero_le _, rfl, fun j n h => absurd h (Nat.not_lt_zero _)⟩
    case round =>
      obtain ⟨k, hk, rfl, HJ⟩ := hrel
      by_cases hlt2 : k < L.length
      case neg =>
        have q : ¬ (k : Int) < (L.length : Int) := by omega
        clear hlt2
        go_wp2
        go_meet
        exact ⟨rfl, k, rfl, hk, HJ, .inl (by omega)⟩
      obtain ⟨n, hn⟩ : ∃ n, L[k]? = some n := ⟨_, List.getElem?_eq_getElem hlt2⟩
      obtain ⟨lb, lo, rfl, hlb, hc⟩ := rd_elem RE.out hn
      have c0 : w9.cell? ⟨lb, lo + k, none⟩ = some (.int .i64 n) := by have := hc 0 _ rfl; simpa using this
      have HN := hid hn
      have q : (k : Int) < (L.length : Int) := by omega
      clear hc hn
      by_cases hle2 : n ≤ at_
      case neg =>
        go_wp2
        go_meet
        exact ⟨rfl, k, rfl, hk, HJ, .inr ⟨n, HN.out, by omega⟩⟩
      go_wp2
      go_round
      case rel =>
        refine ⟨k + 1, by omega, by go_num, fun j x hj hx => ?_⟩
        rcases Nat.lt_or_ge j k with a | a
        · exact HJ.out j x a hx
        · have e : j = k := by omega
          rw [e, HN.out] at hx
          simp at hx
          omega
      case measure => simp [intOf]; omega
  case rest =>
  obtain ⟨rfl, k, rfl, hk, HJ, HK⟩ := hcut
  obtain ⟨x, hx⟩ : ∃ x, z.eras[k]? = some x := ⟨_, List.getElem?_eq_getElem (by have := HLEN.out; omega)⟩
  have hkz : (k : Int) < (z.eras.length : Int) := by have := HLEN.out; omega
  obtain ⟨eb, eo, rfl, heb, hc⟩ := rd_elem EO.out hx
  have e0 : wc.cell? ⟨eb, eo + k * 10, none⟩ = some (.int .i64 x.shift) := by have := hc 0 _ rfl; simpa using this
  have e1 : wc.cell? ⟨eb, eo + k * 10 + 1, none⟩ = some (strV x.rules) := hc 1 _ rfl
  have e2 : wc.cell? ⟨eb, eo + k * 10 + 2, none⟩ = some (.int .i64 x.save) := hc 2 _ rfl
  have HX := hid hx
  clear hc hx
  go_upto_region 12 with fail
  go_cut [116] from 105 to 116 (fun v w' => w' = wc ∧ ∃ Q : Bool, v = .bool Q ∧ Hid (Q = false → k = L.length ∨ ∃ n, L[k]? = some n ∧ later < n))
  case first =>
    rcases HK.out with hkl | ⟨n, hn, hgt⟩
    · have q : ¬ (k : Int) < (L.length : Int) := by omega
      have HKL := hid hkl
      clear hkl
      go_wp2
      go_meet
      exact ⟨rfl, _, rfl, fun _ => .inl HKL.out⟩
    · obtain ⟨lb, lo, rfl, hlb, hc⟩ := rd_elem RE.out hn
      have c0 : wc.cell? ⟨lb, lo + k, none⟩ = some (.int .i64 n) := by have := hc 0 _ rfl; simpa using this
      have q : (k : Int) < (L.length : Int) := by have := (List.getElem?_eq_some_iff.1 hn).1; omega
      have HN := hid hn
      clear hc hn
      by_cases hl2 : n ≤ later
      · go_wp2
        go_meet
        exact ⟨rfl, true, by simp [hl2], fun h => by cases h⟩
      · go_wp2
        go_meet
        exact ⟨rfl, false, by simp [hl2], fun _ => .inr ⟨n, HN.out, by omega⟩⟩
  case rest =>
  obtain ⟨rfl, Q, rfl, HQ⟩ := hcut
  cases Q
  case true =>
    go_wp2
    go_ret
    exact ⟨rfl, B.out⟩
  obtain ⟨f1, f2⟩ := steps_plain LO.out hle HX.out (by rw [HL2.out]; exact HJ.out) (by rw [HL2.out]; exact HQ.out rfl) (rs := s.rules)
  have F1 := hid f1
  have F2 := hid f2
  have A1 : Hid (A = localE s.rules z at_) := by show _ = _; rw [← HA.out]; unfold atL; rw [if_pos HE.out]
  have D1 : Hid (D = localE s.rules z later) := by show _ = _; rw [← HD.out]; unfold atL; rw [if_pos HH.out]
  clear f1 f2 HQ HJ HK RE hk hlt hd
  obtain ⟨a0, _⟩ := ca_at LA.out 0 rfl
  obtain ⟨a1, _⟩ := ca_at LA.out 1 rfl
  obtain ⟨a2, _⟩ := ca_at LA.out 2 rfl
  have sa := LA.out.1
  obtain ⟨d0, _⟩ := ca_at LD.out 0 rfl
  obtain ⟨d1, _⟩ := ca_at LD.out 1 rfl
  obtain ⟨d2, _⟩ := ca_at LD.out 2 rfl
  have sd := LD.out.1
  cases hr : x.rules.isEmpty
  case true =>
    have hr0 : x.rules = [] := by simpa using hr
    obtain ⟨g1, g2⟩ := steps_none (rs := s.rules) F1.out F2.out hr0
    have e : D = A := by rw [A1.out, D1.out, g1]
    have e3 : x.save = A.save := by rw [A1.out]; exact g2.symm
    rw [e3] at e2
    subst e
    clear A1 D1 HA HD g1 g2 e3 hr0 F1 F2
    go_wp2_with fail
    go_quiet (fail)
    go_wp2
    go_ret
    exact ⟨rfl, below_drewN B.out _⟩
  have hr0 : x.rules ≠ [] := by intro q; rw [q] at hr; cases hr
  obtain ⟨u1, u2⟩ := zoneF_src HF.out
  have hxe : x ∈ erasOf xs := era_of u2 (by rw [← zoneZ_is HF.out, HZ.out]; exact List.mem_of_getElem? HX.out)
  have HTE := hid (times_there u1 hxe hr0)
  have HR0 := hid hr0
  obtain ⟨T, hT⟩ : ∃ T, Sx.times s.rules x.rules x.shift = T := ⟨_, rfl⟩
  have hT1 : T.length ≤ 1000 := by rw [← hT]; exact Sx.times_fewZ _ _ _
  have HT := hid hT
  have CT := hid (fun W (hW : Below wc.heap.size wc W) => times_any s.rules (.slice ra s.rules.length rcap) x.rules x.shift W (rd_below G.out.rules hW) G.out.size.rules)
  obtain ⟨s0, _⟩ := ca_at X.out 0 rfl
  have sx := X.out.1
  have SS := hid (show wc.cell? ⟨N, 0, none⟩ = some (.slice ra s.rules.length rcap) ∧ wc.cell? ⟨bZ, 1, none⟩ = some (.slice (some ⟨eb, eo, none⟩) z.eras.length ec) ∧ wc.cell? ⟨eb, eo + k * 10, none⟩ = some (.int .i64 x.shift) ∧ wc.cell? ⟨eb, eo + k * 10 + 1, none⟩ = some (strV x.rules) from ⟨s0, z1, e0, e1⟩)
  have KS : Hid (∀ w7, Below wc.heap.size wc w7 → (w7.cell? ⟨N, 0, none⟩ = some (.slice ra s.rules.length rcap) ∧ w7.cell? ⟨bZ, 1, none⟩ = some (.slice (some ⟨eb, eo, none⟩) z.eras.length ec) ∧ w7.cell? ⟨eb, eo + k * 10, none⟩ = some (.int .i64 x.shift) ∧ w7.cell? ⟨eb, eo + k * 10 + 1, none⟩ = some (strV x.rules))) := fun w7 hb => ⟨(hb.cell (p := ⟨N, 0, none⟩) sx).trans s0, (hb.cell (p := ⟨bZ, 1, none⟩) sz).trans z1, (hb.cell (p := ⟨eb, eo + k * 10, none⟩) heb).trans e0, (hb.cell (p := ⟨eb, eo + k * 10 + 1, none⟩) heb).trans e1⟩
  clear hr0 hxe u1 u2 hT
  go_upto_region 16 with fail
  refine wp_region_held_drew (S := fun w' => w'.cell? ⟨N, 0, none⟩ = some (.slice ra s.rules.length rcap) ∧ w'.cell? ⟨bZ, 1, none⟩ = some (.slice (some ⟨eb, eo, none⟩) z.eras.length ec) ∧ w'.cell? ⟨eb, eo + k * 10, none⟩ = some (.int .i64 x.shift) ∧ w'.cell? ⟨eb, eo + k * 10 + 1, none⟩ = some (strV x.rules)) (by kernel_rfl) SS.out (fun hHeld => ?_)
  refine wpAnyH_take (i := 0) (v := ?vz1z) rfl (by kernel_rfl) (by kernel_rfl) (by kernel_rfl) (fun _ _ _ h => h) (Or.inl ⟨by rfl, ?hyz1z⟩) (by assumption) ?_
  case hyz1z => (intro w hSw; (obtain ⟨s0, z1, e0, e1⟩ := hSw); go_simp; try with_reducible rfl)
  try simp only [Act.put, List.setIfInBounds_toArray, List.set_cons_zero, List.set_cons_succ, List.getElem_toArray, List.getElem_cons_zero, List.getElem_cons_succ]
  refine wpAnyH_take (i := 1) (v := ?vz2z) rfl (by kernel_rfl) (by kernel_rfl) (by kernel_rfl) (fun _ _ _ h => h) (Or.inl ⟨by rfl, ?hyz2z⟩) (by assumption) ?_
  case hyz2z => (intro w hSw; (obtain ⟨s0, z1, e0, e1⟩ := hSw); go_simp; try with_reducible rfl)
  try simp only [Act.put, List.setIfInBounds_toArray, List.set_cons_zero, List.set_cons_succ, List.getElem_toArray, List.getElem_cons_zero, List.getElem_cons_succ]
  refine wpAnyH_take (i := 2) (v := ?vz3z) rfl (by kernel_rfl) (by kernel_rfl) (by kernel_rfl) (fun _ _ _ h => h) (Or.inl ⟨by rfl, ?hyz3z⟩) (by assumption) ?_
  case hyz3z => (intro w hSw; (obtain ⟨s0, z1, e0, e1⟩ := hSw); go_simp; try with_reducible rfl)
  try simp only [Act.put, List.setIfInBounds_toArray, List.set_cons_zero, List.set_cons_succ, List.getElem_toArray, List.getElem_cons_zero, List.getElem_cons_succ]
  refine wpAnyH_take (i := 3) (v := ?vz4z) rfl (by kernel_rfl) (by kernel_rfl) (by kernel_rfl) (fun _ _ _ h => h) (Or.inl ⟨by rfl, ?hyz4z⟩) (by assumption) ?_
  case hyz4z => (intro w hSw; (obtain ⟨s0, z1, e0, e1⟩ := hSw); go_simp; try with_reducible rfl)
  try simp only [Act.put, List.setIfInBounds_toArray, List.set_cons_zero, List.set_cons_succ, List.getElem_toArray, List.getElem_cons_zero, List.getElem_cons_succ]
  refine wpAnyH_take (i := 4) (v := ?vz5z) rfl (by kernel_rfl) (by kernel_rfl) (by kernel_rfl) (fun _ _ _ h => h) (Or.inl ⟨by rfl, ?hyz5z⟩) (by assumption) ?_
  case hyz5z => (intro w hSw; (obtain ⟨s0, z1, e0, e1⟩ := hSw); go_simp; try with_reducible rfl)
  try simp only [Act.put, List.setIfInBounds_toArray, List.set_cons_zero, List.set_cons_succ, List.getElem_toArray, List.getElem_cons_zero, List.getElem_cons_succ]
  refine wpAnyH_take (i := 5) (v := ?vz6z) rfl (by kernel_rfl) (by kernel_rfl) (by kernel_rfl) (fun _ _ _ h => h) (Or.inl ⟨by rfl, ?hyz6z⟩) (by assumption) ?_
  case hyz6z => (intro w hSw; (obtain ⟨s0, z1, e0, e1⟩ := hSw); go_simp; try with_reducible rfl)
  try simp only [Act.put, List.setIfInBounds_toArray, List.set_cons_zero, List.set_cons_succ, List.getElem_toArray, List.getElem_cons_zero, List.getElem_cons_succ]
  refine wpAnyH_take (i := 6) (v := ?vz7z) rfl (by kernel_rfl) (by kernel_rfl) (by kernel_rfl) (fun _ _ _ h => h) (Or.inl ⟨by rfl, ?hyz7z⟩) (by assumption) ?_
  case hyz7z => (intro w hSw; (obtain ⟨s0, z1, e0, e1⟩ := hSw); go_simp; try with_reducible rfl)
  try simp only [Act.put, List.setIfInBounds_toArray, List.set_cons_zero, List.set_cons_succ, List.getElem_toArray, List.getElem_cons_zero, List.getElem_cons_succ]
  refine wpAnyH_take (i := 7) (v := ?vz8z) rfl (by kernel_rfl) (by kernel_rfl) (by kernel_rfl) (fun _ _ _ h => h) (Or.inl ⟨by rfl, ?hyz8z⟩) (by assumption) ?_
  case hyz8z => (intro w hSw; (obtain ⟨s0, z1, e0, e1⟩ := hSw); go_simp; try with_reducible rfl)
  try simp only [Act.put, List.setIfInBounds_toArray, List.set_cons_zero, List.set_cons_succ, List.getElem_toArray, List.getElem_cons_zero, List.getElem_cons_succ]
  refine wpAnyH_take (i := 8) (v := ?vz9z) rfl (by kernel_rfl) (by kernel_rfl) (by kernel_rfl) (fun _ _ _ h => h) (Or.inl ⟨by rfl, ?hyz9z⟩) (by assumption) ?_
  case hyz9z => (intro w hSw; (obtain ⟨s0, z1, e0, e1⟩ := hSw); go_simp; try with_reducible rfl)
  try simp only [Act.put, List.setIfInBounds_toArray, List.set_cons_zero, List.set_cons_succ, List.getElem_toArray, List.getElem_cons_zero, List.getElem_cons_succ]
  refine wpAnyH_take (i := 9) (v := ?vz10z) rfl (by kernel_rfl) (by kernel_rfl) (by kernel_rfl) (fun _ _ _ h => h) (Or.inl ⟨by rfl, ?hyz10z⟩) (by assumption) ?_
  case hyz10z => (intro w hSw; (obtain ⟨s0, z1, e0, e1⟩ := hSw); go_simp; try with_reducible rfl)
  try simp only [Act.put, List.setIfInBounds_toArray, List.set_cons_zero, List.set_cons_succ, List.getElem_toArray, List.getElem_cons_zero, List.getElem_cons_succ]
  refine wpAnyH_take (i := 10) (v := ?vz11z) rfl (by kernel_rfl) (by kernel_rfl) (by kernel_rfl) (fun _ _ _ h => h) (Or.inl ⟨by rfl, ?hyz11z⟩) (by assumption) ?_
  case hyz11z => (intro w hSw; (obtain ⟨s0, z1, e0, e1⟩ := hSw); go_simp; try with_reducible rfl)
  try simp only [Act.put, List.setIfInBounds_toArray, List.set_cons_zero, List.set_cons_succ, List.getElem_toArray, List.getElem_cons_zero, List.getElem_cons_succ]
  refine wpAnyH_take (i := 11) (v := ?vz12z) rfl (by kernel_rfl) (by kernel_rfl) (by kernel_rfl) (fun _ _ _ h => h) (Or.inl ⟨by rfl, ?hyz12z⟩) (by assumption) ?_
  case hyz12z => (intro w hSw; (obtain ⟨s0, z1, e0, e1⟩ := hSw); go_simp; try with_reducible rfl)
  try simp only [Act.put, List.setIfInBounds_toArray, List.set_cons_zero, List.set_cons_succ, List.getElem_toArray, List.getElem_cons_zero, List.getElem_cons_succ]
  refine wpAnyH_take (i := 12) (v := ?vz13z) rfl (by kernel_rfl) (by kernel_rfl) (by kernel_rfl) (fun _ _ _ h => h) (Or.inl ⟨by rfl, ?hyz13z⟩) (by assumption) ?_
  case hyz13z => (intro w hSw; (obtain ⟨s0, z1, e0, e1⟩ := hSw); go_simp; try with_reducible rfl)
  try simp only [Act.put, List.setIfInBounds_toArray, List.set_cons_zero, List.set_cons_succ, List.getElem_toArray, List.getElem_cons_zero, List.getElem_cons_succ]
  refine wpAnyH_take (i := 13) (v := ?vz14z) rfl (by kernel_rfl) (by kernel_rfl) (by kernel_rfl) (fun _ _ _ h => h) (Or.inl ⟨by rfl, ?hyz14z⟩) (by assumption) ?_
  case hyz14z => (intro w hSw; (obtain ⟨s0, z1, e0, e1⟩ := hSw); go_simp; try with_reducible rfl)
  try simp only [Act.put, List.setIfInBounds_toArray, List.set_cons_zero, List.set_cons_succ, List.getElem_toArray, List.getElem_cons_zero, List.getElem_cons_succ]
  refine wpAnyH_ready (rs := [14]) (by kernel_rfl) (by simp) ?_
  refine AllReadyH.cons rfl (fun K hK => ?_) AllReadyH.nil
  go_simp
  refine (CT.out _ (show Below wc.heap.size wc wc.drew from ⟨rfl, rfl, rfl, Nat.le_refl _, fun _ _ => rfl⟩)).mono ?_
  rintro e w10 ⟨tv, rfl, hO, hb10⟩
  have hb := below_drew1 hb10
  have S7 := KS.out w10 hb
  refine hK.out _ _ ?_ (fun hHeld => ?_)
  · exact S7
  clear hK K
  try simp only [Act.put, List.setIfInBounds_toArray, List.set_cons_zero, List.set_cons_succ, List.getElem_toArray, List.getElem_cons_zero, List.getElem_cons_succ]
  refine wpAnyH_take (i := 15) (v := ?vz15z) rfl (by kernel_rfl) (by kernel_rfl) (by kernel_rfl) (fun _ _ _ h => h) (Or.inl ⟨by rfl, ?hyz15z⟩) (by assumption) ?_
  case hyz15z => (intro w hSw; (obtain ⟨s0, z1, e0, e1⟩ := hSw); go_simp; try with_reducible rfl)
  try simp only [Act.put, List.setIfInBounds_toArray, List.set_cons_zero, List.set_cons_succ, List.getElem_toArray, List.getElem_cons_zero, List.getElem_cons_succ]
  refine wpAnyH_take (i := 16) (v := ?vz16z) rfl (by kernel_rfl) (by kernel_rfl) (by kernel_rfl) (fun _ _ _ h => h) (Or.inl ⟨by rfl, ?hyz16z⟩) (by assumption) ?_
  case hyz16z => (intro w hSw; (obtain ⟨s0, z1, e0, e1⟩ := hSw); go_simp; try with_reducible rfl)
  try simp only [Act.put, List.setIfInBounds_toArray, List.set_cons_zero, List.set_cons_succ, List.getElem_toArray, List.getElem_cons_zero, List.getElem_cons_succ]
  refine wpAnyH_take (i := 17) (v := ?vz17z) rfl (by kernel_rfl) (by kernel_rfl) (by kernel_rfl) (fun _ _ _ h => h) (Or.inl ⟨by rfl, ?hyz17z⟩) (by assumption) ?_
  case hyz17z => (intro w hSw; (obtain ⟨s0, z1, e0, e1⟩ := hSw); go_simp; try with_reducible rfl)
  try simp only [Act.put, List.setIfInBounds_toArray, List.set_cons_zero, List.set_cons_succ, List.getElem_toArray, List.getElem_cons_zero, List.getElem_cons_succ]
  refine wpAnyH_take (i := 18) (v := ?vz18z) rfl (by kernel_rfl) (by kernel_rfl) (by kernel_rfl) (fun _ _ _ h => h) (Or.inl ⟨by rfl, ?hyz18z⟩) (by assumption) ?_
  case hyz18z => (intro w hSw; (obtain ⟨s0, z1, e0, e1⟩ := hSw); go_simp; try with_reducible rfl)
  try simp only [Act.put, List.setIfInBounds_toArray, List.set_cons_zero, List.set_cons_succ, List.getElem_toArray, List.getElem_cons_zero, List.getElem_cons_succ]
  refine wpAnyH_take (i := 19) (v := ?vz19z) rfl (by kernel_rfl) (by kernel_rfl) (by kernel_rfl) (fun _ _ _ h => h) (Or.inl ⟨by rfl, ?hyz19z⟩) (by assumption) ?_
  case hyz19z => (intro w hSw; (obtain ⟨s0, z1, e0, e1⟩ := hSw); go_simp; try with_reducible rfl)
  try simp only [Act.put, List.setIfInBounds_toArray, List.set_cons_zero, List.set_cons_succ, List.getElem_toArray, List.getElem_cons_zero, List.getElem_cons_succ]
  refine wpAnyH_done (by kernel_rfl) ?_ _
  have hle3 := Nat.le_of_lt X.out.1
  replace B := hid (below_on B.out hle3 hb)
  replace LA := hid (ca_below LA.out hb)
  replace LD := hid (ca_below LD.out hb)
  have RT := hid (ownTimes_rd hO)
  obtain ⟨ta, tc, rfl⟩ := owns_shape0 hO
  rw [HTE.out]
  rw [HT.out] at RT ⊢
  clear hb hO s0 sx z0 z1 e0 e1 e2 heb sz KS SS CT a0 a1 a2 sa d0 d1 d2 sd S7 hle3
  go_wp2_with fail
  go_loopw [19] (fun iv wr => ∃ i : Nat, i ≤ T.length ∧ iv = .int .i64 i ∧ Hid (Below w10.heap.size w10 wr) ∧ Hid (∀ (j : Nat) (t : Sx.Tm), j < i → T[j]? = some t → ¬ (at_ < t.at_ ∧ t.at_ ≤ later))) (fun iv _ => T.length - (intOf iv).toNat)
  case atStart => exact ⟨0, Nat.zero_le _, rfl, Below.refl _ _, fun j t h => absurd h (Nat.not_lt_zero _)⟩
  case round =>
    obtain ⟨i, hi, rfl, BR, HJ⟩ := hrel
    by_cases hlt3 : i < T.length
    case neg =>
      have e : D = A := by
        rw [A1.out, D1.out]
        refine (steps_rules hle F1.out F2.out HR0.out fun j t ht => ?_).symm
        rw [HT.out] at ht
        exact HJ.out j t (by have := (List.getElem?_eq_some_iff.1 ht).1; omega) ht
      subst e
      have q : ¬ (i : Int) < (T.length : Int) := by omega
      have LA' := hid (ca_below LA.out BR.out)
      have LD' := hid (ca_below LD.out BR.out)
      have BB := hid (below_on B.out (by have := B.out.size; rw [hN] at this; exact this) BR.out)
      obtain ⟨a0, _⟩ := ca_at LA'.out 0 rfl
      obtain ⟨a1, _⟩ := ca_at LA'.out 1 rfl
      obtain ⟨a2, _⟩ := ca_at LA'.out 2 rfl
      have sa := LA'.out.1
      obtain ⟨d0, _⟩ := ca_at LD'.out 0 rfl
      obtain ⟨d1, _⟩ := ca_at LD'.out 1 rfl
      obtain ⟨d2, _⟩ := ca_at LD'.out 2 rfl
      have sd := LD'.out.1
      clear hlt3 A1 D1 HA HD
      go_wp2
      go_ret
      exact ⟨rfl, BB.out⟩
    obtain ⟨t, ht⟩ : ∃ t, T[i]? = some t := ⟨_, List.getElem?_eq_getElem hlt3⟩
    obtain ⟨tb, to_, rfl, htb, hc⟩ := rd_elem (rd_below RT.out BR.out) ht
    have c0 : wr.cell? ⟨tb, to_ + i * 3, none⟩ = some (.int .i64 t.at_) := by have := hc 0 _ rfl; simpa using this
    have HTT := hid ht
    have BB := hid (below_on B.out (by have := B.out.size; rw [hN] at this; exact this) BR.out)
    clear hc ht
    by_cases g1 : at_ < t.at_
    · have g1' : decide (at_ < t.at_) = true := by simp [g1]
      by_cases g2 : t.at_ ≤ later
      · go_wp2
        go_ret
        exact ⟨rfl, BB.out⟩
      · go_wp2
        go_roundw
        case rel =>
          refine ⟨i + 1, by omega, by go_num, BR, fun j x hj hx => ?_⟩
          rcases Nat.lt_or_ge j i with a | a
          · exact HJ.out j x a hx
          · have e : j = i := by omega
            rw [e, HTT.out] at hx
            simp at hx
            subst hx
            exact fun h => g2 h.2
        case measure => simp [intOf]; omega
    · have g1' : decide (at_ < t.at_) = false := by simp; omega
      go_wp2
      go_roundw
      case rel =>
        refine ⟨i + 1, by omega, by go_num, BR, fun j x hj hx => ?_⟩
        rcases Nat.lt_or_ge j i with a | a
        · exact HJ.out j x a hx
        · have e : j = i := by omega
          rw [e, HTT.out] at hx
          simp at hx
          subst hx
          exact fun h => g1 h.1
      case measure => simp [intOf]; omega
theorem zoneSteps_row (s : Sx.Sr) (xs : List ZV) (ra za la : Option Addr) (rcap zcap lcap : Nat) (a1 : ByteArray) (at_ later : Int) (w : World) (g : SrcArg s xs ra za la rcap zcap lcap w) (m : Int) (hm : w.cell? ⟨0, 0, none⟩ = some (.int .i64 m)) (h0 : 0 < w.heap.size) :
    Calls Tryz.prog 7 #[.agg #[.slice ra s.rules.length rcap, .slice za xs.length zcap, .slice la s.links.length lcap], .string a1, .int .i64 at_, .int .i64 later] w fun e w' => e = .returned (.bool true) ∧ Below w.heap.size w w' := by
  have q := zoneSteps_is s xs ra za la rcap zcap lcap m a1.data.toList at_ later w (srcIn_arg g hm h0)
  rw [strT_of] at q
  exact q
end Go.Proofs.YtkhlkohlccndgaaGreat
namespace Go.Proofs.YtkhlkohlccndgaaGreat
open Go.ChangeShapes Go.WideShapes Go.ChangeAt Go.RowKit
set_option linter.unusedVariables false

theorem int_of_shape {P : Program} {w : World} {g : Nat} {t : TypeId} {zero : Array Value} (h : w.ShapedOpen P) (hg : g < P.globals.size)
    (h0 : ((begin P (fun _ _ => 0) default).world.heap[g]?).bind Obj.row? = some (zero, t)) (hz : zero.size = 1)
    (hb : P.buildable t = true) (hc : P.cellTypes P.depth t = some [t]) (hu : P.underlying t = some (.int .i64)) : ∃ m, w.cell? ⟨g, 0, none⟩ = some (.int .i64 m) := by
  obtain ⟨cs, hh, hs, hr⟩ := h.1 g zero t hg h0
  obtain ⟨ts, hts, _, hall⟩ := hr hb
  rw [hc] at hts
  cases hts
  have h1 : 0 < cs.size := by omega
  obtain ⟨u, hu', hok⟩ := hall 0 cs[0] (by simp [h1])
  have : u = t := by simpa using hu'.symm
  subst this
  have hcell : w.cell? ⟨g, 0, none⟩ = some cs[0] := by simp [World.cell?, hh, h1]
  rw [hcell]
  unfold Cell.ok at hok
  rw [hu] at hok
  cases hv : cs[0] <;> rw [hv] at hok <;> simp at hok ⊢
  rename_i k n
  cases k <;> simp_all
theorem globalsSome : decide (0 < Tryz.prog.globals.size) = true := by kernel_rfl
theorem maxLen_is {w : World} (h : w.ShapedOpen Tryz.prog) : ∃ m, w.cell? ⟨0, 0, none⟩ = some (.int .i64 m) :=
  int_of_shape (t := 3) (zero := #[.int .i64 0]) h (of_decide_eq_true globalsSome) (by kernel_rfl) rfl (by kernel_rfl) (by kernel_rfl) Tryz.underlying3
theorem heap_pos {w : World} {m : Int} (h : w.cell? ⟨0, 0, none⟩ = some (.int .i64 m)) : 0 < w.heap.size := by
  unfold World.cell? at h
  split at h
  · rename_i hb; exact (Array.getElem?_eq_some_iff.1 hb).1
  · cases h
end Go.Proofs.YtkhlkohlccndgaaGreat
namespace Go.Proofs.YtkhlkohlccndgaaGreat
open Go.ChangeShapes Go.WideShapes Go.ChangeAt Go.RowKit Go.Joins Go.ChangeMaps
set_option linter.unusedVariables false

set_option maxRecDepth 100000 in
theorem zoneSteps_lifted (os : Os) (started : os.Started) (H : Type) (enc : TypeId × Value → H) :
    ReturnsInHanded {} Tryz.checked os 7 .any (Rows.zoneStepsSpec.pre6 enc Tryz.prog Tryz.f7 Rows.zoneStepsRow.domain false) (Rows.zoneStepsSpec.post enc Tryz.prog Tryz.f7 false true false false) := by
  refine returnsInHanded_of_change_shaped (C := Tryz.checked) own started (by kernel_rfl) Tryz.func7
    (ChangeSpec.witness6 (enc := enc) (C := Tryz.checked) false ⟨#[], #[.agg #[.slice none 0 0, .slice none 0 0, .slice none 0 0], .string ⟨#[]⟩, .int .i64 0, .int .i64 0], []⟩ 8 (by kernel_rfl) (by kernel_rfl) (by kernel_rfl) (by kernel_rfl)) ?_
  intro W base args ds gs before hval0 hW hcnd hsz hsh _
  have hval : ∀ (j : Nat) t v, Tryz.f7.params[j]? = some t → args[j]? = some v → Value.okWide Tryz.prog W .any base t v := hval0
  have hW' := hW
  obtain ⟨p, q, hA0, hV, rfl, hfz, hnd⟩ := hW
  have hA : DataW.TrodAll enc Tryz.prog W 0 (fun _ => true) true Tryz.f7.params.toList args.toList ds p := hA0
  rw [Tryz.params7] at hA hval
  obtain ⟨v0, v1, v2, v3, d0, d1, d2, d3, p0, p1, p2, p3, rfl, rfl, rfl, h0, h1, h2, h3⟩ := trodAll_four hA
  obtain ⟨rfl, rfl⟩ := trodVars_none hV
  obtain ⟨⟨s0, xs0, ra0, za0, la0, rc0, zc0, lc0, rfl, g0⟩, lt0⟩ := open_source_arg (hval 0 26 v0 rfl rfl) h0
  obtain ⟨a1, rfl, rfl, rfl, w1⟩ := open_string Tryz.underlying9 (hval 1 9 v1 rfl rfl) h1
  obtain ⟨a2, rfl, rfl, rfl, w2⟩ := open_int Tryz.underlying3 (hval 2 3 v2 rfl rfl) h2
  obtain ⟨a3, rfl, rfl, rfl, w3⟩ := open_int Tryz.underlying3 (hval 3 3 v3 rfl rfl) h3
  obtain ⟨m, hm⟩ := maxLen_is hsh
  clear hA0 hval0
  refine (zoneSteps_row s0 xs0 ra0 za0 la0 rc0 zc0 lc0 a1 a2 a3 W g0 m hm (heap_pos hm)).mono fun e W' ⟨he, bel⟩ => ?_
  subst he
  exact ⟨_, rfl, _, _, _, [], _, [], hW', trodAll_mk1 (shut_bool Tryz.underlying4 _), trodAll_mk4 (source_stays h0 bel lt0) (shut_string Tryz.underlying9 w1) (shut_int Tryz.underlying3 w2) (shut_int Tryz.underlying3 w3), rfl, bel.frame _, fun h => by cases h⟩

theorem zoneSteps_holds : Rows.ZoneStepsSaid :=
  OpenClaim.holds_of_wide 7 Tryz.f7 rfl rfl rfl rfl rfl rfl rfl ⟨rfl, rfl, rfl, rfl, rfl⟩ rfl rfl rfl rfl rfl (by kernel_rfl) Tryz.func7 (by kernel_rfl)
    (of_decide_eq_true (by kernel_rfl)) (by unfold Func.isWrapper; first | (rw [if_pos (by decide +kernel)]; kernel_rfl) | (rw [if_neg (by decide +kernel)]; exact ⟨rfl, rfl⟩))
    (fun os started H enc _ => zoneSteps_lifted os started H enc)
#print axioms zoneSteps_holds
end Go.Proofs.YtkhlkohlccndgaaGreat
