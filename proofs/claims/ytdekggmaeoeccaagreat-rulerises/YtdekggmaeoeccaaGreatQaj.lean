/- Proved: times of rules rise, there are as many as rules have years, and further to the east they are no later (the law RuleRises), for every list of rules, name and shifts; no condition. -/
import Derived.Test.YtdekggmaeoeccaaGreatQai
import Derived.Test.YtdekggmaeoeccaaGreatQaf
import Derived.Test.YtdekggmaeoeccaaGreatQag
import Derived.Test.YtdekggmaeoeccaaGreatQaa
import Derived.ProofKit
import Derived.OpenShut
import Derived.Lib.SmallJoins
import Derived.Deep.Slices
import Derived.Deep.Strs
import Derived.Carry
namespace Go.Proofs.YtdekggmaeoeccaaGreat
open Go.RowKit
set_option linter.unusedVariables false
set_option linter.unusedSimpArgs false

def textB : Tx.Bs := [82, 117, 108, 101, 32, 101, 117, 32, 49, 57, 56, 49, 32, 109, 97, 120, 32, 77, 97, 114, 32, 108, 97, 115, 116, 83, 117, 110, 32, 49, 58, 48, 48, 117, 32, 49, 58, 48, 48, 32, 83, 10, 82, 117, 108, 101, 32, 101, 117, 32, 49, 57, 57, 54, 32, 109, 97, 120, 32, 79, 99, 116, 32, 108, 97, 115, 116, 83, 117, 110, 32, 49, 58, 48, 48, 117, 32, 48, 32, 45, 10, 90, 111, 110, 101, 32, 72, 101, 114, 101, 47, 84, 111, 119, 110, 32, 48, 58, 49, 48, 32, 45, 32, 76, 77, 84, 32, 49, 56, 56, 48, 32, 74, 97, 110, 32, 49, 32, 48, 10, 32, 32, 49, 58, 48, 48, 32, 101, 117, 32, 67, 69, 37, 115, 84, 10, 76, 105, 110, 107, 32, 72, 101, 114, 101, 47, 84, 111, 119, 110, 32, 79, 108, 100, 10]
def euB : Tx.Bs := [101, 117]
def townB : Tx.Bs := [72, 101, 114, 101, 47, 84, 111, 119, 110]
def src0 : Sx.Sr :=
  ⟨[⟨euB, 1981, 2100, 3, 2, 0, 0, 3600, 3, 3600, [83]⟩, ⟨euB, 1996, 2100, 10, 2, 0, 0, 3600, 3, 0, []⟩],
   [⟨townB, [⟨600, [], 0, [76, 77, 84], false, 1880, 1, 1, 0, 2⟩, ⟨3600, euB, 0, [67, 69, 37, 115, 84], true, 0, 0, 0, 0, 0⟩]⟩],
   [⟨townB, [79, 108, 100]⟩]⟩
theorem parse_text : Sx.parse textB = ⟨src0, 0, 0⟩ := by kernel_rfl
set_option maxRecDepth 100000 in
set_option maxHeartbeats 2000000 in
theorem parsed_any (w : World) :
    Calls Tryz.prog 6 #[] w fun e w' => ∃ r z l, e = .returned (.agg #[r, z, l]) ∧ OwnSrc w' w.heap.size r z l src0 ∧ Below w.heap.size w w' := by
  have RX0 := hid (ca_new w [nilS, nilS, nilS] 38)
  have BW0 := hid ((Below.refl w.heap.size w).alloc (Nat.le_refl _) (.cells [nilS, nilS, nilS].toArray 38))
  go_enter Tryz.func6, Tryz.ntmps6
  go_wp2_with fail
  refine (parseOf_any _ _).mono ?_
  intro e w1 h
  have h2 : ParseEnd textB (w.alloc (.cells #[.slice none 0 0, .slice none 0 0, .slice none 0 0] 38)) e w1 := h
  clear h
  obtain ⟨⟨r, z, l, rfl, hown⟩, hb⟩ := h2
  rw [parse_text] at hown ⊢
  have hown2 : OwnSrc w1 (w.heap.size + 1) r z l src0 := by simpa using hown
  have H := hid hown2
  have B1 : Hid (Below w.heap.size w w1) := BW0.out.trans (hb.mono BW0.out.size)
  have R1 := hid (ca_below RX0.out hb)
  obtain ⟨ra, rcap, rfl⟩ := owns_shape0 hown2.rules
  obtain ⟨za, zcap, rfl⟩ := ownSrc_zs hown2
  obtain ⟨la, lcap, rfl⟩ := owns_shape0 hown2.links
  clear hown hown2 hb RX0 BW0
  obtain ⟨r0, rf0⟩ := ca_at R1.out 0 rfl
  obtain ⟨r1, rf1⟩ := ca_at R1.out 1 rfl
  obtain ⟨r2, rf2⟩ := ca_at R1.out 2 rfl
  have hR := R1.out.1
  go_wp2
  refine bodyPost_ret (v := .agg #[.slice ra src0.rules.length rcap, .slice za src0.zones.length zcap, .slice la src0.links.length lcap]) (by simp [results, Tryz.results6, go_sem, *]) rfl ⟨_, _, _, rfl, ?_, ?_⟩
  · exact own_base (ownSrc_below (ownSrc_far (ownSrc_far (ownSrc_far H.out (by omega)) (by omega)) (by omega)) ((Below.refl _ _).alloc (Nat.le_refl _) _)) (by omega)
  · exact (below_set (below_set (below_set B1.out (Nat.le_refl _) _) (Nat.le_refl _) _) (Nat.le_refl _) _).alloc (by have := B1.out.size; simpa using this) _
end Go.Proofs.YtdekggmaeoeccaaGreat
namespace Go.Proofs.YtdekggmaeoeccaaGreat
set_option linter.unusedVariables false

def usB : Tx.Bs := [117, 115]
theorem eu_ok : Sx.timesE src0.rules euB 3600 = 0 := by kernel_rfl
theorem us_none : Sx.timesE src0.rules usB 3600 = 5 := by kernel_rfl
theorem eu_len : (Sx.times src0.rules euB 3600).length = 225 := by kernel_rfl
theorem eu_15 : (Sx.times src0.rules euB 3600)[15]? = some ⟨828234000, 3600, [83]⟩ := by kernel_rfl
theorem src0_sized : ∀ r ∈ src0.rules, r.name.length ≤ maxLen ∧ r.letter.length ≤ maxLen := by
  intro r hr
  simp [src0, euB] at hr
  rcases hr with rfl | rfl <;> simp [maxLen]
end Go.Proofs.YtdekggmaeoeccaaGreat
namespace Go.Proofs.YtdekggmaeoeccaaGreat
open Go.RowKit
set_option linter.unusedVariables false
set_option linter.unusedSimpArgs false

theorem rd_time {w : World} {b o i : Nat} {t : Sx.Tm} (h : ∀ k u, (timeC t)[k]? = some u → w.cell? ⟨b, o + i * 3 + k, none⟩ = some u) :
    w.cell? ⟨b, o + i * 3, none⟩ = some (.int .i64 t.at_) ∧ w.cell? ⟨b, o + i * 3 + 1, none⟩ = some (.int .i64 t.save) ∧ w.cell? ⟨b, o + i * 3 + 2, none⟩ = some (strV t.letter) :=
  ⟨h 0 _ rfl, h 1 _ rfl, h 2 _ rfl⟩
theorem ownTimes_rd {w : World} {B : Nat} {v : Value} {l : List Sx.Tm} (h : OwnTimes w B v l) : RdTimes w v l := own_rd (fun _ => rfl) h
set_option maxRecDepth 100000 in
set_option maxHeartbeats 2000000 in
theorem ruleBegun_is (w : World) : Calls Tryz.prog 4 #[] w fun e w' => e = .returned (.bool true) ∧ Below w.heap.size w w' := by
  have HE := hid eu_ok
  have HU := hid us_none
  have HL := hid eu_len
  have H15 := hid eu_15
  have HS := hid src0_sized
  have hfd : ∀ (r z l : Value) (w : World), (Instr.field 38 (.agg #[r, z, l]) 0).run Tryz.prog w = .ok r w := fun _ _ _ _ => by kernel_rfl
  go_enter Tryz.func4, Tryz.ntmps4
  go_wp2_with fail
  refine (parsed_any _).mono ?_
  rintro e w1 ⟨r, z, l, rfl, hown, hb⟩
  have B1 := hid hb
  have R1 := hid (ownSrc_rd hown).rules
  obtain ⟨ra, rc, rfl⟩ := rd_shape R1.out
  clear hown hb
  go_wp2_with fail
  refine (times_any src0.rules _ euB 3600 w1 R1.out HS.out).mono ?_
  rintro e w2 ⟨v, rfl, hown, hb⟩
  rw [HE.out]
  have T2 := hid (ownTimes_rd hown)
  have B2 : Hid (Below w.heap.size w w2) := B1.out.trans (hb.mono B1.out.size)
  clear hown hb B1 R1
  go_wp2_with fail
  refine (parsed_any _).mono ?_
  rintro e w3 ⟨r, z, l, rfl, hown, hb⟩
  have T3 := hid (rd_below T2.out hb)
  have B3 : Hid (Below w.heap.size w w3) := B2.out.trans (hb.mono B2.out.size)
  have R3 := hid (ownSrc_rd hown).rules
  obtain ⟨ra, rc, rfl⟩ := rd_shape R3.out
  clear hown hb B2 T2
  go_wp2_with fail
  refine (times_any src0.rules _ usB 3600 w3 R3.out HS.out).mono ?_
  rintro e w4 ⟨v', rfl, hown, hb⟩
  rw [HU.out]
  have T4 := hid (rd_below T3.out hb)
  have B4 : Hid (Below w.heap.size w w4) := B3.out.trans (hb.mono B3.out.size)
  obtain ⟨ta, tc, rfl⟩ := rd_shape T4.out
  obtain ⟨ua, uc, rfl⟩ := owns_shape0 hown
  clear hown hb B3 T3 R3
  obtain ⟨rb, ro, rfl, hrb, hc⟩ := rd_elem T4.out H15.out
  obtain ⟨c0, c1, c2⟩ := rd_time hc
  dsimp only at c0 c1 c2
  rw [HL.out]
  clear T4 hc
  go_wp2
  go_ret
  exact ⟨rfl, B4.out⟩
end Go.Proofs.YtdekggmaeoeccaaGreat
namespace Go.Proofs.YtdekggmaeoeccaaGreat
open Go.RowKit
set_option linter.unusedVariables false
set_option linter.unusedSimpArgs false

set_option maxRecDepth 100000 in
set_option maxHeartbeats 4000000 in
theorem rises_is (rs : List Sx.Rl) (rv : Value) (s : ByteArray) (shift more : Int) (w : World) (h : RdRules w rv rs) (hs : ∀ r ∈ rs, r.name.length ≤ maxLen ∧ r.letter.length ≤ maxLen) :
    Calls Tryz.prog 3 #[rv, .string s, .int .i64 shift, .int .i64 more] w fun e w' => e = .returned (.bool true) ∧ Below w.heap.size w w' := by
  obtain ⟨ra, rcap, rfl⟩ := rd_shape h
  obtain ⟨name, hname⟩ : ∃ name : Tx.Bs, s.data.toList = name := ⟨_, rfl⟩
  have hsv : Value.string s = strV name := by rw [← hname]
  rw [hsv]
  clear hsv hname
  have H := hid h
  have HS := hid hs
  clear h hs
  go_enter Tryz.func3, Tryz.ntmps3
  go_wp2_with fail
  refine (ruleBegun_is _).mono ?_
  rintro e w1 ⟨rfl, hb⟩
  have B1 := hid hb
  clear hb
  go_wp2_with fail
  refine (times_any rs _ name shift w1 (rd_below H.out B1.out) HS.out).mono ?_
  rintro e w2 ⟨v, rfl, hown, hb⟩
  have B2 : Hid (Below w.heap.size w w2) := B1.out.trans (hb.mono B1.out.size)
  have T2 := hid (ownTimes_rd hown)
  clear hown hb B1
  by_cases hE : Sx.timesE rs name shift = 0
  case neg =>
    have HN : Hid (Sx.times rs name shift = []) := Sx.times_no hE
    rw [HN.out] at T2
    obtain ⟨ta, tc, rfl⟩ := rd_shape T2.out
    obtain ⟨E, hEE⟩ : ∃ E, Sx.timesE rs name shift = E := ⟨_, rfl⟩
    rw [hEE] at hE ⊢
    have hne : (E != 0) = true := by simp [hE]
    clear T2 hEE hE HN
    go_wp2
    go_ret
    exact ⟨rfl, B2.out⟩
  have HE := hid hE
  have HY := hid (Sx.times_years hE)
  have HT := hid (Sx.times_ok hE)
  have HSO := hid (Sx.src_ok HT.out.src)
  obtain ⟨ts, hts⟩ : ∃ ts, Sx.times rs name shift = ts := ⟨_, rfl⟩
  rw [hts] at T2 HY
  have HTS := hid hts
  rw [hE]
  obtain ⟨ta, tc, rfl⟩ := rd_shape T2.out
  have R2 := hid (rd_below H.out B2.out)
  clear hE hts
  go_wp2_with fail
  go_loopw [11, 12] (fun sv iv wr => ∃ i : Nat, i ≤ rs.length ∧ iv = .int .i64 i ∧ ∃ n : Int, sv = .int .i64 n ∧ Hid (Sx.yearsOf (rs.take i) name = n) ∧ Hid (Below w2.heap.size w2 wr)) (fun _ iv _ => rs.length - (intOf iv).toNat)
  case atStart => exact ⟨0, Nat.zero_le _, rfl, 0, rfl, rfl, Below.refl _ _⟩
  case round =>
    obtain ⟨i, hi, rfl, n, rfl, HN, BR⟩ := hrel
    have h40 := HSO.out.1
    by_cases hlt : i < rs.length
    case pos =>
      obtain ⟨r, hx⟩ : ∃ r, rs[i]? = some r := ⟨_, List.getElem?_eq_getElem hlt⟩
      have RW := rd_below R2.out BR.out
      obtain ⟨rb, ro, rfl, hrb, hc⟩ := rd_elem RW hx
      have c0 : wr.cell? ⟨rb, ro + i * 11, none⟩ = some (strV r.name) := hc 0 _ rfl
      have c1 : wr.cell? ⟨rb, ro + i * 11 + 1, none⟩ = some (.int .i64 r.frm) := hc 1 _ rfl
      have c2 : wr.cell? ⟨rb, ro + i * 11 + 2, none⟩ = some (.int .i64 r.to) := hc 2 _ rfl
      have HX := hid (Sx.years_take (name := name) hx)
      have bd := Sx.years_bd (rs := rs.take i) (name := name) (fun x hx => HSO.out.2 x (List.mem_of_mem_take hx))
      have ok := HSO.out.2 r (List.mem_of_getElem? hx)
      have o1 := ok.frm
      have o2 := ok.le
      have o3 := ok.to
      rw [HN.out, List.length_take] at bd
      have b1 : 0 ≤ n := bd.1
      have b2 : n ≤ 8040 := by have := bd.2; omega
      rw [HN.out] at HX
      obtain ⟨rname, hrn⟩ : ∃ rname, r.name = rname := ⟨_, rfl⟩
      obtain ⟨rf, hrf⟩ : ∃ rf, r.frm = rf := ⟨_, rfl⟩
      obtain ⟨rt, hrt⟩ : ∃ rt, r.to = rt := ⟨_, rfl⟩
      rw [hrn] at c0
      rw [hrf] at c1 o1 o2
      rw [hrt] at c2 o2 o3
      rw [hrn, hrf, hrt] at HX
      clear hc RW hx bd ok hrn hrf hrt HT
      cases q : (rname == name)
      · have HX2 : Hid (Sx.yearsOf (rs.take (i + 1)) name = n) := by show _ = _; rw [HX.out, if_neg (by simp [q])]; omega
        clear HX
        go_wp2_with fail
        go_roundw
        case rel => exact ⟨i + 1, by omega, by go_num, _, rfl, HX2, BR⟩
        case measure => simp [intOf]; omega
      · have HX2 : Hid (Sx.yearsOf (rs.take (i + 1)) name = n + (rt - rf + 1)) := by show _ = _; rw [HX.out, if_pos q]
        clear HX
        go_wp2_with fail
        go_quiet (fail)
        go_wp2
        go_roundw
        case rel => exact ⟨i + 1, by omega, by go_num, _, rfl, HX2, below_drewN BR.out _⟩
        case measure => simp [intOf]; omega
    case neg =>
      have e : rs.take i = rs := List.take_of_length_le (by omega)
      rw [e] at HN
      have hn : n = (ts.length : Int) := by have := HY.out; rw [HN.out] at this; omega
      subst hn
      have B3 : Hid (Below w.heap.size w wr) := B2.out.trans (BR.out.mono B2.out.size)
      have T3 := hid (rd_below T2.out BR.out)
      have R3 := hid (rd_below R2.out BR.out)
      clear e HN hi B2 T2 R2 BR
      have hlen : ts.length ≤ 10000 := by have := turns_few (name := name) HSO.out.2 HSO.out.1; have := Sx.times_len HE.out; rw [HTS.out] at this; omega
      go_wp2_with fail
      clear hlt
      refine (times_any rs _ name more wr R3.out HS.out).mono ?_
      rintro e w3 ⟨v', rfl, hown, hb⟩
      have B4 : Hid (Below w.heap.size w w3) := B3.out.trans (hb.mono B3.out.size)
      have T4 := hid (rd_below T3.out hb)
      have U4 := hid (ownTimes_rd hown)
      clear hown hb B3 T3 R3
      have RISE : Hid (∀ (i : Nat) x y, ts[i]? = some x → ts[i + 1]? = some y → x.at_ < y.at_) := by rw [← HTS.out]; exact fun i x y a b => Sx.rise_at HE.out a b
      by_cases hE2 : Sx.timesE rs name more = 0
      case neg =>
        obtain ⟨E, hEE⟩ : ∃ E, Sx.timesE rs name more = E := ⟨_, rfl⟩
        rw [hEE] at hE2 ⊢
        have hne : (E == 0) = false := by simp [hE2]
        obtain ⟨ua, uc, rfl⟩ := rd_shape U4.out
        clear hEE hE2 U4 HE HT HTS HSO HY
        go_wp2_with fail
        go_loopw [14] (fun iv wr => ∃ i : Nat, i ≤ ts.length ∧ iv = .int .i64 i ∧ Hid (Below w3.heap.size w3 wr)) (fun iv _ => ts.length - (intOf iv).toNat)
        case atStart => exact ⟨0, Nat.zero_le _, rfl, Below.refl _ _⟩
        case round =>
          obtain ⟨i, hi, rfl, BR⟩ := hrel
          by_cases hlt : i < ts.length
          case neg =>
            go_wp2
            go_ret
            exact ⟨rfl, B4.out.trans (BR.out.mono B4.out.size)⟩
          obtain ⟨x, hx⟩ : ∃ x, ts[i]? = some x := ⟨_, List.getElem?_eq_getElem hlt⟩
          have TW := rd_below T4.out BR.out
          obtain ⟨tb, to_, rfl, htb, hc⟩ := rd_elem TW hx
          have c0 : wr.cell? ⟨tb, to_ + i * 3, none⟩ = some (.int .i64 x.at_) := hc 0 _ rfl
          cases i with
          | zero =>
            clear hc TW hx RISE
            go_wp2_with fail
            go_quiet (fail)
            go_wp2
            go_quiet (fail)
            go_wp2
            go_roundw
            case rel => exact ⟨0 + 1, by omega, by go_num, below_drewN BR.out _⟩
            case measure => simp [intOf]; omega
          | succ k =>
            obtain ⟨y, hy⟩ : ∃ y, ts[k]? = some y := ⟨_, List.getElem?_eq_getElem (by omega)⟩
            obtain ⟨tb', to', e2, _, hc'⟩ := rd_elem TW hy
            simp only [Option.some.injEq, Addr.mk.injEq] at e2
            obtain ⟨rfl, rfl, _⟩ := e2
            have d0 : wr.cell? ⟨tb, to_ + k * 3, none⟩ = some (.int .i64 y.at_) := hc' 0 _ rfl
            have hr : ¬ x.at_ ≤ y.at_ := by have := RISE.out k y x hy hx; omega
            clear hc hc' TW hx hy RISE
            go_wp2_with fail
            go_quiet (fail)
            go_wp2
            go_quiet (fail)
            go_wp2
            go_roundw
            case rel => exact ⟨k + 1 + 1, by omega, by go_num, below_drewN BR.out _⟩
            case measure => simp [intOf]; omega
      case pos =>
        have HE2 := hid hE2
        have K2 := hid (Sx.times_ok hE2)
        have EAST : Hid (shift ≤ more → ∀ (i : Nat) x y, ts[i]? = some x → (Sx.times rs name more)[i]? = some y → y.at_ ≤ x.at_ ∧ x.at_ - y.at_ ≤ more - shift) := by
          show _ → _
          rw [← HTS.out]; exact fun hm i x y a b => Sx.east_at HE.out HE2.out hm a b
        have TB : Hid (∀ (i : Nat) x, ts[i]? = some x → -2000000000000 ≤ x.at_ ∧ x.at_ ≤ 2000000000000) := by
          show ∀ _, _
          rw [← HTS.out]; exact fun i x a => Sx.times_bd HE.out a
        have UB : Hid (∀ (i : Nat) x, (Sx.times rs name more)[i]? = some x → -2000000000000 ≤ x.at_ ∧ x.at_ ≤ 2000000000000) := fun i x a => Sx.times_bd HE2.out a
        have ULEN : Hid ((Sx.times rs name more).length = ts.length) := by
          show _ = _
          rw [← HTS.out, Sx.times_len HE.out, Sx.times_len HE2.out]
        have m1 := K2.out.s1
        have m2 := K2.out.s2
        have n1 := HT.out.s1
        have n2 := HT.out.s2
        obtain ⟨us, hus⟩ : ∃ us, Sx.times rs name more = us := ⟨_, rfl⟩
        rw [hus] at EAST UB ULEN U4
        rw [hE2]
        obtain ⟨ua, uc, rfl⟩ := rd_shape U4.out
        rw [ULEN.out] at U4 ⊢
        clear hE2 hus HE HE2 K2 HT HTS HSO HY
        go_wp2_with fail
        go_loopw [14] (fun iv wr => ∃ i : Nat, i ≤ ts.length ∧ iv = .int .i64 i ∧ Hid (Below w3.heap.size w3 wr)) (fun iv _ => ts.length - (intOf iv).toNat)
        case atStart => exact ⟨0, Nat.zero_le _, rfl, Below.refl _ _⟩
        case round =>
          obtain ⟨i, hi, rfl, BR⟩ := hrel
          by_cases hlt : i < ts.length
          case neg =>
            go_wp2
            go_ret
            exact ⟨rfl, B4.out.trans (BR.out.mono B4.out.size)⟩
          obtain ⟨x, hx⟩ : ∃ x, ts[i]? = some x := ⟨_, List.getElem?_eq_getElem hlt⟩
          obtain ⟨z, hz⟩ : ∃ z, us[i]? = some z := ⟨_, List.getElem?_eq_getElem (by have := ULEN.out; omega)⟩
          have TW := rd_below T4.out BR.out
          have UW := rd_below U4.out BR.out
          obtain ⟨tb, to_, rfl, htb, hc⟩ := rd_elem TW hx
          have c0 : wr.cell? ⟨tb, to_ + i * 3, none⟩ = some (.int .i64 x.at_) := hc 0 _ rfl
          obtain ⟨ub, uo, rfl, hub, hcu⟩ := rd_elem UW hz
          have u0 : wr.cell? ⟨ub, uo + i * 3, none⟩ = some (.int .i64 z.at_) := hcu 0 _ rfl
          have xb := TB.out i x hx
          have zb := UB.out i z hz
          have x1 := xb.1
          have x2 := xb.2
          have z1 := zb.1
          have z2 := zb.2
          have EX : Hid (shift ≤ more → z.at_ ≤ x.at_ ∧ x.at_ - z.at_ ≤ more - shift) := fun hm => EAST.out hm i x z hx hz
          clear xb zb UW hcu hz
          cases i with
          | zero =>
            clear hc TW hx
            have c0' : wr.cell? ⟨tb, to_, none⟩ = some (.int .i64 x.at_) := by simpa using c0
            have u0' : wr.cell? ⟨ub, uo, none⟩ = some (.int .i64 z.at_) := by simpa using u0
            by_cases hm : shift ≤ more
            · have e1 : ¬ x.at_ < z.at_ := by have := (EX.out hm).1; omega
              have e2 : ¬ more - shift < x.at_ - z.at_ := by have := (EX.out hm).2; omega
              have hd : decide (shift ≤ more) = true := by simp [hm]
              have hd1 : decide (x.at_ < z.at_) = false := by simp; omega
              clear EX
              go_wp2_with fail
              go_quiet (fail)
              go_wp2
              go_quiet (fail)
              go_wp2
              go_roundw
              case rel => exact ⟨0 + 1, by omega, by go_num, below_drewN BR.out _⟩
              case measure => simp [intOf]; omega
            · have hd : decide (shift ≤ more) = false := by simp; omega
              clear EX
              go_wp2_with fail
              go_quiet (fail)
              go_wp2
              go_quiet (fail)
              go_wp2
              go_roundw
              case rel => exact ⟨0 + 1, by omega, by go_num, below_drewN BR.out _⟩
              case measure => simp [intOf]; omega
          | succ k =>
            obtain ⟨y, hy⟩ : ∃ y, ts[k]? = some y := ⟨_, List.getElem?_eq_getElem (by omega)⟩
            obtain ⟨tb', to', e2, _, hc'⟩ := rd_elem TW hy
            simp only [Option.some.injEq, Addr.mk.injEq] at e2
            obtain ⟨rfl, rfl, _⟩ := e2
            have d0 : wr.cell? ⟨tb, to_ + k * 3, none⟩ = some (.int .i64 y.at_) := hc' 0 _ rfl
            have hr : ¬ x.at_ ≤ y.at_ := by have := RISE.out k y x hy hx; omega
            clear hc hc' TW hx hy
            by_cases hm : shift ≤ more
            · have e1 : ¬ x.at_ < z.at_ := by have := (EX.out hm).1; omega
              have e2 : ¬ more - shift < x.at_ - z.at_ := by have := (EX.out hm).2; omega
              have hd : decide (shift ≤ more) = true := by simp [hm]
              have hd1 : decide (x.at_ < z.at_) = false := by simp; omega
              clear EX
              go_wp2_with fail
              go_quiet (fail)
              go_wp2
              go_quiet (fail)
              go_wp2
              go_roundw
              case rel => exact ⟨k + 1 + 1, by omega, by go_num, below_drewN BR.out _⟩
              case measure => simp [intOf]; omega
            · have hd : decide (shift ≤ more) = false := by simp; omega
              clear EX
              go_wp2_with fail
              go_quiet (fail)
              go_wp2
              go_quiet (fail)
              go_wp2
              go_roundw
              case rel => exact ⟨k + 1 + 1, by omega, by go_num, below_drewN BR.out _⟩
              case measure => simp [intOf]; omega
end Go.Proofs.YtdekggmaeoeccaaGreat
namespace Go.Proofs.YtdekggmaeoeccaaGreat
open Go.ChangeShapes Go.WideShapes Go.ChangeAt Go.RowKit Go.Joins
set_option linter.unusedVariables false
set_option linter.unusedSimpArgs false

theorem own : ownKnob Tryz.prog.godebug = none := by kernel_rfl
theorem laidOut : laidOutB Tryz.prog = true := by kernel_rfl
theorem cellsT_int : Tryz.prog.cellsOf 3 = 1 := by kernel_rfl
theorem cellsT_str : Tryz.prog.cellsOf 9 = 1 := by kernel_rfl
theorem cellsT_fm : Tryz.prog.cellsOf 29 = 3 := by kernel_rfl
theorem cellsT_rl : Tryz.prog.cellsOf 31 = 11 := by kernel_rfl

section
variable {H : Type} {enc : TypeId × Value → H} {w : World} {sp : Nat → Bool} {held : Bool} {fuel : Nat} {cs : List Value} {x : DataW H × List MemPlace}
theorem addT_none (b o i : Nat) : (⟨b, o, none⟩ : Addr).add i = ⟨b, o + i, none⟩ := by simp [Addr.add]
theorem blockT_of_cell {a : Addr} {v : Value} (h : w.cell? a = some v) : a.block < w.heap.size := by
  unfold World.cell? at h
  split at h
  · rename_i hb; exact (Array.getElem?_eq_some_iff.1 hb).1
  · cases h
theorem strT_of (s : ByteArray) : strV s.data.toList = .string s := by unfold strV; congr 1
set_option maxRecDepth 100000 in
theorem open_form (h : DataW.trod enc Tryz.prog w 0 sp held fuel 29 cs = some x) : ∃ a b c : Int, cs = [.int .i64 a, .int .i64 b, .int .i64 c] := by
  cases fuel with
  | zero => simp [DataW.trod] at h
  | succ n =>
    unfold DataW.trod at h
    rw [Tryz.underlying29] at h
    simp [cellsT_fm, cellsT_int, List.mapM_cons, Option.bind_eq_some_iff] at h
    obtain ⟨hlen, a1, b1, h1, l, ⟨a2, b2, h2, l3, ⟨a3, b3, h3, _⟩, _⟩, _⟩ := h
    match cs, hlen with
    | [u, v, z], _ =>
      simp at h1 h2 h3
      obtain ⟨k1, e1, _⟩ := DataW.trod_int Tryz.underlying3 h1
      obtain ⟨k2, e2, _⟩ := DataW.trod_int Tryz.underlying3 h2
      obtain ⟨k3, e3, _⟩ := DataW.trod_int Tryz.underlying3 h3
      simp at e1 e2 e3
      subst e1 e2 e3
      exact ⟨k1, k2, k3, rfl⟩
set_option maxRecDepth 100000 in
theorem open_rule (h : DataW.trod enc Tryz.prog w 0 sp held fuel 31 cs = some x) : ∃ r : Sx.Rl, cs = ruleCells r ∧ r.name.length ≤ maxLen ∧ r.letter.length ≤ maxLen := by
  cases fuel with
  | zero => simp [DataW.trod] at h
  | succ n =>
    unfold DataW.trod at h
    rw [Tryz.underlying31] at h
    simp [cellsT_rl, cellsT_int, cellsT_str, cellsT_fm, List.mapM_cons, Option.bind_eq_some_iff] at h
    obtain ⟨hlen, a1, b1, h1, _, ⟨a2, b2, h2, _, ⟨a3, b3, h3, _, ⟨a4, b4, h4, _, ⟨a5, b5, h5, _, ⟨a6, b6, h6, _, ⟨a7, b7, h7, _, ⟨a8, b8, h8, _, ⟨a9, b9, h9, _⟩, _⟩, _⟩, _⟩, _⟩, _⟩, _⟩, _⟩, _⟩ := h
    match cs, hlen with
    | [c0, c1, c2, c3, c4, c5, c6, c7, c8, c9, c10], _ =>
      simp at h1 h2 h3 h4 h5 h6 h7 h8 h9
      obtain ⟨s1, e1, _, hs1⟩ := DataW.trod_string Tryz.underlying9 h1
      obtain ⟨k2, e2, _⟩ := DataW.trod_int Tryz.underlying3 h2
      obtain ⟨k3, e3, _⟩ := DataW.trod_int Tryz.underlying3 h3
      obtain ⟨k4, e4, _⟩ := DataW.trod_int Tryz.underlying3 h4
      obtain ⟨fa, fb, fc, e5⟩ := open_form h5
      obtain ⟨k6, e6, _⟩ := DataW.trod_int Tryz.underlying3 h6
      obtain ⟨k7, e7, _⟩ := DataW.trod_int Tryz.underlying3 h7
      obtain ⟨k8, e8, _⟩ := DataW.trod_int Tryz.underlying3 h8
      obtain ⟨s9, e9, _, hs9⟩ := DataW.trod_string Tryz.underlying9 h9
      simp at e1 e2 e3 e4 e5 e6 e7 e8 e9
      obtain ⟨rfl, rfl, rfl⟩ := e5
      subst e1 e2 e3 e4 e6 e7 e8 e9
      exact ⟨⟨s1.data.toList, k2, k3, k4, fa, fb, fc, k6, k7, k8, s9.data.toList⟩, by simp only [ruleCells, strT_of], by simpa using hs1, by simpa using hs9⟩
set_option maxRecDepth 100000 in
theorem open_rules (h : DataW.trod enc Tryz.prog w 0 sp held fuel 22 cs = some x) : ∃ v l, cs = [v] ∧ RdRules w v l ∧ ∀ r ∈ l, r.name.length ≤ maxLen ∧ r.letter.length ≤ maxLen := by
  rcases Deep.open_slice Tryz.underlying22 h with ⟨rfl, _⟩ | ⟨a, len, cap, m, n, D, Pl, rfl, _, hl, hm, hmm, _, hc⟩
  · exact ⟨_, [], rfl, rd_nil, by simp⟩
  · have hlm : len ≤ m := by rw [hmm]; split <;> omega
    rw [cellsT_rl] at hc
    have key : ∀ i, i < len → ∃ c : Sx.Rl, (c.name.length ≤ maxLen ∧ c.letter.length ≤ maxLen) ∧ w.cells? 0 (a.add (i * 11)) 11 = some (ruleCells c) := by
      intro i hi
      obtain ⟨cs', h1, h2⟩ := hc i (by omega)
      obtain ⟨c, rfl, hs⟩ := open_rule h2
      exact ⟨c, hs, h1⟩
    have : Inhabited Sx.Rl := ⟨⟨[], 0, 0, 0, 0, 0, 0, 0, 0, 0, []⟩⟩
    obtain ⟨L, hL⟩ := Deep.choose_lt key
    refine ⟨_, (List.range len).map L, rfl, ⟨some a, cap, by simp, fun hn => ?_⟩, ?_⟩
    · have h0 : 0 < len := by
        rcases Nat.eq_zero_or_pos len with q | q
        · subst q; simp at hn
        · exact q
      obtain ⟨b, off, spot⟩ := a
      obtain ⟨_, _, g0⟩ := World.cells?_some (hL 0 h0).2
      have c0 := g0 0 (by decide)
      have hs : spot = none := by simpa [Addr.add] using World.cell?_spot c0
      subst hs
      simp only [addT_none] at c0 hL
      refine ⟨b, off, rfl, blockT_of_cell c0, fun i c hi k u hu => ?_⟩
      have hi' : i < len := by
        have := (List.getElem?_eq_some_iff.1 hi).1
        simpa using this
      simp [hi'] at hi
      subst hi
      obtain ⟨_, _, gi⟩ := World.cells?_some (hL i hi').2
      have hk := (List.getElem?_eq_some_iff.1 hu).1
      have := gi k hk
      rw [addT_none] at this
      rw [this]
      exact hu
    · intro c hc'
      simp at hc'
      obtain ⟨i, hi, rfl⟩ := hc'
      exact (hL i hi).1
/- .. as an argument -/
set_option maxRecDepth 100000 in
theorem open_rules_arg {W : World} {base : Nat} {v : Value} {d : DataW H} {p : List MemPlace} (hv : Value.okWide Tryz.prog W .any base 22 v) (h : DataW.Trod enc Tryz.prog W 0 (fun _ => true) true 22 v d p) :
    (∃ l, RdRules W v l ∧ ∀ r ∈ l, r.name.length ≤ maxLen ∧ r.letter.length ≤ maxLen) ∧ ∀ x ∈ p, x.block < W.heap.size := by
  obtain ⟨a, len, cap, rfl⟩ := okWide_slice Tryz.underlying22 hv
  obtain ⟨m, hm⟩ := h
  refine ⟨?_, DataW.trod_lt m _ _ _ hm⟩
  obtain ⟨u, l, e, hr, hs⟩ := open_rules hm
  simp [Value.cells] at e
  subst e
  exact ⟨l, hr, hs⟩
set_option maxRecDepth 100000 in
theorem rules_stay {W W' : World} {v : Value} {d : DataW H} {p : List MemPlace} (h : DataW.Trod enc Tryz.prog W 0 (fun _ => true) true 22 v d p) (bel : Below W.heap.size W W') (lt0 : ∀ x ∈ p, x.block < W.heap.size) : DataW.Trod enc Tryz.prog W' 0 (fun b => decide (b < W.heap.size)) true 22 v d p :=
  Below.trod laidOut (by kernel_rfl) (of_decide_eq_true (by kernel_rfl)) h bel lt0
end
end Go.Proofs.YtdekggmaeoeccaaGreat
namespace Go.Proofs.YtdekggmaeoeccaaGreat
open Go.ChangeShapes Go.WideShapes Go.ChangeAt Go.RowKit Go.Joins Go.ChangeMaps
set_option linter.unusedVariables false

set_option maxRecDepth 100000 in
theorem ruleRises_lifted (os : Os) (started : os.Started) (H : Type) (enc : TypeId × Value → H) :
    ReturnsInHanded {} Tryz.checked os 3 .any (Rows.ruleRisesSpec.pre6 enc Tryz.prog Tryz.f3 Rows.ruleRisesRow.domain false) (Rows.ruleRisesSpec.post enc Tryz.prog Tryz.f3 false true false false) := by
  refine returnsInHanded_of_change (C := Tryz.checked) own started (by kernel_rfl) Tryz.func3
    (ChangeSpec.witness6 (enc := enc) (C := Tryz.checked) false ⟨#[], #[.slice none 0 0, .string ⟨#[]⟩, .int .i64 0, .int .i64 0], []⟩ 8 (by kernel_rfl) (by kernel_rfl) (by kernel_rfl) (by kernel_rfl)) ?_
  intro W base args ds gs before hval0 hW hcnd _
  have hval : ∀ (j : Nat) t v, Tryz.f3.params[j]? = some t → args[j]? = some v → Value.okWide Tryz.prog W .any base t v := hval0
  have hW' := hW
  obtain ⟨p, q, hA0, hV, rfl, hfz, hnd⟩ := hW
  have hA : DataW.TrodAll enc Tryz.prog W 0 (fun _ => true) true Tryz.f3.params.toList args.toList ds p := hA0
  rw [Tryz.params3] at hA hval
  obtain ⟨v0, v1, v2, v3, d0, d1, d2, d3, p0, p1, p2, p3, rfl, rfl, rfl, h0, h1, h2, h3⟩ := trodAll_four hA
  obtain ⟨rfl, rfl⟩ := trodVars_none hV
  obtain ⟨⟨l0, r0, z0⟩, lt0⟩ := open_rules_arg (hval 0 22 v0 rfl rfl) h0
  obtain ⟨a1, rfl, rfl, rfl, w1⟩ := open_string Tryz.underlying9 (hval 1 9 v1 rfl rfl) h1
  obtain ⟨a2, rfl, rfl, rfl, w2⟩ := open_int Tryz.underlying3 (hval 2 3 v2 rfl rfl) h2
  obtain ⟨a3, rfl, rfl, rfl, w3⟩ := open_int Tryz.underlying3 (hval 3 3 v3 rfl rfl) h3
  clear hA0 hval0
  refine (rises_is l0 v0 a1 a2 a3 W r0 z0).mono fun e W' ⟨he, bel⟩ => ?_
  subst he
  exact ⟨_, rfl, _, _, _, [], _, [], hW', trodAll_mk1 (shut_bool Tryz.underlying4 _), trodAll_mk4 (rules_stay h0 bel lt0) (shut_string Tryz.underlying9 w1) (shut_int Tryz.underlying3 w2) (shut_int Tryz.underlying3 w3), rfl, bel.frame _, fun h => by cases h⟩

theorem ruleRises_holds : Rows.RuleRisesSaid :=
  OpenClaim.holds_of_wide 3 Tryz.f3 rfl rfl rfl rfl rfl rfl rfl ⟨rfl, rfl, rfl, rfl, rfl⟩ rfl rfl rfl rfl rfl (by kernel_rfl) Tryz.func3 (by kernel_rfl)
    (of_decide_eq_true (by kernel_rfl)) (by unfold Func.isWrapper; first | (rw [if_pos (by decide +kernel)]; kernel_rfl) | (rw [if_neg (by decide +kernel)]; exact ⟨rfl, rfl⟩))
    (fun os started H enc _ => ruleRises_lifted os started H enc)
#print axioms ruleRises_holds
end Go.Proofs.YtdekggmaeoeccaaGreat
