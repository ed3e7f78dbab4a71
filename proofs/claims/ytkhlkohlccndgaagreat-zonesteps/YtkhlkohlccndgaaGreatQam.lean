/- The text that every law begins with, parsed by the document: what parsed() answers. · The times of the text that every law begins with: plain, reckoned by the kernel. · What must be of rules in any case, is. · The contract of zone.zoneOf: the zone that a name tells. · Contracts of slices.Clone at eras, and of zone.Find. · Contracts of era.nameOf and era.Local. · The contract of zone.savedAt. · Contracts of zone.At's closure, and of zone.At. · The contract of zone.Ends, out of what Find answers. · The contract of the document's IsPlain, of any text. · Contracts of the document's LeastAt, MostAt, checkLocal. · The program's signs, and tables in memory, together. · Contracts of the program's names of times, and of table's checkLocal and checkChange. · The contract of zone.At, out of what Find answers. · Contracts of zone.Find, Ends, At at every source. · A source that a call has made, as zone's functions find it; what they answer of the fixed text. · zoneBegun answers true. · By a link it is as by its zone. Plain. · What another zone is, and other rules, changes nothing here. Plain. · From one time to another it is the same, where no era ends and no rule turns. Plain. · A list of rules among the arguments: what it reads as. · A source among the arguments: what it reads as. · Small laws for the walks of the laws. -/
import Derived.Test.YtkhlkohlccndgaaGreatQal
import Derived.Test.YtkhlkohlccndgaaGreatQah
import Derived.Test.YtkhlkohlccndgaaGreatQai
import Derived.Test.YtkhlkohlccndgaaGreatQaf
import Derived.Test.YtkhlkohlccndgaaGreatQae
import Derived.Lib.SliceRun
import Derived.Test.YtkhlkohlccndgaaGreatQag
import Derived.Test.YtkhlkohlccndgaaGreatQaa
import Derived.Test.YtkhlkohlccndgaaGreatQab
import Derived.ProofKit
import Derived.OpenShut
import Derived.Lib.SmallJoins
import Derived.Deep.Slices
import Derived.Deep.Strs
import Derived.Carry
namespace Go.Proofs.YtkhlkohlccndgaaGreat
open Go.RowKit
set_option linter.unusedVariables false
set_option linter.unusedSimpArgs false

def textB : Tx.Bs := [82, 117, 108, 101, 32, 101, 117, 32, 49, 57, 56, 49, 32, 109, 97, 120, 32, 77, 97, 114, 32, 108, 97, 115, 116, 83, 117, 110, 32, 49, 58, 48, 48, 117, 32, 49, 58, 48, 48, 32, 83, 10, 82, 117, 108, 101, 32, 101, 117, 32, 49, 57, 57, 54, 32, 109, 97, 120, 32, 79, 99, 116, 32, 108, 97, 115, 116, 83, 117, 110, 32, 49, 58, 48, 48, 117, 32, 48, 32, 45, 10, 90, 111, 110, 101, 32, 72, 101, 114, 101, 47, 84, 111, 119, 110, 32, 48, 58, 49, 48, 32, 45, 32, 76, 77, 84, 32, 49, 56, 56, 48, 32, 74, 97, 110, 32, 49, 32, 48, 10, 32, 32, 49, 58, 48, 48, 32, 101, 117, 32, 67, 69, 37, 115, 84, 10, 76, 105, 110, 107, 32, 72, 101, 114, 101, 47, 84, 111, 119, 110, 32, 79, 108, 100, 10]
def euB : Tx.Bs := [101, 117]
def townB : Tx.Bs := [72, 101, 114, 101, 47, 84, 111, 119, 110]
def src0 : Sx.Sr :=
  ⟨[⟨euB, 1981, 2100, 3, 2, 0, 0, 3600, 3, 3600, [83]⟩, ⟨euB, 1996, 2100, 10, 2, 0, 0, 3600, 3, 0, []⟩],
   [⟨townB, [⟨600, [], 0, [76, 77, 84], false, 1880, 1, 1, 0, 2⟩, ⟨3600, euB, 0, [67, 69, 37, 115, 84], true, 0, 0, 0, 0, 0⟩]⟩],
   [⟨townB, [79, 108, 100]⟩]⟩
theorem parse_text : Sx.parse textB = ⟨src0, 0, 0⟩ := by kernel_rfl
set_option maxRecDepth 100000 in
set_option maxHeartbeats 2000000 in
theorem parsed_any (w : World) :
    Calls Tryz.prog 41 #[] w fun e w' => ∃ r z l, e = .returned (.agg #[r, z, l]) ∧ OwnSrc w' w.heap.size r z l src0 ∧ Below w.heap.size w w' := by
  have RX0 := hid (ca_new w [nilS, nilS, nilS] 26)
  have BW0 := hid ((Below.refl w.heap.size w).alloc (Nat.le_refl _) (.cells [nilS, nilS, nilS].toArray 26))
  go_enter Tryz.func41, Tryz.ntmps41
  go_wp2_with fail
  refine (parseOf_any _ _).mono ?_
  intro e w1 h
  have h2 : ParseEnd textB (w.alloc (.cells #[.slice none 0 0, .slice none 0 0, .slice none 0 0] 26)) e w1 := h
  clear h
  obtain ⟨⟨r, z, l, rfl, hown⟩, hb⟩ := h2
  rw [parse_text] at hown ⊢
  have hown2 : OwnSrc w1 (w.heap.size + 1) r z l src0 := by simpa using hown
  have H := hid hown2
  have B1 : Hid (Below w.heap.size w w1) := BW0.out.trans (hb.mono BW0.out.size)
  have R1 := hid (ca_below RX0.out hb)
  obtain ⟨ra, rcap, rfl⟩ := owns_shape0 hown2.rules
  obtain ⟨za, zcap, rfl⟩ := ownSrc_zs hown2
  obtain ⟨la, lcap, rfl⟩ := owns_shape0 hown2.links
  clear hown hown2 hb RX0 BW0
  obtain ⟨r0, rf0⟩ := ca_at R1.out 0 rfl
  obtain ⟨r1, rf1⟩ := ca_at R1.out 1 rfl
  obtain ⟨r2, rf2⟩ := ca_at R1.out 2 rfl
  have hR := R1.out.1
  go_wp2
  refine bodyPost_ret (v := .agg #[.slice ra src0.rules.length rcap, .slice za src0.zones.length zcap, .slice la src0.links.length lcap]) (by simp [results, Tryz.results41, go_sem, *]) rfl ⟨_, _, _, rfl, ?_, ?_⟩
  · exact own_base (ownSrc_below (ownSrc_far (ownSrc_far (ownSrc_far H.out (by omega)) (by omega)) (by omega)) ((Below.refl _ _).alloc (Nat.le_refl _) _)) (by omega)
  · exact (below_set (below_set (below_set B1.out (Nat.le_refl _) _) (Nat.le_refl _) _) (Nat.le_refl _) _).alloc (by have := B1.out.size; simpa using this) _
end Go.Proofs.YtkhlkohlccndgaaGreat
namespace Go.Proofs.YtkhlkohlccndgaaGreat
set_option linter.unusedVariables false

def usB : Tx.Bs := [117, 115]
theorem eu_ok : Sx.timesE src0.rules euB 3600 = 0 := by kernel_rfl
theorem us_none : Sx.timesE src0.rules usB 3600 = 5 := by kernel_rfl
theorem eu_len : (Sx.times src0.rules euB 3600).length = 225 := by kernel_rfl
theorem eu_15 : (Sx.times src0.rules euB 3600)[15]? = some ⟨828234000, 3600, [83]⟩ := by kernel_rfl
theorem src0_sized : ∀ r ∈ src0.rules, r.name.length ≤ maxLen ∧ r.letter.length ≤ maxLen := by
  intro r hr
  simp [src0, euB] at hr
  rcases hr with rfl | rfl <;> simp [maxLen]
end Go.Proofs.YtkhlkohlccndgaaGreat
namespace Go.Proofs.YtkhlkohlccndgaaGreat
open Go.RowKit
set_option linter.unusedVariables false
set_option linter.unusedSimpArgs false

theorem rd_time {w : World} {b o i : Nat} {t : Sx.Tm} (h : ∀ k u, (timeC t)[k]? = some u → w.cell? ⟨b, o + i * 3 + k, none⟩ = some u) :
    w.cell? ⟨b, o + i * 3, none⟩ = some (.int .i64 t.at_) ∧ w.cell? ⟨b, o + i * 3 + 1, none⟩ = some (.int .i64 t.save) ∧ w.cell? ⟨b, o + i * 3 + 2, none⟩ = some (strV t.letter) :=
  ⟨h 0 _ rfl, h 1 _ rfl, h 2 _ rfl⟩
theorem ownTimes_rd {w : World} {B : Nat} {v : Value} {l : List Sx.Tm} (h : OwnTimes w B v l) : RdTimes w v l := own_rd (fun _ => rfl) h
set_option maxRecDepth 100000 in
set_option maxHeartbeats 2000000 in
theorem ruleBegun_is (w : World) : Calls Tryz.prog 27 #[] w fun e w' => e = .returned (.bool true) ∧ Below w.heap.size w w' := by
  have HE := hid eu_ok
  have HU := hid us_none
  have HL := hid eu_len
  have H15 := hid eu_15
  have HS := hid src0_sized
  have hfd : ∀ (r z l : Value) (w : World), (Instr.field 26 (.agg #[r, z, l]) 0).run Tryz.prog w = .ok r w := fun _ _ _ _ => by kernel_rfl
  go_enter Tryz.func27, Tryz.ntmps27
  go_wp2_with fail
  refine (parsed_any _).mono ?_
  rintro e w1 ⟨r, z, l, rfl, hown, hb⟩
  have B1 := hid hb
  have R1 := hid (ownSrc_rd hown).rules
  obtain ⟨ra, rc, rfl⟩ := rd_shape R1.out
  clear hown hb
  go_wp2_with fail
  refine (times_any src0.rules _ euB 3600 w1 R1.out HS.out).mono ?_
  rintro e w2 ⟨v, rfl, hown, hb⟩
  rw [HE.out]
  have T2 := hid (ownTimes_rd hown)
  have B2 : Hid (Below w.heap.size w w2) := B1.out.trans (hb.mono B1.out.size)
  clear hown hb B1 R1
  go_wp2_with fail
  refine (parsed_any _).mono ?_
  rintro e w3 ⟨r, z, l, rfl, hown, hb⟩
  have T3 := hid (rd_below T2.out hb)
  have B3 : Hid (Below w.heap.size w w3) := B2.out.trans (hb.mono B2.out.size)
  have R3 := hid (ownSrc_rd hown).rules
  obtain ⟨ra, rc, rfl⟩ := rd_shape R3.out
  clear hown hb B2 T2
  go_wp2_with fail
  refine (times_any src0.rules _ usB 3600 w3 R3.out HS.out).mono ?_
  rintro e w4 ⟨v', rfl, hown, hb⟩
  rw [HU.out]
  have T4 := hid (rd_below T3.out hb)
  have B4 : Hid (Below w.heap.size w w4) := B3.out.trans (hb.mono B3.out.size)
  obtain ⟨ta, tc, rfl⟩ := rd_shape T4.out
  obtain ⟨ua, uc, rfl⟩ := owns_shape0 hown
  clear hown hb B3 T3 R3
  obtain ⟨rb, ro, rfl, hrb, hc⟩ := rd_elem T4.out H15.out
  obtain ⟨c0, c1, c2⟩ := rd_time hc
  dsimp only at c0 c1 c2
  rw [HL.out]
  clear T4 hc
  go_wp2
  go_ret
  exact ⟨rfl, B4.out⟩
end Go.Proofs.YtkhlkohlccndgaaGreat
namespace Go.Proofs.YtkhlkohlccndgaaGreat
open Go.RowKit Go.Shelf
set_option linter.unusedVariables false
set_option linter.unusedSimpArgs false
attribute [local go_sem] Oper.semAt_some

set_option maxRecDepth 100000 in
set_option maxHeartbeats 1000000 in
theorem zoneOf1_any (x : Sx.Lk) (B : Nat) (nm : Tx.Bs) (w : World) (hB : B < w.heap.size) (h : w.cell? ⟨B, 0, none⟩ = some (strV nm)) :
    Calls Tryz.prog 116 #[linkV x, .pointer (some ⟨B, 0, none⟩)] w fun e w' => e = .returned (.bool (x.name == nm)) ∧ Below w.heap.size w w' := by
  have BV := hid ((Below.refl w.heap.size w).alloc (Nat.le_refl _) (.cells (linkCells x).toArray 35))
  have XV := ca_new w (linkCells x) 35
  obtain ⟨x0, _⟩ := ca_at XV 1 rfl
  have y0 := (BV.out.cell (p := ⟨B, 0, none⟩) hB).trans h
  have sx := XV.1
  have sB : B < (w.alloc (.cells (linkCells x).toArray 35)).heap.size := Nat.lt_of_lt_of_le hB BV.out.size
  clear XV
  go_enter Tryz.func116, Tryz.ntmps116
  go_wp2
  go_ret
  exact ⟨rfl, BV.out⟩
set_option maxRecDepth 100000 in
set_option maxHeartbeats 1000000 in
theorem zoneOf2_any (x : ZV) (B : Nat) (nm : Tx.Bs) (w : World) (hB : B < w.heap.size) (h : w.cell? ⟨B, 0, none⟩ = some (strV nm)) :
    Calls Tryz.prog 118 #[zvV x, .pointer (some ⟨B, 0, none⟩)] w fun e w' => e = .returned (.bool (x.z.name == nm)) ∧ Below w.heap.size w w' := by
  have BV := hid ((Below.refl w.heap.size w).alloc (Nat.le_refl _) (.cells (zvCells x).toArray 44))
  have XV := ca_new w (zvCells x) 44
  obtain ⟨x0, _⟩ := ca_at XV 0 rfl
  have y0 := (BV.out.cell (p := ⟨B, 0, none⟩) hB).trans h
  have sx := XV.1
  have sB : B < (w.alloc (.cells (zvCells x).toArray 44)).heap.size := Nat.lt_of_lt_of_le hB BV.out.size
  clear XV
  go_enter Tryz.func118, Tryz.ntmps118
  go_wp2
  go_ret
  exact ⟨rfl, BV.out⟩
/- the name that a name stands for; the zone of that name -/
def nameTo (ls : List Sx.Lk) (nm : Tx.Bs) : Tx.Bs := if ls.any (fun l => l.name == nm) = true then ((ls.find? fun l => l.name == nm).getD zeroL).to else nm
def zvAt (xs : List ZV) (nm : Tx.Bs) : ZV := (xs.find? fun p => p.z.name == nm).getD zeroZ
def zvHas (xs : List ZV) (nm : Tx.Bs) : Bool := xs.any fun p => p.z.name == nm
set_option maxRecDepth 100000 in
set_option maxHeartbeats 2000000 in
theorem zoneOf_any (nm : Tx.Bs) (zs : List Sx.Zn) (ls : List Sx.Lk) (xs : List ZV) (ra za la : Option Addr) (n1 rcap zcap lcap : Nat) (w : World) (h2 : RdZv w (.slice za xs.length zcap) zs xs) (h3 : RdLinks w (.slice la ls.length lcap) ls)
    (hx : xs.length ≤ 10000) (hl : ls.length ≤ 10000) :
    Calls Tryz.prog 54 #[.agg #[.slice ra n1 rcap, .slice za xs.length zcap, .slice la ls.length lcap], strV nm] w fun e w' => e = .returned (.tuple #[zvV (zvAt xs (nameTo ls nm)), .bool (zvHas xs (nameTo ls nm))]) ∧ Below w.heap.size w w' := by
  have hzz : (ZV.z zeroZ) = ⟨[], []⟩ := rfl
  obtain ⟨V, hV⟩ : ∃ V, ((w.alloc (.cells #[.slice ra n1 rcap, .slice za xs.length zcap, .slice la ls.length lcap] 26)).alloc (.cells #[strV nm] 9)).alloc (.cells #[.string ⟨#[]⟩, .slice none 0 0] 44) = V := ⟨_, rfl⟩
  have XS := ca_alloc (ca_alloc (ca_new w [.slice ra n1 rcap, .slice za xs.length zcap, .slice la ls.length lcap] 26) (.cells #[strV nm] 9)) (.cells #[.string ⟨#[]⟩, .slice none 0 0] 44)
  have XN := ca_alloc (ca_new (w.alloc (.cells #[.slice ra n1 rcap, .slice za xs.length zcap, .slice la ls.length lcap] 26)) [strV nm] 9) (.cells #[.string ⟨#[]⟩, .slice none 0 0] 44)
  have XZ := ca_new ((w.alloc (.cells #[.slice ra n1 rcap, .slice za xs.length zcap, .slice la ls.length lcap] 26)).alloc (.cells #[strV nm] 9)) [.string ⟨#[]⟩, .slice none 0 0] 44
  have BV : Below w.heap.size w V := by rw [← hV]; exact (((Below.refl _ w).alloc (Nat.le_refl _) _).alloc (by simp) _).alloc (by simp; omega) _
  obtain ⟨N, hN⟩ : ∃ N, w.heap.size = N := ⟨_, rfl⟩
  have hV' : ((w.alloc (.cells [.slice ra n1 rcap, .slice za xs.length zcap, .slice la ls.length lcap].toArray 26)).alloc (.cells [strV nm].toArray 9)).alloc (.cells [.string ⟨#[]⟩, .slice none 0 0].toArray 44) = V := hV
  have hV2 : ((w.alloc (.cells [.slice ra n1 rcap, .slice za xs.length zcap, .slice la ls.length lcap].toArray 26)).alloc (.cells #[strV nm] 9)).alloc (.cells #[.string ⟨#[]⟩, .slice none 0 0] 44) = V := hV
  have hV3 : ((w.alloc (.cells #[.slice ra n1 rcap, .slice za xs.length zcap, .slice la ls.length lcap] 26)).alloc (.cells [strV nm].toArray 9)).alloc (.cells #[.string ⟨#[]⟩, .slice none 0 0] 44) = V := hV
  have hV4 : ((w.alloc (.cells #[.slice ra n1 rcap, .slice za xs.length zcap, .slice la ls.length lcap] 26)).alloc (.cells #[strV nm] 9)).alloc (.cells [.string ⟨#[]⟩, .slice none 0 0].toArray 44) = V := hV
  rw [hV2, hN] at XS
  rw [hV3] at XN
  rw [hV4] at XZ
  simp only [World.size_alloc, hN] at XN XZ
  have sN := XN.1
  have sZ := XZ.1
  obtain ⟨s1, _⟩ := ca_at XS 1 rfl
  obtain ⟨s2, _⟩ := ca_at XS 2 rfl
  obtain ⟨c0, _⟩ := ca_at XN 0 rfl
  have R2 := rdZv_below h2 BV
  have R3 := rd_below h3 BV
  have e1 : ∀ args w, (callFunc 116 args).run Tryz.prog w = .ok (.enter 116 args) w := enters_of Tryz.func116 (by kernel_rfl) rfl
  have e2 : ∀ args w, (callFunc 118 args).run Tryz.prog w = .ok (.enter 118 args) w := enters_of Tryz.func118 (by kernel_rfl) rfl
  have eL : ∀ args w, (callFunc 160 args).run Tryz.prog w = .ok (.enter 160 args) w := enters_of Tryz.func160 (by kernel_rfl) rfl
  have eZ : ∀ args w, (callFunc 161 args).run Tryz.prog w = .ok (.enter 161 args) w := enters_of Tryz.func161 (by kernel_rfl) rfl
  have C1 := hid (fun (W : World) (hW : Below V.heap.size V W) =>
    let hWL : Below W.heap.size W (W.alloc (.cells #[.slice la ls.length lcap] 24)) := (Below.refl W.heap.size W).alloc (Nat.le_refl _) _
    let hVL : Below V.heap.size V (W.alloc (.cells #[.slice la ls.length lcap] 24)) := hW.trans (hWL.mono hW.size)
    firstL_any 160 116 #[.pointer (some ⟨W.heap.size, 0, none⟩)] #[.pointer (some ⟨N + 1, 0, none⟩)] (fun l => l.name == nm) ls (W.alloc (.cells #[.slice la ls.length lcap] 24)) eL e1
      (fun w1 hw1 => valsL_seq 3 W.heap.size (by omega) ls la lcap (W.alloc (.cells #[.slice la ls.length lcap] 24)) w1 (rd_below R3 hVL) hl ((hw1.cell (p := ⟨W.heap.size, 0, none⟩) (by simp)).trans (ca_at (ca_new W [.slice la ls.length lcap] 24) 0 rfl).1) (Nat.lt_of_lt_of_le (by simp) hw1.size) hw1)
      (fun x _ W' hW' => by
        have hh := hVL.trans (hW'.mono hVL.size)
        exact zoneOf1_any x (N + 1) nm W' (Nat.lt_of_lt_of_le sN hh.size) ((hh.cell (p := ⟨N + 1, 0, none⟩) sN).trans c0)))
  have C2 := hid (fun (W : World) (nm : Tx.Bs) (hW : Below w.heap.size w W) (hc : W.cell? ⟨N + 1, 0, none⟩ = some (strV nm)) (hl : N + 1 < W.heap.size) =>
    let hWL : Below W.heap.size W (W.alloc (.cells #[.slice za xs.length zcap] 23)) := (Below.refl W.heap.size W).alloc (Nat.le_refl _) _
    let hVL : Below w.heap.size w (W.alloc (.cells #[.slice za xs.length zcap] 23)) := hW.trans (hWL.mono hW.size)
    firstZ_any 161 118 #[.pointer (some ⟨W.heap.size, 0, none⟩)] #[.pointer (some ⟨N + 1, 0, none⟩)] (fun p => p.z.name == nm) xs (W.alloc (.cells #[.slice za xs.length zcap] 23)) eZ e2
      (fun w1 hw1 => valsZ_seq 3 W.heap.size (by omega) xs za zcap (W.alloc (.cells #[.slice za xs.length zcap] 23)) w1 (rdZv_below h2 hVL).rd hx ((hw1.cell (p := ⟨W.heap.size, 0, none⟩) (by simp)).trans (ca_at (ca_new W [.slice za xs.length zcap] 23) 0 rfl).1) (Nat.lt_of_lt_of_le (by simp) hw1.size) hw1)
      (fun x _ W' hW' => by
        have hh := hWL.trans (hW'.mono hWL.size)
        exact zoneOf2_any x (N + 1) nm W' (Nat.lt_of_lt_of_le hl hh.size) ((hh.cell (p := ⟨N + 1, 0, none⟩) hl).trans hc)))
  have HBV := hid BV
  have HXS := hid XS
  have HXN := hid XN
  have HXZ := hid XZ
  have HNN := hid hN
  have HV := hid (Below.refl V.heap.size V)
  clear R2 R3 h2 h3 hx hl e1 e2 eL eZ hV' hV2 hV3 hV4 BV XS XN XZ c0 sZ
  go_enter Tryz.func54, Tryz.ntmps54
  simp only [hN]
  go_wp2_with fail
  refine (valsL_any _ _ _ _).mono ?_
  rintro e w1 ⟨rfl, rfl⟩
  go_wp2_with fail
  refine (C1.out V HV.out).mono ?_
  rintro e w2 ⟨rfl, hb⟩
  have HB2 : Hid (Below V.heap.size V w2) := ((Below.refl V.heap.size V).alloc (Nat.le_refl _) _).trans (hb.mono (by simp))
  obtain ⟨x, hx⟩ : ∃ x, (ls.find? fun l => l.name == nm).getD zeroL = x := ⟨_, rfl⟩
  obtain ⟨A, hA⟩ : ∃ A, (ls.any fun l => l.name == nm) = A := ⟨_, rfl⟩
  rw [hx, hA]
  have HNT : Hid (nameTo ls nm = if A = true then x.to else nm) := by show _ = _; unfold nameTo; rw [hx, hA]
  have B2 : Hid (Below w.heap.size w w2) := HBV.out.trans (HB2.out.mono HBV.out.size)
  have S2 : Hid (CellsAt w2 N [.slice ra n1 rcap, .slice za xs.length zcap, .slice la ls.length lcap]) := ca_below HXS.out HB2.out
  have N2 : Hid (CellsAt w2 (N + 1) [strV nm]) := ca_below HXN.out HB2.out
  have Z2 : Hid (CellsAt w2 (N + 1 + 1) [.string ⟨#[]⟩, .slice none 0 0]) := ca_below HXZ.out HB2.out
  have sW := S2.out.1
  have nW := N2.out.1
  have zW := Z2.out.1
  obtain ⟨y1, _⟩ := ca_at S2.out 1 rfl
  obtain ⟨m0, g0⟩ := ca_at N2.out 0 rfl
  obtain ⟨q0, k0⟩ := ca_at Z2.out 0 rfl
  obtain ⟨q1, k1⟩ := ca_at Z2.out 1 rfl
  obtain ⟨K, hK⟩ : ∃ K, w2.alloc (.cells #[strV x.to, strV x.name] 35) = K := ⟨_, rfl⟩
  have HK := hid hK
  clear hb hx hA C1 HB2 s1 s2 sN HV hK
  cases A
  case false =>
    have HN2 : Hid (nameTo ls nm = nm) := by show _ = _; rw [HNT.out]; rfl
    go_wp2_with fail
    obtain ⟨W, hW⟩ : ∃ W, w2.alloc (.cells #[.string ⟨x.to.toArray⟩, .string ⟨x.name.toArray⟩] 35) = W := ⟨_, rfl⟩
    rw [hW]
    have BW : Hid (Below w.heap.size w W) := by show Below _ _ _; rw [← hW]; exact B2.out.alloc B2.out.size _
    have NW : Hid (CellsAt W (N + 1) [strV nm]) := by show CellsAt _ _ _; rw [← hW]; exact ca_alloc N2.out _
    have SW : Hid (CellsAt W N [.slice ra n1 rcap, .slice za xs.length zcap, .slice la ls.length lcap]) := by show CellsAt _ _ _; rw [← hW]; exact ca_alloc S2.out _
    have ZW : Hid (CellsAt W (N + 1 + 1) [.string ⟨#[]⟩, .slice none 0 0]) := by show CellsAt _ _ _; rw [← hW]; exact ca_alloc Z2.out _
    have CC := hid (C2.out W nm BW.out (ca_at NW.out 0 rfl).1 NW.out.1)
    clear hW S2 N2 Z2 sW nW zW y1 m0 g0 q0 k0 q1 k1 C2 HXS HXN HXZ HBV B2
    refine (valsZ_any _ _ _ _).mono ?_
    rintro e w3 ⟨rfl, rfl⟩
    go_wp2_with fail
    refine CC.out.mono ?_
    rintro e w4 ⟨rfl, hb⟩
    have HB4 : Hid (Below W.heap.size W w4) := ((Below.refl W.heap.size W).alloc (Nat.le_refl _) _).trans (hb.mono (by simp))
    have Z4 : Hid (CellsAt w4 (N + 1 + 1) [.string ⟨#[]⟩, .slice none 0 0]) := ca_below ZW.out HB4.out
    have zW := Z4.out.1
    obtain ⟨q0, k0⟩ := ca_at Z4.out 0 rfl
    obtain ⟨q1, k1⟩ := ca_at Z4.out 1 rfl
    obtain ⟨y, hy⟩ : ∃ y, (xs.find? fun p => p.z.name == nm).getD zeroZ = y := ⟨_, rfl⟩
    obtain ⟨C, hC⟩ : ∃ C, (xs.any fun p => p.z.name == nm) = C := ⟨_, rfl⟩
    rw [hy, hC]
    have E1 : Hid (zvAt xs (nameTo ls nm) = y) := by show _ = _; unfold zvAt; rw [HN2.out, hy]
    have E2 : Hid (zvHas xs (nameTo ls nm) = C) := by show _ = _; unfold zvHas; rw [HN2.out, hC]
    have BF : Hid (Below w.heap.size w w4) := BW.out.trans (HB4.out.mono BW.out.size)
    clear hb hy hC CC HN2 HNT SW NW ZW
    go_wp2
    refine bodyPost_ret (v := .tuple #[zvV y, .bool C]) (by simp [results, Tryz.results54, go_sem, zvV, *]) rfl ⟨by rw [E1.out, E2.out], ?_⟩
    have h1 : w.heap.size ≤ N + 1 + 1 := by rw [HNN.out]; omega
    have h2 := below_put (below_put BF.out h1 0 (.string ⟨y.z.name.toArray⟩)) h1 1 (.slice y.a y.z.eras.length y.c)
    rw [HNN.out] at h2
    exact h2
  case true =>
    have HN2 : Hid (nameTo ls nm = x.to) := by show _ = _; rw [HNT.out]; rfl
    go_wp2_with fail
    obtain ⟨W, hW⟩ : ∃ W, (w2.setCell ⟨N + 1, 0, none⟩ (.string ⟨x.to.toArray⟩)).alloc (.cells #[.string ⟨x.to.toArray⟩, .string ⟨x.name.toArray⟩] 35) = W := ⟨_, rfl⟩
    rw [hW]
    have BW : Hid (Below w.heap.size w W) := by show Below _ _ _; rw [← hW]; exact (below_put B2.out (by rw [HNN.out]; omega) 0 _).alloc (by simp; exact B2.out.size) _
    have NW : Hid (CellsAt W (N + 1) [strV x.to]) := by show CellsAt _ _ _; rw [← hW]; exact ca_alloc (ca_put N2.out 0 _ (by simp)) _
    have SW : Hid (CellsAt W N [.slice ra n1 rcap, .slice za xs.length zcap, .slice la ls.length lcap]) := by show CellsAt _ _ _; rw [← hW]; exact ca_alloc (ca_far S2.out (by omega)) _
    have ZW : Hid (CellsAt W (N + 1 + 1) [.string ⟨#[]⟩, .slice none 0 0]) := by show CellsAt _ _ _; rw [← hW]; exact ca_alloc (ca_far Z2.out (by omega)) _
    have CC := hid (C2.out W x.to BW.out (ca_at NW.out 0 rfl).1 NW.out.1)
    clear hW S2 N2 Z2 sW nW zW y1 m0 g0 q0 k0 q1 k1 C2 HXS HXN HXZ HBV B2
    refine (valsZ_any _ _ _ _).mono ?_
    rintro e w3 ⟨rfl, rfl⟩
    go_wp2_with fail
    refine CC.out.mono ?_
    rintro e w4 ⟨rfl, hb⟩
    have HB4 : Hid (Below W.heap.size W w4) := ((Below.refl W.heap.size W).alloc (Nat.le_refl _) _).trans (hb.mono (by simp))
    have Z4 : Hid (CellsAt w4 (N + 1 + 1) [.string ⟨#[]⟩, .slice none 0 0]) := ca_below ZW.out HB4.out
    have zW := Z4.out.1
    obtain ⟨q0, k0⟩ := ca_at Z4.out 0 rfl
    obtain ⟨q1, k1⟩ := ca_at Z4.out 1 rfl
    obtain ⟨y, hy⟩ : ∃ y, (xs.find? fun p => p.z.name == x.to).getD zeroZ = y := ⟨_, rfl⟩
    obtain ⟨C, hC⟩ : ∃ C, (xs.any fun p => p.z.name == x.to) = C := ⟨_, rfl⟩
    rw [hy, hC]
    have E1 : Hid (zvAt xs (nameTo ls nm) = y) := by show _ = _; unfold zvAt; rw [HN2.out, hy]
    have E2 : Hid (zvHas xs (nameTo ls nm) = C) := by show _ = _; unfold zvHas; rw [HN2.out, hC]
    have BF : Hid (Below w.heap.size w w4) := BW.out.trans (HB4.out.mono BW.out.size)
    clear hb hy hC CC HN2 HNT SW NW ZW
    go_wp2
    refine bodyPost_ret (v := .tuple #[zvV y, .bool C]) (by simp [results, Tryz.results54, go_sem, zvV, *]) rfl ⟨by rw [E1.out, E2.out], ?_⟩
    have h1 : w.heap.size ≤ N + 1 + 1 := by rw [HNN.out]; omega
    have h2 := below_put (below_put BF.out h1 0 (.string ⟨y.z.name.toArray⟩)) h1 1 (.slice y.a y.z.eras.length y.c)
    rw [HNN.out] at h2
    exact h2
end Go.Proofs.YtkhlkohlccndgaaGreat
namespace Go.Proofs.YtkhlkohlccndgaaGreat
open Go.RowKit Go.Shelf
set_option linter.unusedVariables false
set_option linter.unusedSimpArgs false
attribute [local go_sem] Oper.semAt_some

theorem flat_lenG {α : Type} {z : Nat} {cells : α → List Value} (hz : ∀ x, (cells x).length = z) (l : List α) : (l.flatMap cells).length = l.length * z := by
  induction l with
  | nil => simp
  | cons x r ih => rw [List.flatMap_cons, List.length_append, ih, hz, List.length_cons, Nat.succ_mul]; omega
theorem rd_flatG {α : Type} {z : Nat} {cells : α → List Value} (hz : ∀ x, (cells x).length = z) (h0 : 0 < z) {w : World} {a : Option Addr} {n cap : Nat} {l : List α} (h : Rd z cells w (.slice a n cap) l) : ∀ ad, a = some ad → ∀ j u, (l.flatMap cells)[j]? = some u → w.cell? (ad.add j) = some u := by
  intro ad e j u hj
  subst e
  by_cases hn : l = []
  · subst hn; simp at hj
  obtain ⟨a', cap', e1, h2⟩ := h
  obtain ⟨b, o, e2, _, hc⟩ := h2 hn
  simp only [Value.slice.injEq] at e1
  obtain ⟨rfl, _, _⟩ := e1
  simp only [Option.some.injEq] at e2
  subst e2
  have hlen := flat_lenG hz l
  have hj' := (List.getElem?_eq_some_iff.1 hj).1
  rw [hlen] at hj'
  have hq : j / z < l.length := (Nat.div_lt_iff_lt_mul h0).2 hj'
  obtain ⟨x, hx⟩ : ∃ x, l[j / z]? = some x := ⟨_, List.getElem?_eq_getElem hq⟩
  have hk : ∃ y, (cells x)[j % z]? = some y := ⟨_, List.getElem?_eq_getElem (by rw [hz]; exact Nat.mod_lt _ h0)⟩
  obtain ⟨y, hy⟩ := hk
  have hdm : j / z * z + j % z = j := Nat.div_add_mod' j z
  have := flat_get cells hz l (j / z) x hx (j % z) y hy
  rw [hdm, hj] at this
  simp at this
  subst this
  have := hc (j / z) x hx (j % z) u hy
  rw [show o + j / z * z + j % z = o + j by rw [Nat.add_assoc, hdm]] at this
  unfold Addr.add
  split
  · rename_i q
    have q' : j = 0 := by simpa using q
    rw [q'] at this
    exact this
  · exact this
theorem rd_none0 {α : Type} {z : Nat} {cells : α → List Value} {w : World} {n cap : Nat} {l : List α} (h : Rd z cells w (.slice none n cap) l) : l = [] := by
  obtain ⟨a', cap', e1, h2⟩ := h
  by_cases hn : l = []
  · exact hn
  · obtain ⟨b, o, e2, _⟩ := h2 hn
    simp only [Value.slice.injEq] at e1
    obtain ⟨rfl, _, _⟩ := e1
    cases e2
set_option maxRecDepth 100000 in
set_option maxHeartbeats 2000000 in
theorem clone_any (es : List Sx.Er) (ra : Option Addr) (rcap : Nat) (w : World) (h : RdEras w (.slice ra es.length rcap) es) (he : es.length ≤ 10000) :
    Calls Tryz.prog 55 #[.slice ra es.length rcap] w fun e w' => ∃ v, e = .returned v ∧ OwnEras w' w.heap.size v es ∧ Below w.heap.size w w' := by
  cases ra with
  | none =>
    obtain rfl := rd_none0 h
    clear h
    have hcmp := fun w => Lib.run_eql_slice_nil (P := Tryz.prog) w 42 67 none 0 rcap 0 0 Tryz.underlying42
    simp only [Option.isNone_none] at hcmp
    go_enter Tryz.func55, Tryz.ntmps55
    go_wp2
    go_ret
    exact ⟨_, rfl, World.ownsRow_nil _ _ _ _, Below.refl _ _⟩
  | some ad =>
    obtain ⟨i0, hi, hz0, hz1, hz2⟩ := info_parts Tryz.infoEra
    have hc := rd_flatG eraCells_len (by omega) h
    have B0 := hid ((Below.refl w.heap.size w).alloc (Nat.le_refl _) (.cells #[] 67))
    have c2 : ∀ ad', some ad = some ad' → ∀ j u, (es.flatMap eraCells)[j]? = some u → (w.alloc (.cells #[] 67)).cell? (ad'.add j) = some u := by
      intro ad' e j u hj
      have hh := rd_flatG eraCells_len (by omega) (rd_below h B0.out)
      exact hh ad' e j u hj
    have w2 : (w.alloc (.cells #[] 67)).ownsRow w.heap.size 67 10 (.slice (some ⟨w.heap.size, 0, none⟩) 0 0) 0 [] := World.ownsRow_made w #[] 0 (Nat.le_refl _) (Nat.zero_le _) (by simp)
    have f2 : (es.flatMap eraCells).length = es.length * 10 := flat_lenG eraCells_len es
    have o2 : ∀ u ∈ es.flatMap eraCells, u.oneCell' = true := by
      intro u hu
      obtain ⟨c, _, hc⟩ := List.mem_flatMap.1 hu
      exact era_one c u hc
    clear hc h
    have hcmp := fun w => Lib.run_eql_slice_nil (P := Tryz.prog) w 42 67 (some ad) es.length rcap 0 0 Tryz.underlying42
    simp only [Option.isNone_some] at hcmp
    go_enter Tryz.func55, Tryz.ntmps55
    go_wp2_with (at_builtin; refine wpList_append_any rfl (.tmp 5) (.tmp 6) 42 rfl w.heap.size 67 i0 (.agg #[.int .i64 0, .string ⟨#[]⟩, .int .i64 0, .string ⟨#[]⟩, .bool false, .int .i64 0, .int .i64 0, .int .i64 0, .int .i64 0, .int .i64 0]) 10 96 Tryz.underlying42 hi hz0 hz1 hz2 rfl (by decide) (.slice (some ⟨w.heap.size, 0, none⟩) 0 0) 0 [] rfl w2 (some ad) es.length rcap (es.flatMap eraCells) rfl f2 c2 (fun q => by cases q) o2 (by unfold maxLen; omega) (by omega) (by simp) ?_; intro v3 w3 hown hgrow)
    have O3 : Hid (OwnEras w3 w.heap.size v3 es) := by
      show World.ownsRow _ _ _ _ _ _ _
      simpa using hown
    have B3 : Hid (Below w.heap.size w w3) := Below.grown B0.out hgrow (by simp) (fun k hk => (w2.lt k hk).1)
    clear hown hgrow c2 f2 o2 w2 B0
    go_wp2
    go_ret
    exact ⟨_, rfl, O3.out, B3.out⟩
theorem set2 {w : World} {b q o : Nat} {u x y : Value} (hne : ¬ b = q) (h : w.cell? ⟨b, 0, none⟩ = some x ∧ w.cell? ⟨b, 1, none⟩ = some y) : (w.setCell ⟨q, o, none⟩ u).cell? ⟨b, 0, none⟩ = some x ∧ (w.setCell ⟨q, o, none⟩ u).cell? ⟨b, 1, none⟩ = some y := by
  have e : ∀ k, (w.setCell ⟨q, o, none⟩ u).cell? ⟨b, k, none⟩ = w.cell? ⟨b, k, none⟩ := fun k => World.cell?_of_block (Below.heap_setCell _ _ _ _ hne)
  rw [e, e]; exact h
/- what Find answers -/
def findE (E : Int) (xs : List ZV) (ls : List Sx.Lk) (nm : Tx.Bs) : Int := if E ≠ 0 then E else if zvHas xs (nameTo ls nm) = true then 0 else 5
def findZ (E : Int) (xs : List ZV) (ls : List Sx.Lk) (nm : Tx.Bs) : Sx.Zn := if findE E xs ls nm = 0 then (zvAt xs (nameTo ls nm)).z else ⟨[], []⟩
theorem zvAt_mem {xs : List ZV} {nm : Tx.Bs} (h : zvHas xs nm = true) : zvAt xs nm ∈ xs := by
  unfold zvAt
  unfold zvHas at h
  rw [List.any_eq_true] at h
  obtain ⟨x, hx, hp⟩ := h
  cases hf : xs.find? (fun p => p.z.name == nm) with
  | none => rw [List.find?_eq_none] at hf; exact absurd hp (hf x hx)
  | some y => exact List.mem_of_find?_eq_some hf
set_option maxRecDepth 100000 in
set_option maxHeartbeats 3000000 in
theorem find_seq (E : Int) (nm : Tx.Bs) (zs : List Sx.Zn) (ls : List Sx.Lk) (xs : List ZV) (ra za la : Option Addr) (n1 rcap zcap lcap : Nat) (w : World) (h2 : RdZv w (.slice za xs.length zcap) zs xs) (h3 : RdLinks w (.slice la ls.length lcap) ls)
    (hE : E = 0 → xs.length ≤ 10000 ∧ ls.length ≤ 10000 ∧ ∀ p ∈ xs, p.z.eras.length ≤ 10000)
    (hC : ∀ W, Below w.heap.size w W → Calls Tryz.prog 14 #[.agg #[.slice ra n1 rcap, .slice za xs.length zcap, .slice la ls.length lcap]] W fun e w' => e = .returned (.int .i64 E) ∧ Below W.heap.size W w') :
    Calls Tryz.prog 16 #[.agg #[.slice ra n1 rcap, .slice za xs.length zcap, .slice la ls.length lcap], strV nm] w fun e w' =>
      ∃ v, e = .returned (.tuple #[.agg #[strV (findZ E xs ls nm).name, v], .int .i64 (findE E xs ls nm)]) ∧ OwnEras w' w.heap.size v (findZ E xs ls nm).eras ∧ Below w.heap.size w w' := by
  have HC := hid hC
  have H2 := hid h2
  have H3 := hid h3
  have HEE := hid hE
  obtain ⟨N, hN⟩ : ∃ N, w.heap.size = N := ⟨_, rfl⟩
  obtain ⟨V, hV⟩ : ∃ V, (w.alloc (.cells #[.slice ra n1 rcap, .slice za xs.length zcap, .slice la ls.length lcap] 26)).alloc (.cells #[.string ⟨#[]⟩, .slice none 0 0] 44) = V := ⟨_, rfl⟩
  have XS := ca_alloc (ca_new w [.slice ra n1 rcap, .slice za xs.length zcap, .slice la ls.length lcap] 26) (.cells #[.string ⟨#[]⟩, .slice none 0 0] 44)
  have XZ := ca_new (w.alloc (.cells #[.slice ra n1 rcap, .slice za xs.length zcap, .slice la ls.length lcap] 26)) [.string ⟨#[]⟩, .slice none 0 0] 44
  have BV : Hid (Below w.heap.size w V) := by show Below _ _ _; rw [← hV]; exact ((Below.refl _ w).alloc (Nat.le_refl _) _).alloc (by simp) _
  have e1 : (w.alloc (.cells [.slice ra n1 rcap, .slice za xs.length zcap, .slice la ls.length lcap].toArray 26)).alloc (.cells #[.string ⟨#[]⟩, .slice none 0 0] 44) = V := hV
  have e2 : (w.alloc (.cells #[.slice ra n1 rcap, .slice za xs.length zcap, .slice la ls.length lcap] 26)).alloc (.cells [.string ⟨#[]⟩, .slice none 0 0].toArray 44) = V := hV
  rw [e1, hN] at XS
  rw [e2] at XZ
  simp only [World.size_alloc, hN] at XZ
  have HXS := hid XS
  have HXZ := hid XZ
  have HNN := hid hN
  have CC := hid (hC V BV.out)
  obtain ⟨s0, _⟩ := ca_at XS 0 rfl
  obtain ⟨s1, _⟩ := ca_at XS 1 rfl
  obtain ⟨s2, _⟩ := ca_at XS 2 rfl
  have sx := XS.1
  clear XS XZ e1 e2 hC h2 h3 hE
  go_enter Tryz.func16, Tryz.ntmps16
  simp only [hN]
  go_wp2_with fail
  refine CC.out.mono ?_
  rintro e w1 ⟨rfl, hb⟩
  have X1 := hid (ca_below HXS.out hb)
  have Z1 := hid (ca_below HXZ.out hb)
  have B1 : Hid (Below w.heap.size w w1) := BV.out.trans (hb.mono BV.out.size)
  clear s0 s1 s2 sx hb CC
  obtain ⟨s0, _⟩ := ca_at X1.out 0 rfl
  obtain ⟨s1, _⟩ := ca_at X1.out 1 rfl
  obtain ⟨s2, _⟩ := ca_at X1.out 2 rfl
  obtain ⟨q0, k0⟩ := ca_at Z1.out 0 rfl
  obtain ⟨q1, k1⟩ := ca_at Z1.out 1 rfl
  have sx := X1.out.1
  have zx := Z1.out.1
  by_cases hq : E = 0
  case neg =>
    have hq2 : (E == 0) = false := by simp [hq]
    have F1 : findE E xs ls nm = E := by unfold findE; rw [if_pos hq]
    have F2 : findZ E xs ls nm = ⟨[], []⟩ := by unfold findZ; rw [F1, if_neg hq]
    have G1 := hid F1
    have G2 := hid F2
    clear F1 F2
    go_wp2
    have h1 : w.heap.size ≤ N + 1 := by rw [HNN.out]; omega
    refine bodyPost_ret (v := .tuple #[.agg #[.string ⟨#[]⟩, .slice none 0 0], .int .i64 E]) (by simp [results, Tryz.results16, go_sem, *]) rfl ⟨.slice none 0 0, by rw [G1.out, G2.out], by rw [G2.out]; exact World.ownsRow_nil _ _ _ _, ?_⟩
    have h2 := below_put (below_put B1.out h1 0 (.string ⟨#[]⟩)) h1 1 (.slice none 0 0)
    rw [HNN.out] at h2
    exact h2
  subst hq
  obtain ⟨hx, hl, hes⟩ := HEE.out rfl
  have CZ := hid (zoneOf_any nm zs ls xs ra za la n1 rcap zcap lcap w1 (rdZv_below H2.out B1.out) (rd_below H3.out B1.out) hx hl)
  have HES := hid hes
  clear HEE hx hl hes
  go_wp2_with fail
  refine CZ.out.mono ?_
  rintro e w2 ⟨rfl, hb⟩
  have B2 : Hid (Below w.heap.size w w2) := B1.out.trans (hb.mono B1.out.size)
  have Z2 : Hid (CellsAt w2 (N + 1) [.string ⟨#[]⟩, .slice none 0 0]) := ca_below Z1.out hb
  clear s0 s1 s2 sx q0 k0 q1 k1 zx CZ hb
  obtain ⟨q0, k0⟩ := ca_at Z2.out 0 rfl
  obtain ⟨q1, k1⟩ := ca_at Z2.out 1 rfl
  have zx := Z2.out.1
  obtain ⟨C, hC⟩ : ∃ C, zvHas xs (nameTo ls nm) = C := ⟨_, rfl⟩
  have HCC := hid hC
  rw [hC]
  clear hC
  have h1 := hid (show w.heap.size ≤ N + 1 by rw [HNN.out]; omega)
  cases C
  case false =>
    have F1 : findE 0 xs ls nm = 5 := by unfold findE; rw [if_neg (by simp), HCC.out]; rfl
    have F2 : findZ 0 xs ls nm = ⟨[], []⟩ := by unfold findZ; rw [F1]; rfl
    have G1 := hid F1
    have G2 := hid F2
    clear F1 F2
    go_wp2
    refine bodyPost_ret (v := .tuple #[.agg #[.string ⟨#[]⟩, .slice none 0 0], .int .i64 5]) (by simp [results, Tryz.results16, go_sem, *]) rfl ⟨.slice none 0 0, by rw [G1.out, G2.out], by rw [G2.out]; exact World.ownsRow_nil _ _ _ _, ?_⟩
    have h2 := below_put (below_put B2.out h1.out 0 (.string ⟨#[]⟩)) h1.out 1 (.slice none 0 0)
    rw [HNN.out] at h2
    exact h2.alloc (by have := h2.size; rw [HNN.out] at this; exact this) _
  have F1 : findE 0 xs ls nm = 0 := by unfold findE; rw [if_neg (by simp), HCC.out]; rfl
  have F2 : findZ 0 xs ls nm = (zvAt xs (nameTo ls nm)).z := by unfold findZ; rw [F1]; rfl
  have HM := zvAt_mem HCC.out
  have HL := hid (HES.out _ HM)
  have RE := hid (H2.out.eras _ HM)
  obtain ⟨y, hy⟩ : ∃ y, zvAt xs (nameTo ls nm) = y := ⟨_, rfl⟩
  rw [hy] at F2 HL RE ⊢
  have G1 := hid F1
  have G2 := hid F2
  clear F1 F2 HM hy
  obtain ⟨M, hM⟩ : ∃ M, w2.heap.size = M := ⟨_, rfl⟩
  obtain ⟨V3, hV3⟩ : ∃ V3, w2.alloc (.cells #[.string ⟨y.z.name.toArray⟩, .slice y.a y.z.eras.length y.c] 44) = V3 := ⟨_, rfl⟩
  have Y3 : Hid (CellsAt V3 M [strV y.z.name, .slice y.a y.z.eras.length y.c]) := by
    show CellsAt _ _ _
    rw [← hV3, ← hM]; exact ca_new w2 [strV y.z.name, .slice y.a y.z.eras.length y.c] 44
  have Z3 : Hid (CellsAt V3 (N + 1) [.string ⟨#[]⟩, .slice none 0 0]) := by show CellsAt _ _ _; rw [← hV3]; exact ca_alloc Z2.out _
  have B3 : Hid (Below w.heap.size w V3) := by show Below _ _ _; rw [← hV3]; exact B2.out.alloc B2.out.size _
  have UU : V3.cell? ⟨M, 0, none⟩ = some (strV y.z.name) ∧ V3.cell? ⟨M, 1, none⟩ = some (.slice y.a y.z.eras.length y.c) := ⟨(ca_at Y3.out 0 rfl).1, (ca_at Y3.out 1 rfl).1⟩
  have UUd : V3.drew.cell? ⟨M, 0, none⟩ = some (strV y.z.name) ∧ V3.drew.cell? ⟨M, 1, none⟩ = some (.slice y.a y.z.eras.length y.c) := UU
  have neM : ¬ M = N + 1 := by have := zx; omega
  have CL := hid (clone_any y.z.eras y.a y.c V3.drew (rd_below RE.out (B3.out.trans ((show Below V3.heap.size V3 V3.drew from ⟨rfl, rfl, rfl, Nat.le_refl _, fun _ _ => rfl⟩).mono B3.out.size))) HL.out)
  have CL2 := hid (clone_any y.z.eras y.a y.c V3 (rd_below RE.out B3.out) HL.out)
  have sY := Y3.out.1
  have after : Hid (∀ w6, Below V3.heap.size V3 w6 → (w6.cell? ⟨M, 0, none⟩ = some (strV y.z.name) ∧ w6.cell? ⟨M, 1, none⟩ = some (.slice y.a y.z.eras.length y.c)) ∧ CellsAt w6 (N + 1) [.string ⟨#[]⟩, .slice none 0 0] ∧ Below w.heap.size w w6) := by
    intro w6 hb
    have Y6 := ca_below Y3.out hb
    exact ⟨⟨(ca_at Y6 0 rfl).1, (ca_at Y6 1 rfl).1⟩, ca_below Z3.out hb, B3.out.trans (hb.mono B3.out.size)⟩
  have S3 := hid B3.out.size
  clear q0 k0 q1 k1 zx
  have HM3 := hid hM
  go_wp2_with fail
  have UUx := hid UU
  go_region_held3 (fun w' => w'.cell? ⟨M, 0, none⟩ = some (strV y.z.name) ∧ w'.cell? ⟨M, 1, none⟩ = some (.slice y.a y.z.eras.length y.c))
    (first | with_reducible exact UU | with_reducible exact UUd | with_reducible exact UU6 | with_reducible exact set2 neM (set2 neM UU6) | go_keep)
    (first | (go_at_call 55; (with_reducible refine CL.out.mono ?_); rintro e w6 ⟨cv, rfl, O6, hb6⟩; obtain ⟨UU6, Z6, B6⟩ := after.out w6 (below_drew1 hb6); obtain ⟨q0, k0⟩ := ca_at Z6 0 rfl; obtain ⟨q1, k1⟩ := ca_at Z6 1 rfl; have zx := Z6.1; have O7 := hid O6; have B7 := hid B6; obtain ⟨ca, ccap, rfl⟩ := owns_shape0 O6; clear O6 hb6 B6))
  all_goals
    go_wp2
    have o1 : OwnEras w6 w.heap.size (.slice ca y.z.eras.length ccap) y.z.eras := owns_base O7.out S3.out
    have ne : ∀ o, Value.ownBlock (.slice ca y.z.eras.length ccap) ≠ some (⟨N + 1, o, none⟩ : Addr).block := by
      intro o q
      have h8 := (O7.out.lt _ q).1
      have h9 : V3.drew.heap.size = V3.heap.size := rfl
      have h10 := Z3.out.1
      have h11 : V3.heap.size = M + 1 := by rw [← hV3, World.size_alloc, HM3.out]
      simp only at h8
      omega
    have h2 := below_put (below_put B7.out h1.out 0 (.string ⟨y.z.name.toArray⟩)) h1.out 1 (.slice ca y.z.eras.length ccap)
    rw [HNN.out] at h2 o1
    refine bodyPost_ret (v := .tuple #[.agg #[strV y.z.name, .slice ca y.z.eras.length ccap], .int .i64 0]) (by simp [results, Tryz.results16, go_sem, *]) rfl ⟨.slice ca y.z.eras.length ccap, by rw [G1.out, G2.out], ?_, h2⟩
    rw [G2.out]
    refine ownsRow_setCell_other ?_ (ne _) _
    refine ownsRow_setCell_other ?_ (ne _) _
    exact o1
end Go.Proofs.YtkhlkohlccndgaaGreat
namespace Go.Proofs.YtkhlkohlccndgaaGreat
open Go.RowKit Go.Shelf
set_option linter.unusedVariables false
set_option linter.unusedSimpArgs false

/- the name that a format makes of a saving and its letter -/
def nameE (fmt : Tx.Bs) (sv : Int) (lt : Tx.Bs) : Tx.Bs :=
  if (Lib.cut fmt Sx.pct).2.2 = true then (Lib.cut fmt Sx.pct).1 ++ lt ++ (Lib.cut fmt Sx.pct).2.1
  else if (Lib.cut fmt Sx.slash).2.2 = true ∧ 0 < sv then (Lib.cut fmt Sx.slash).2.1 else (Lib.cut fmt Sx.slash).1
theorem ret_str {a b : ByteArray} (h : a = b) : Ending.returned (.string a) = .returned (.string b) := by rw [h]
theorem bytes_app (a b : Tx.Bs) : (⟨a.toArray⟩ : ByteArray) ++ ⟨b.toArray⟩ = ⟨(a ++ b).toArray⟩ := by
  apply ByteArray.ext; simp
set_option maxRecDepth 100000 in
set_option maxHeartbeats 2000000 in
theorem nameOf_any (fmt lt : Tx.Bs) (at_ sv m : Int) (w : World) (hf : fmt.length ≤ 1000000) (hl : lt.length ≤ 1000000) (hm : w.cell? ⟨0, 0, none⟩ = some (.int .i64 m)) (h0 : 0 < w.heap.size) :
    Calls Tryz.prog 111 #[strV fmt, .agg #[.int .i64 at_, .int .i64 sv, strV lt]] w fun e w' => e = .returned (.string ⟨(nameE fmt sv lt).toArray⟩) ∧ Below w.heap.size w w' := by
  obtain ⟨V, hV⟩ : ∃ V, w.alloc (.cells #[.int .i64 at_, .int .i64 sv, strV lt] 72) = V := ⟨_, rfl⟩
  have XV : CellsAt V w.heap.size [.int .i64 at_, .int .i64 sv, strV lt] := by rw [← hV]; exact ca_new w [.int .i64 at_, .int .i64 sv, strV lt] 72
  have BV : Hid (Below w.heap.size w V) := by show Below _ _ _; rw [← hV]; exact (Below.refl _ w).alloc (Nat.le_refl _) _
  have mV : V.cell? ⟨0, 0, none⟩ = some (.int .i64 m) := (BV.out.cell (p := ⟨0, 0, none⟩) h0).trans hm
  have C1 := hid (cut_any fmt Sx.pct m V (by omega) mV)
  have HX := hid XV
  have HF := hid hf
  have HM := hid mV
  obtain ⟨l1, l2⟩ := cut_len fmt Sx.pct
  obtain ⟨a, ha⟩ : ∃ a, (Lib.cut fmt Sx.pct).1 = a := ⟨_, rfl⟩
  obtain ⟨b, hb⟩ : ∃ b, (Lib.cut fmt Sx.pct).2.1 = b := ⟨_, rfl⟩
  obtain ⟨c, hc⟩ : ∃ c, (Lib.cut fmt Sx.pct).2.2 = c := ⟨_, rfl⟩
  rw [ha, hb, hc] at C1
  rw [ha] at l1
  rw [hb] at l2
  have HN : Hid (nameE fmt sv lt = if c = true then a ++ lt ++ b else if (Lib.cut fmt Sx.slash).2.2 = true ∧ 0 < sv then (Lib.cut fmt Sx.slash).2.1 else (Lib.cut fmt Sx.slash).1) := by
    show _ = _
    unfold nameE; rw [ha, hb, hc]
  clear ha hb hc XV mV hm h0
  go_enter Tryz.func111, Tryz.ntmps111
  go_wp2_with fail
  refine C1.out.mono ?_
  rintro e w1 ⟨rfl, n, rfl⟩
  obtain ⟨x0, _⟩ := ca_at HX.out 0 rfl
  obtain ⟨x1, _⟩ := ca_at HX.out 1 rfl
  obtain ⟨x2, _⟩ := ca_at HX.out 2 rfl
  have sx := HX.out.1
  cases c
  case true =>
    have EN : Hid (nameE fmt sv lt = a ++ lt ++ b) := by show _ = _; rw [HN.out]; rfl
    go_wp2
    go_ret
    exact ⟨ret_str (by rw [EN.out, ← bytes_app, ← bytes_app]), BV.out.trans ((belowN V n).mono BV.out.size)⟩
  case false =>
    have C2 := hid (cut_any fmt Sx.slash m (V.drewN n) (by omega) HM.out)
    obtain ⟨c, hc⟩ : ∃ c, (Lib.cut fmt Sx.slash).1 = c := ⟨_, rfl⟩
    obtain ⟨d, hd⟩ : ∃ d, (Lib.cut fmt Sx.slash).2.1 = d := ⟨_, rfl⟩
    obtain ⟨e, he⟩ : ∃ e, (Lib.cut fmt Sx.slash).2.2 = e := ⟨_, rfl⟩
    rw [hc, hd, he] at C2
    rw [hc, hd, he] at HN
    have BD := hid (BV.out.trans ((belowN V n).mono BV.out.size))
    clear hc hd he
    go_wp2_with fail
    refine C2.out.mono ?_
    rintro _ w2 ⟨rfl, n2, rfl⟩
    have BE := hid (fun k => BV.out.trans ((belowN V k).mono BV.out.size))
    cases e
    case false =>
      have EN : Hid (nameE fmt sv lt = c) := by show _ = _; rw [HN.out]; simp
      go_wp2
      go_ret
      exact ⟨ret_str (by rw [EN.out]), BE.out _⟩
    case true =>
      by_cases hs : 0 < sv
      · have HS := hid hs
        have EN : Hid (nameE fmt sv lt = d) := by show _ = _; rw [HN.out]; simp [hs]
        have hs2 : decide (0 < sv) = true := by simp [hs]
        have hs3 : sv > 0 := hs
        go_wp2
        go_ret
        exact ⟨ret_str (by rw [EN.out]), BE.out _⟩
      · have HS := hid hs
        have EN : Hid (nameE fmt sv lt = c) := by show _ = _; rw [HN.out]; simp [hs]
        have hs2 : decide (0 < sv) = false := by simp [hs]
        go_wp2
        go_ret
        exact ⟨ret_str (by rw [EN.out]), BE.out _⟩
theorem cells_e {b c : Nat} {u0 u1 v0 v1 v2 : Value} {w w' : World} (h : w.cell? ⟨b, 0, none⟩ = some u0 ∧ w.cell? ⟨b, 3, none⟩ = some u1 ∧ w.cell? ⟨c, 0, none⟩ = some v0 ∧ w.cell? ⟨c, 1, none⟩ = some v1 ∧ w.cell? ⟨c, 2, none⟩ = some v2) (hb : b < w.heap.size) (hc : c < w.heap.size) (hw : Below w.heap.size w w') :
    w'.cell? ⟨b, 0, none⟩ = some u0 ∧ w'.cell? ⟨b, 3, none⟩ = some u1 ∧ w'.cell? ⟨c, 0, none⟩ = some v0 ∧ w'.cell? ⟨c, 1, none⟩ = some v1 ∧ w'.cell? ⟨c, 2, none⟩ = some v2 :=
  ⟨(hw.cell (p := ⟨b, 0, none⟩) hb).trans h.1, (hw.cell (p := ⟨b, 3, none⟩) hb).trans h.2.1, (hw.cell (p := ⟨c, 0, none⟩) hc).trans h.2.2.1, (hw.cell (p := ⟨c, 1, none⟩) hc).trans h.2.2.2.1, (hw.cell (p := ⟨c, 2, none⟩) hc).trans h.2.2.2.2⟩
theorem cells_es {b c q o : Nat} {u u0 u1 v0 v1 v2 : Value} {w : World} (hb : ¬ b = q) (hc : ¬ c = q) (h : w.cell? ⟨b, 0, none⟩ = some u0 ∧ w.cell? ⟨b, 3, none⟩ = some u1 ∧ w.cell? ⟨c, 0, none⟩ = some v0 ∧ w.cell? ⟨c, 1, none⟩ = some v1 ∧ w.cell? ⟨c, 2, none⟩ = some v2) :
    (w.setCell ⟨q, o, none⟩ u).cell? ⟨b, 0, none⟩ = some u0 ∧ (w.setCell ⟨q, o, none⟩ u).cell? ⟨b, 3, none⟩ = some u1 ∧ (w.setCell ⟨q, o, none⟩ u).cell? ⟨c, 0, none⟩ = some v0 ∧ (w.setCell ⟨q, o, none⟩ u).cell? ⟨c, 1, none⟩ = some v1 ∧ (w.setCell ⟨q, o, none⟩ u).cell? ⟨c, 2, none⟩ = some v2 := by
  have e1 : ∀ k, (w.setCell ⟨q, o, none⟩ u).cell? ⟨b, k, none⟩ = w.cell? ⟨b, k, none⟩ := fun k => World.cell?_of_block (Below.heap_setCell _ _ _ _ hb)
  have e2 : ∀ k, (w.setCell ⟨q, o, none⟩ u).cell? ⟨c, k, none⟩ = w.cell? ⟨c, k, none⟩ := fun k => World.cell?_of_block (Below.heap_setCell _ _ _ _ hc)
  simp only [e1, e2]
  exact h
set_option maxRecDepth 100000 in
set_option maxHeartbeats 4000000 in
theorem local_any (x : Sx.Er) (t : Sx.Tm) (m : Int) (w : World) (hf : x.format.length ≤ 1000000) (hl : t.letter.length ≤ 1000000) (hm : w.cell? ⟨0, 0, none⟩ = some (.int .i64 m)) (h0 : 0 < w.heap.size)
    (b1 : -1000000000000 ≤ x.shift ∧ x.shift ≤ 1000000000000) (b2 : -1000000000000 ≤ t.save ∧ t.save ≤ 1000000000000) :
    Calls Tryz.prog 52 #[eraV x, timeV t] w fun e w' => e = .returned (lcV ⟨x.shift + t.save, t.save, nameE x.format t.save t.letter⟩) ∧ Below w.heap.size w w' := by
  obtain ⟨ta, ts, tl⟩ := t
  dsimp only at hl b2
  obtain ⟨N, hN⟩ : ∃ N, w.heap.size = N := ⟨_, rfl⟩
  obtain ⟨V, hV⟩ : ∃ V, ((w.alloc (.cells (eraCells x).toArray 67)).alloc (.cells #[.int .i64 ta, .int .i64 ts, strV tl] 72)).alloc (.cells #[.int .i64 0, .int .i64 0, .string ⟨#[]⟩] 31) = V := ⟨_, rfl⟩
  have XE := ca_alloc (ca_alloc (ca_new w (eraCells x) 67) (.cells #[.int .i64 ta, .int .i64 ts, strV tl] 72)) (.cells #[.int .i64 0, .int .i64 0, .string ⟨#[]⟩] 31)
  have XT := ca_alloc (ca_new (w.alloc (.cells (eraCells x).toArray 67)) [.int .i64 ta, .int .i64 ts, strV tl] 72) (.cells #[.int .i64 0, .int .i64 0, .string ⟨#[]⟩] 31)
  have XL := ca_new ((w.alloc (.cells (eraCells x).toArray 67)).alloc (.cells #[.int .i64 ta, .int .i64 ts, strV tl] 72)) [.int .i64 0, .int .i64 0, .string ⟨#[]⟩] 31
  have e2 : ((w.alloc (.cells (eraCells x).toArray 67)).alloc (.cells [.int .i64 ta, .int .i64 ts, strV tl].toArray 72)).alloc (.cells #[.int .i64 0, .int .i64 0, .string ⟨#[]⟩] 31) = V := hV
  have e3 : ((w.alloc (.cells (eraCells x).toArray 67)).alloc (.cells #[.int .i64 ta, .int .i64 ts, strV tl] 72)).alloc (.cells [.int .i64 0, .int .i64 0, .string ⟨#[]⟩].toArray 31) = V := hV
  rw [hV, hN] at XE
  rw [e2] at XT
  rw [e3] at XL
  simp only [World.size_alloc, hN] at XT XL
  have BV : Hid (Below N w V) := by show Below _ _ _; rw [← hV]; exact (((Below.refl N w).alloc (by omega) _).alloc (by simp; omega) _).alloc (by simp; omega) _
  have mV : V.cell? ⟨0, 0, none⟩ = some (.int .i64 m) := (BV.out.cell (p := ⟨0, 0, none⟩) (by show 0 < N; omega)).trans hm
  have sV := XL.1
  have EV := eraH_of XE
  have UU : V.cell? ⟨N, 0, none⟩ = some (.int .i64 x.shift) ∧ V.cell? ⟨N, 3, none⟩ = some (strV x.format) ∧ V.cell? ⟨N + 1, 0, none⟩ = some (.int .i64 ta) ∧ V.cell? ⟨N + 1, 1, none⟩ = some (.int .i64 ts) ∧ V.cell? ⟨N + 1, 2, none⟩ = some (strV tl) := ⟨EV.1, EV.2.2.2.1, (ca_at XT 0 rfl).1, (ca_at XT 1 rfl).1, (ca_at XT 2 rfl).1⟩
  have UUd : V.drew.cell? ⟨N, 0, none⟩ = some (.int .i64 x.shift) ∧ V.drew.cell? ⟨N, 3, none⟩ = some (strV x.format) ∧ V.drew.cell? ⟨N + 1, 0, none⟩ = some (.int .i64 ta) ∧ V.drew.cell? ⟨N + 1, 1, none⟩ = some (.int .i64 ts) ∧ V.drew.cell? ⟨N + 1, 2, none⟩ = some (strV tl) := UU
  have CN := hid (nameOf_any x.format tl ta ts m V.drew hf hl mV (by show 0 < V.heap.size; omega))
  have after : Hid (∀ w6, Below V.drew.heap.size V.drew w6 → (w6.cell? ⟨N, 0, none⟩ = some (.int .i64 x.shift) ∧ w6.cell? ⟨N, 3, none⟩ = some (strV x.format) ∧ w6.cell? ⟨N + 1, 0, none⟩ = some (.int .i64 ta) ∧ w6.cell? ⟨N + 1, 1, none⟩ = some (.int .i64 ts) ∧ w6.cell? ⟨N + 1, 2, none⟩ = some (strV tl)) ∧ CellsAt w6 (N + 1 + 1) [.int .i64 0, .int .i64 0, .string ⟨#[]⟩] ∧ Below N w w6) := by
    intro w6 hb
    have hb' := below_drew1 hb
    exact ⟨cells_e UU (by omega) (by omega) hb', ca_below XL hb', BV.out.trans (hb'.mono (by omega))⟩
  have ne1 : ¬ N = N + 1 + 1 := by omega
  have ne2 : ¬ N + 1 = N + 1 + 1 := by omega
  obtain ⟨nm, hnm⟩ : ∃ nm, nameE x.format ts tl = nm := ⟨_, rfl⟩
  rw [hnm] at CN
  have HNM := hid hnm
  have HNN := hid hN
  have HB1 := hid b1
  have HB2 := hid b2
  have B1 := b1.1
  have B1' := b1.2
  have B2 := b2.1
  have B2' := b2.2
  clear XE XT XL e2 e3 EV mV hm h0 hf hl hnm b1 b2
  go_enter Tryz.func52, Tryz.ntmps52
  simp only [hN]
  have hVx : ((w.alloc (.cells #[.int .i64 x.shift, strV x.rules, .int .i64 x.save, strV x.format, .bool x.opn, .int .i64 x.uy, .int .i64 x.um, .int .i64 x.ud, .int .i64 x.uat, .int .i64 x.uclock] 67)).alloc (.cells #[.int .i64 ta, .int .i64 ts, strV tl] 72)).alloc (.cells #[.int .i64 0, .int .i64 0, .string ⟨#[]⟩] 31) = V := hV
  go_wp2_with fail
  go_region_held3 (fun w' => w'.cell? ⟨N, 0, none⟩ = some (.int .i64 x.shift) ∧ w'.cell? ⟨N, 3, none⟩ = some (strV x.format) ∧ w'.cell? ⟨N + 1, 0, none⟩ = some (.int .i64 ta) ∧ w'.cell? ⟨N + 1, 1, none⟩ = some (.int .i64 ts) ∧ w'.cell? ⟨N + 1, 2, none⟩ = some (strV tl))
    (first | with_reducible exact UU | with_reducible exact UUd | with_reducible exact UU6 | with_reducible exact cells_es ne1 ne2 (cells_es ne1 ne2 (cells_es ne1 ne2 UU6)) | go_keep)
    (first | (go_at_call 111; (with_reducible refine CN.out.mono ?_); rintro e w6 ⟨rfl, hb6⟩; obtain ⟨UU6, L6, B6⟩ := after.out w6 hb6; obtain ⟨q0, k0⟩ := ca_at L6 0 rfl; obtain ⟨q1, k1⟩ := ca_at L6 1 rfl; obtain ⟨q2, k2⟩ := ca_at L6 2 rfl; have zx := L6.1; have B7 := hid B6; clear hb6 B6))
  all_goals
    have hw : IntKind.i64.wrap (x.shift + ts) = x.shift + ts := IntWalk.i64_in _ (by omega)
    rw [hw]
    have h1 : N ≤ N + 1 + 1 := by omega
    have h2 := below_put (below_put (below_put B7.out h1 0 (.int .i64 (x.shift + ts))) h1 1 (.int .i64 ts)) h1 2 (.string ⟨nm.toArray⟩)
    go_wp2
    refine bodyPost_ret (v := lcV ⟨x.shift + ts, ts, nm⟩) (by simp [results, Tryz.results52, go_sem, *]) rfl ⟨by rw [HNM.out], h2⟩
end Go.Proofs.YtkhlkohlccndgaaGreat
namespace Go.Proofs.YtkhlkohlccndgaaGreat
open Go.RowKit Go.Shelf
set_option linter.unusedVariables false
set_option linter.unusedSimpArgs false
attribute [local go_sem] Oper.semAt_some

set_option maxRecDepth 100000 in
set_option maxHeartbeats 1000000 in
theorem savedAt1_any (x : Sx.Tm) (B : Nat) (at_ : Int) (w : World) (hB : B < w.heap.size) (h : w.cell? ⟨B, 0, none⟩ = some (.int .i64 at_)) :
    Calls Tryz.prog 114 #[timeV x, .pointer (some ⟨B, 0, none⟩)] w fun e w' => e = .returned (.bool (decide (x.at_ ≤ at_))) ∧ Below w.heap.size w w' := by
  have BV := hid ((Below.refl w.heap.size w).alloc (Nat.le_refl _) (.cells (timeC x).toArray 72))
  have XV := ca_new w (timeC x) 72
  obtain ⟨x0, _⟩ := ca_at XV 0 rfl
  have y0 := (BV.out.cell (p := ⟨B, 0, none⟩) hB).trans h
  have sx := XV.1
  have sB : B < (w.alloc (.cells (timeC x).toArray 72)).heap.size := Nat.lt_of_lt_of_le hB BV.out.size
  clear XV
  go_enter Tryz.func114, Tryz.ntmps114
  go_wp2
  go_ret
  exact ⟨rfl, BV.out⟩
/- what is saved at a time, and by what letter -/
def savedT (rs : List Sx.Rl) (x : Sx.Er) (at_ : Int) : Sx.Tm := if x.rules = [] then ⟨0, x.save, []⟩ else lastT (fun t => decide (t.at_ ≤ at_)) (Sx.times rs x.rules x.shift)
set_option maxRecDepth 100000 in
set_option maxHeartbeats 4000000 in
theorem savedAt_any (rs : List Sx.Rl) (rv : Value) (x : Sx.Er) (at_ : Int) (w : World) (h : RdRules w rv rs) (hs : ∀ r ∈ rs, r.name.length ≤ maxLen ∧ r.letter.length ≤ maxLen) (hT : (Sx.times rs x.rules x.shift).length ≤ 10000) :
    Calls Tryz.prog 53 #[rv, eraV x, .int .i64 at_] w fun e w' => e = .returned (timeV (savedT rs x at_)) ∧ Below w.heap.size w w' := by
  obtain ⟨ra, rcap, rfl⟩ := rd_shape h
  obtain ⟨N, hN⟩ : ∃ N, w.heap.size = N := ⟨_, rfl⟩
  obtain ⟨V, hV⟩ : ∃ V, ((w.alloc (.cells (eraCells x).toArray 67)).alloc (.cells #[.int .i64 at_] 3)).alloc (.cells #[.int .i64 0, .int .i64 0, .string ⟨#[]⟩] 72) = V := ⟨_, rfl⟩
  have XE := ca_alloc (ca_alloc (ca_new w (eraCells x) 67) (.cells #[.int .i64 at_] 3)) (.cells #[.int .i64 0, .int .i64 0, .string ⟨#[]⟩] 72)
  have XT := ca_alloc (ca_new (w.alloc (.cells (eraCells x).toArray 67)) [.int .i64 at_] 3) (.cells #[.int .i64 0, .int .i64 0, .string ⟨#[]⟩] 72)
  have XL := ca_new ((w.alloc (.cells (eraCells x).toArray 67)).alloc (.cells #[.int .i64 at_] 3)) [.int .i64 0, .int .i64 0, .string ⟨#[]⟩] 72
  have e2 : ((w.alloc (.cells (eraCells x).toArray 67)).alloc (.cells [.int .i64 at_].toArray 3)).alloc (.cells #[.int .i64 0, .int .i64 0, .string ⟨#[]⟩] 72) = V := hV
  have e3 : ((w.alloc (.cells (eraCells x).toArray 67)).alloc (.cells #[.int .i64 at_] 3)).alloc (.cells [.int .i64 0, .int .i64 0, .string ⟨#[]⟩].toArray 72) = V := hV
  rw [hV, hN] at XE
  rw [e2] at XT
  rw [e3] at XL
  simp only [World.size_alloc, hN] at XT XL
  have BV : Hid (Below N w V) := by show Below _ _ _; rw [← hV]; exact (((Below.refl N w).alloc (by omega) _).alloc (by simp; omega) _).alloc (by simp; omega) _
  have sV := XL.1
  obtain ⟨x0, x1, x2, x3, x4, x5, x6, x7, x8, x9⟩ := eraH_of XE
  obtain ⟨l0, g0⟩ := ca_at XL 0 rfl
  obtain ⟨l1, g1⟩ := ca_at XL 1 rfl
  obtain ⟨l2, g2⟩ := ca_at XL 2 rfl
  have sE := XE.1
  have HNN := hid hN
  have HXT := hid XT
  have HXL := hid XL
  have H := hid h
  have HS := hid hs
  have HT := hid hT
  have CT := hid (times_any rs (.slice ra rs.length rcap) x.rules x.shift V (rd_below h (by rw [hN]; exact BV.out)) hs)
  clear XE XT XL e2 e3 h hs hT
  go_enter Tryz.func53, Tryz.ntmps53
  simp only [hN]
  have hVx : ((w.alloc (.cells #[.int .i64 x.shift, strV x.rules, .int .i64 x.save, strV x.format, .bool x.opn, .int .i64 x.uy, .int .i64 x.um, .int .i64 x.ud, .int .i64 x.uat, .int .i64 x.uclock] 67)).alloc (.cells #[.int .i64 at_] 3)).alloc (.cells #[.int .i64 0, .int .i64 0, .string ⟨#[]⟩] 72) = V := hV
  have h1 := hid (show N ≤ N + 1 + 1 by omega)
  by_cases hr : x.rules = []
  · have ES : Hid (savedT rs x at_ = ⟨0, x.save, []⟩) := by show _ = _; unfold savedT; rw [if_pos hr]
    have he : List.isEmpty x.rules = true := by rw [hr]; rfl
    clear CT hr
    go_wp2
    have h2 := below_put (below_put (below_put BV.out h1.out 0 (.int .i64 0)) h1.out 1 (.int .i64 x.save)) h1.out 2 (.string ⟨#[]⟩)
    refine bodyPost_ret (v := timeV ⟨0, x.save, []⟩) (by simp [results, Tryz.results53, go_sem, *]) rfl ⟨by rw [ES.out], h2⟩
  · have ES : Hid (savedT rs x at_ = lastT (fun t => decide (t.at_ ≤ at_)) (Sx.times rs x.rules x.shift)) := by show _ = _; unfold savedT; rw [if_neg hr]
    have he : List.isEmpty x.rules = false := by cases q : x.rules <;> simp_all
    have e1 : ∀ args w, (callFunc 114 args).run Tryz.prog w = .ok (.enter 114 args) w := enters_of Tryz.func114 (by kernel_rfl) rfl
    have eT : ∀ args w, (callFunc 163 args).run Tryz.prog w = .ok (.enter 163 args) w := enters_of Tryz.func163 (by kernel_rfl) rfl
    have C1 := hid (fun (W : World) (xs : List Sx.Tm) (ta : Option Addr) (tcap : Nat) (hW : Below V.heap.size V W) (hR : RdTimes W (.slice ta xs.length tcap) xs) (hxs : xs.length ≤ 10000) =>
      let hWL : Below W.heap.size W (W.alloc (.cells #[.slice ta xs.length tcap] 68)) := (Below.refl W.heap.size W).alloc (Nat.le_refl _) _
      let hVL : Below V.heap.size V (W.alloc (.cells #[.slice ta xs.length tcap] 68)) := hW.trans (hWL.mono hW.size)
      lastT_any 163 114 #[.pointer (some ⟨W.heap.size, 0, none⟩)] #[.pointer (some ⟨N + 1, 0, none⟩)] (fun t => decide (t.at_ ≤ at_)) xs (W.alloc (.cells #[.slice ta xs.length tcap] 68)) eT e1
        (fun w1 hw1 => valsT_seq 3 W.heap.size (by omega) xs ta tcap (W.alloc (.cells #[.slice ta xs.length tcap] 68)) w1 (rd_below hR hWL) hxs ((hw1.cell (p := ⟨W.heap.size, 0, none⟩) (by simp)).trans (ca_at (ca_new W [.slice ta xs.length tcap] 68) 0 rfl).1) (Nat.lt_of_lt_of_le (by simp) hw1.size) hw1)
        (fun x _ W' hW' => by
          have hh := hVL.trans (hW'.mono hVL.size)
          exact savedAt1_any x (N + 1) at_ W' (Nat.lt_of_lt_of_le HXT.out.1 hh.size) ((hh.cell (p := ⟨N + 1, 0, none⟩) HXT.out.1).trans (ca_at HXT.out 0 rfl).1)))
    clear e1 eT
    go_wp2_with fail
    refine CT.out.mono ?_
    rintro e w1 ⟨tv, rfl, hO, hb⟩
    have HB1 := hid hb
    have RT := hid (ownTimes_rd hO)
    obtain ⟨ta, tcap, rfl⟩ := owns_shape0 hO
    obtain ⟨ts, hts⟩ : ∃ ts, Sx.times rs x.rules x.shift = ts := ⟨_, rfl⟩
    rw [hts] at RT ES HT ⊢
    obtain ⟨te, hte⟩ : ∃ te, Sx.timesE rs x.rules x.shift = te := ⟨_, rfl⟩
    rw [hte]
    clear CT hO hb hte hts x0 x1 x2 x3 x4 x5 x6 x7 x8 x9 l0 g0 l1 g1 l2 g2 sE sV
    go_wp2_with fail
    refine (valsT_any _ _ _ _).mono ?_
    rintro e w2 ⟨rfl, rfl⟩
    go_wp2_with fail
    refine (C1.out w1 ts ta tcap HB1.out RT.out HT.out).mono ?_
    rintro e w3 ⟨rfl, hb⟩
    have HB3 : Hid (Below V.heap.size V w3) := HB1.out.trans (((Below.refl w1.heap.size w1).alloc (Nat.le_refl _) (.cells #[.slice ta ts.length tcap] 68)).trans (hb.mono (by simp)) |>.mono HB1.out.size)
    have L3 := ca_below HXL.out HB3.out
    obtain ⟨l0, g0⟩ := ca_at L3 0 rfl
    obtain ⟨l1, g1⟩ := ca_at L3 1 rfl
    obtain ⟨l2, g2⟩ := ca_at L3 2 rfl
    have sL := L3.1
    obtain ⟨y, hy⟩ : ∃ y, lastT (fun t => decide (t.at_ ≤ at_)) ts = y := ⟨_, rfl⟩
    obtain ⟨A, hA⟩ : ∃ A, (ts.any fun t => decide (t.at_ ≤ at_)) = A := ⟨_, rfl⟩
    rw [hy, hA]
    rw [hy] at ES
    have B3 : Hid (Below N w w3) := BV.out.trans (HB3.out.mono (by have := HXL.out.1; omega))
    clear hb hy hA C1 L3
    go_wp2
    have h2 := (below_put (below_put (below_put B3.out h1.out 0 (.int .i64 y.at_)) h1.out 1 (.int .i64 y.save)) h1.out 2 (.string ⟨y.letter.toArray⟩)).alloc (by have := B3.out.size; rw [HNN.out] at this; simpa using this) (.cells #[.int .i64 y.at_, .int .i64 y.save, .string ⟨y.letter.toArray⟩] 72)
    refine bodyPost_ret (v := timeV y) (by simp [results, Tryz.results53, go_sem, *]) rfl ⟨by rw [ES.out], h2⟩
end Go.Proofs.YtkhlkohlccndgaaGreat
namespace Go.Proofs.YtkhlkohlccndgaaGreat
open Go.RowKit Go.Shelf
set_option linter.unusedVariables false
set_option linter.unusedSimpArgs false
attribute [local go_sem] Oper.semAt_some

set_option maxRecDepth 100000 in
set_option maxHeartbeats 2000000 in
theorem at1_any (x : Sx.Er) (B : Nat) (at_ : Int) (w : World) (hB : B < w.heap.size) (h : w.cell? ⟨B, 0, none⟩ = some (.int .i64 at_)) (hok : x.opn = true ∨ EndOk x) :
    Calls Tryz.prog 50 #[eraV x, .pointer (some ⟨B, 0, none⟩)] w fun e w' => e = .returned (.bool (x.opn || decide (at_ < endAt x))) ∧ Below w.heap.size w w' := by
  obtain ⟨sh, rl, sv, fm, op, uy, um, ud, ua, uc⟩ := x
  cases op
  case' true => obtain ⟨x, hx⟩ : ∃ x, (⟨sh, rl, sv, fm, true, uy, um, ud, ua, uc⟩ : Sx.Er) = x := ⟨_, rfl⟩
  case' false => obtain ⟨x, hx⟩ : ∃ x, (⟨sh, rl, sv, fm, false, uy, um, ud, ua, uc⟩ : Sx.Er) = x := ⟨_, rfl⟩
  all_goals
    obtain ⟨N, hN⟩ : ∃ N, w.heap.size = N := ⟨_, rfl⟩
    obtain ⟨V, hV⟩ : ∃ V, w.alloc (.cells (eraCells x).toArray 67) = V := ⟨_, rfl⟩
    have XV := ca_new w (eraCells x) 67
    rw [hV, hN] at XV
    have BV : Hid (Below N w V) := by show Below _ _ _; rw [← hV]; exact (Below.refl N w).alloc (by omega) _
    have y0 := (BV.out.cell (p := ⟨B, 0, none⟩) (by show B < N; omega)).trans h
    have sx := XV.1
    have sB : B < V.heap.size := by omega
    have EX := hid (show EraH N x V ∧ V.cell? ⟨B, 0, none⟩ = some (.int .i64 at_) from ⟨eraH_of XV, y0⟩)
    subst hx
    have x4 := EX.out.1.2.2.2.2.1
    dsimp only at x4
    clear XV y0 h
  case true =>
    clear hok
    go_enter Tryz.func50, Tryz.ntmps50
    simp only [hN]
    have hVx : w.alloc (.cells #[.int .i64 sh, strV rl, .int .i64 sv, strV fm, .bool true, .int .i64 uy, .int .i64 um, .int .i64 ud, .int .i64 ua, .int .i64 uc] 67) = V := hV
    go_wp2_with fail
    refine wp_region_held_drew (S := fun w' => EraH N ⟨sh, rl, sv, fm, true, uy, um, ud, ua, uc⟩ w' ∧ w'.cell? ⟨B, 0, none⟩ = some (.int .i64 at_)) (by kernel_rfl) EX.out (fun hHeld => ?_)
    refine wpAnyH_take (i := 0) (v := ?vz1z) rfl (by kernel_rfl) (by kernel_rfl) (by kernel_rfl) (fun _ _ _ h => h) (Or.inl ⟨by rfl, ?hyz1z⟩) (by assumption) ?_
    case hyz1z => (intro w hSw; (obtain ⟨⟨s0, s1, s2, s3, s4, s5, s6, s7, s8, s9⟩, sb⟩ := hSw); (try dsimp only at s0 s1 s2 s3 s4 s5 s6 s7 s8 s9); go_simp; try with_reducible rfl)
    try simp only [Act.put, List.setIfInBounds_toArray, List.set_cons_zero, List.set_cons_succ, List.getElem_toArray, List.getElem_cons_zero, List.getElem_cons_succ]
    refine wpAnyH_take (i := 1) (v := ?vz2z) rfl (by kernel_rfl) (by kernel_rfl) (by kernel_rfl) (fun _ _ _ h => h) (Or.inl ⟨by rfl, ?hyz2z⟩) (by assumption) ?_
    case hyz2z => (intro w hSw; (obtain ⟨⟨s0, s1, s2, s3, s4, s5, s6, s7, s8, s9⟩, sb⟩ := hSw); (try dsimp only at s0 s1 s2 s3 s4 s5 s6 s7 s8 s9); go_simp; try with_reducible rfl)
    try simp only [Act.put, List.setIfInBounds_toArray, List.set_cons_zero, List.set_cons_succ, List.getElem_toArray, List.getElem_cons_zero, List.getElem_cons_succ]
    refine wpAnyH_take (i := 2) (v := ?vz3z) rfl (by kernel_rfl) (by kernel_rfl) (by kernel_rfl) (fun _ _ _ h => h) (Or.inl ⟨by rfl, ?hyz3z⟩) (by assumption) ?_
    case hyz3z => (intro w hSw; (obtain ⟨⟨s0, s1, s2, s3, s4, s5, s6, s7, s8, s9⟩, sb⟩ := hSw); (try dsimp only at s0 s1 s2 s3 s4 s5 s6 s7 s8 s9); go_simp; try with_reducible rfl)
    try simp only [Act.put, List.setIfInBounds_toArray, List.set_cons_zero, List.set_cons_succ, List.getElem_toArray, List.getElem_cons_zero, List.getElem_cons_succ]
    refine wpAnyH_take (i := 3) (v := undef) rfl (by kernel_rfl) (by kernel_rfl) (by kernel_rfl) (fun _ _ _ h => h) (Or.inr ⟨by rfl, rfl⟩) (by assumption) ?_
    try simp only [Act.put, List.setIfInBounds_toArray, List.set_cons_zero, List.set_cons_succ, List.getElem_toArray, List.getElem_cons_zero, List.getElem_cons_succ]
    refine wpAnyH_take (i := 4) (v := undef) rfl (by kernel_rfl) (by kernel_rfl) (by kernel_rfl) (fun _ _ _ h => h) (Or.inr ⟨by rfl, rfl⟩) (by assumption) ?_
    try simp only [Act.put, List.setIfInBounds_toArray, List.set_cons_zero, List.set_cons_succ, List.getElem_toArray, List.getElem_cons_zero, List.getElem_cons_succ]
    refine wpAnyH_take (i := 5) (v := undef) rfl (by kernel_rfl) (by kernel_rfl) (by kernel_rfl) (fun _ _ _ h => h) (Or.inr ⟨by rfl, rfl⟩) (by assumption) ?_
    try simp only [Act.put, List.setIfInBounds_toArray, List.set_cons_zero, List.set_cons_succ, List.getElem_toArray, List.getElem_cons_zero, List.getElem_cons_succ]
    refine wpAnyH_take (i := 6) (v := undef) rfl (by kernel_rfl) (by kernel_rfl) (by kernel_rfl) (fun _ _ _ h => h) (Or.inr ⟨by rfl, rfl⟩) (by assumption) ?_
    try simp only [Act.put, List.setIfInBounds_toArray, List.set_cons_zero, List.set_cons_succ, List.getElem_toArray, List.getElem_cons_zero, List.getElem_cons_succ]
    refine wpAnyH_take (i := 7) (v := ?vz4z) rfl (by kernel_rfl) (by kernel_rfl) (by kernel_rfl) (fun _ _ _ h => h) (Or.inl ⟨by rfl, ?hyz4z⟩) (by assumption) ?_
    case hyz4z => (intro w hSw; (obtain ⟨⟨s0, s1, s2, s3, s4, s5, s6, s7, s8, s9⟩, sb⟩ := hSw); (try dsimp only at s0 s1 s2 s3 s4 s5 s6 s7 s8 s9); go_simp; try with_reducible rfl)
    try simp only [Act.put, List.setIfInBounds_toArray, List.set_cons_zero, List.set_cons_succ, List.getElem_toArray, List.getElem_cons_zero, List.getElem_cons_succ]
    refine wpAnyH_take (i := 8) (v := ?vz5z) rfl (by kernel_rfl) (by kernel_rfl) (by kernel_rfl) (fun _ _ _ h => h) (Or.inl ⟨by rfl, ?hyz5z⟩) (by assumption) ?_
    case hyz5z => (intro w hSw; (obtain ⟨⟨s0, s1, s2, s3, s4, s5, s6, s7, s8, s9⟩, sb⟩ := hSw); (try dsimp only at s0 s1 s2 s3 s4 s5 s6 s7 s8 s9); go_simp; try with_reducible rfl)
    try simp only [Act.put, List.setIfInBounds_toArray, List.set_cons_zero, List.set_cons_succ, List.getElem_toArray, List.getElem_cons_zero, List.getElem_cons_succ]
    refine wpAnyH_done (by kernel_rfl) ?_ _
    go_wp2
    go_ret
    exact ⟨rfl, ⟨BV.out.os, BV.out.tape, BV.out.output, BV.out.size, BV.out.block⟩⟩
  case false =>
    have HOE : Hid (EndOk ⟨sh, rl, sv, fm, false, uy, um, ud, ua, uc⟩) := hok.resolve_left (by simp)
    have HC := hid (endOf_any _ V.drew HOE.out)
    obtain ⟨en, hen⟩ : ∃ en, endAt ⟨sh, rl, sv, fm, false, uy, um, ud, ua, uc⟩ = en := ⟨_, rfl⟩
    have ebd := endAt_bd HOE.out
    rw [hen] at HC ebd
    have HEN := hid hen
    clear hok hen HOE
    have hVx : w.alloc (.cells #[.int .i64 sh, strV rl, .int .i64 sv, strV fm, .bool false, .int .i64 uy, .int .i64 um, .int .i64 ud, .int .i64 ua, .int .i64 uc] 67) = V := hV
    go_enter Tryz.func50, Tryz.ntmps50
    simp only [hN]
    go_wp2_with fail
    refine wp_region_held_drew (S := fun w' => EraH N ⟨sh, rl, sv, fm, false, uy, um, ud, ua, uc⟩ w' ∧ w'.cell? ⟨B, 0, none⟩ = some (.int .i64 at_)) (by kernel_rfl) EX.out (fun hHeld => ?_)
    refine wpAnyH_take (i := 0) (v := ?vz6z) rfl (by kernel_rfl) (by kernel_rfl) (by kernel_rfl) (fun _ _ _ h => h) (Or.inl ⟨by rfl, ?hyz6z⟩) (by assumption) ?_
    case hyz6z => (intro w hSw; (obtain ⟨⟨s0, s1, s2, s3, s4, s5, s6, s7, s8, s9⟩, sb⟩ := hSw); (try dsimp only at s0 s1 s2 s3 s4 s5 s6 s7 s8 s9); go_simp; try with_reducible rfl)
    try simp only [Act.put, List.setIfInBounds_toArray, List.set_cons_zero, List.set_cons_succ, List.getElem_toArray, List.getElem_cons_zero, List.getElem_cons_succ]
    refine wpAnyH_take (i := 1) (v := ?vz7z) rfl (by kernel_rfl) (by kernel_rfl) (by kernel_rfl) (fun _ _ _ h => h) (Or.inl ⟨by rfl, ?hyz7z⟩) (by assumption) ?_
    case hyz7z => (intro w hSw; (obtain ⟨⟨s0, s1, s2, s3, s4, s5, s6, s7, s8, s9⟩, sb⟩ := hSw); (try dsimp only at s0 s1 s2 s3 s4 s5 s6 s7 s8 s9); go_simp; try with_reducible rfl)
    try simp only [Act.put, List.setIfInBounds_toArray, List.set_cons_zero, List.set_cons_succ, List.getElem_toArray, List.getElem_cons_zero, List.getElem_cons_succ]
    refine wpAnyH_take (i := 2) (v := ?vz8z) rfl (by kernel_rfl) (by kernel_rfl) (by kernel_rfl) (fun _ _ _ h => h) (Or.inl ⟨by rfl, ?hyz8z⟩) (by assumption) ?_
    case hyz8z => (intro w hSw; (obtain ⟨⟨s0, s1, s2, s3, s4, s5, s6, s7, s8, s9⟩, sb⟩ := hSw); (try dsimp only at s0 s1 s2 s3 s4 s5 s6 s7 s8 s9); go_simp; try with_reducible rfl)
    try simp only [Act.put, List.setIfInBounds_toArray, List.set_cons_zero, List.set_cons_succ, List.getElem_toArray, List.getElem_cons_zero, List.getElem_cons_succ]
    refine wpAnyH_take (i := 3) (v := ?vz9z) rfl (by kernel_rfl) (by kernel_rfl) (by kernel_rfl) (fun _ _ _ h => h) (Or.inl ⟨by rfl, ?hyz9z⟩) (by assumption) ?_
    case hyz9z => (intro w hSw; (obtain ⟨⟨s0, s1, s2, s3, s4, s5, s6, s7, s8, s9⟩, sb⟩ := hSw); (try dsimp only at s0 s1 s2 s3 s4 s5 s6 s7 s8 s9); go_simp; try with_reducible rfl)
    try simp only [Act.put, List.setIfInBounds_toArray, List.set_cons_zero, List.set_cons_succ, List.getElem_toArray, List.getElem_cons_zero, List.getElem_cons_succ]
    refine wpAnyH_take (i := 5) (v := ?vz10z) rfl (by kernel_rfl) (by kernel_rfl) (by kernel_rfl) (fun _ _ _ h => h) (Or.inl ⟨by rfl, ?hyz10z⟩) (by assumption) ?_
    case hyz10z => (intro w hSw; (obtain ⟨⟨s0, s1, s2, s3, s4, s5, s6, s7, s8, s9⟩, sb⟩ := hSw); (try dsimp only at s0 s1 s2 s3 s4 s5 s6 s7 s8 s9); go_simp; try with_reducible rfl)
    try simp only [Act.put, List.setIfInBounds_toArray, List.set_cons_zero, List.set_cons_succ, List.getElem_toArray, List.getElem_cons_zero, List.getElem_cons_succ]
    refine wpAnyH_ready (rs := [4]) (by kernel_rfl) (by simp) ?_
    refine AllReadyH.cons rfl (fun K hK => ?_) AllReadyH.nil
    go_simp
    refine HC.out.mono ?_
    rintro e w7 ⟨rfl, hb7⟩
    have S7 : EraH N ⟨sh, rl, sv, fm, false, uy, um, ud, ua, uc⟩ w7 ∧ w7.cell? ⟨B, 0, none⟩ = some (.int .i64 at_) := ⟨eraH_below EX.out.1 (below_drew1 hb7) sx, ((below_drew1 hb7).cell (p := ⟨B, 0, none⟩) sB).trans EX.out.2⟩
    have B7 := hid (BV.out.trans ((below_drew1 hb7).mono (Nat.le_of_lt sx)))
    refine hK.out _ _ ?_ (fun hHeld => ?_)
    · exact S7
    clear hK K
    try simp only [Act.put, List.setIfInBounds_toArray, List.set_cons_zero, List.set_cons_succ, List.getElem_toArray, List.getElem_cons_zero, List.getElem_cons_succ]
    refine wpAnyH_take (i := 6) (v := ?vz11z) rfl (by kernel_rfl) (by kernel_rfl) (by kernel_rfl) (fun _ _ _ h => h) (Or.inl ⟨by rfl, ?hyz11z⟩) (by assumption) ?_
    case hyz11z => (intro w hSw; (obtain ⟨⟨s0, s1, s2, s3, s4, s5, s6, s7, s8, s9⟩, sb⟩ := hSw); (try dsimp only at s0 s1 s2 s3 s4 s5 s6 s7 s8 s9); go_simp; try with_reducible rfl)
    try simp only [Act.put, List.setIfInBounds_toArray, List.set_cons_zero, List.set_cons_succ, List.getElem_toArray, List.getElem_cons_zero, List.getElem_cons_succ]
    refine wpAnyH_take (i := 7) (v := ?vz12z) rfl (by kernel_rfl) (by kernel_rfl) (by kernel_rfl) (fun _ _ _ h => h) (Or.inl ⟨by rfl, ?hyz12z⟩) (by assumption) ?_
    case hyz12z => (intro w hSw; (obtain ⟨⟨s0, s1, s2, s3, s4, s5, s6, s7, s8, s9⟩, sb⟩ := hSw); (try dsimp only at s0 s1 s2 s3 s4 s5 s6 s7 s8 s9); go_simp; try with_reducible rfl)
    try simp only [Act.put, List.setIfInBounds_toArray, List.set_cons_zero, List.set_cons_succ, List.getElem_toArray, List.getElem_cons_zero, List.getElem_cons_succ]
    refine wpAnyH_take (i := 8) (v := ?vz13z) rfl (by kernel_rfl) (by kernel_rfl) (by kernel_rfl) (fun _ _ _ h => h) (Or.inl ⟨by rfl, ?hyz13z⟩) (by assumption) ?_
    case hyz13z => (intro w hSw; (obtain ⟨⟨s0, s1, s2, s3, s4, s5, s6, s7, s8, s9⟩, sb⟩ := hSw); (try dsimp only at s0 s1 s2 s3 s4 s5 s6 s7 s8 s9); go_simp; try with_reducible rfl)
    try simp only [Act.put, List.setIfInBounds_toArray, List.set_cons_zero, List.set_cons_succ, List.getElem_toArray, List.getElem_cons_zero, List.getElem_cons_succ]
    refine wpAnyH_done (by kernel_rfl) ?_ _
    go_wp2
    go_ret
    exact ⟨ret_bool (by rw [HEN.out]; rfl), B7.out⟩
end Go.Proofs.YtkhlkohlccndgaaGreat
namespace Go.Proofs.YtkhlkohlccndgaaGreat
open Go.RowKit Go.Shelf
set_option linter.unusedVariables false
set_option linter.unusedSimpArgs false
attribute [local go_sem] Oper.semAt_some

/- what Find answers, whatever world comes behind w -/
def FindAt (src : Value) (nm : Tx.Bs) (F : Int) (z : Sx.Zn) (w : World) : Prop :=
  ∀ W, Below w.heap.size w W → Calls Tryz.prog 16 #[src, strV nm] W fun e w' => ∃ v, e = .returned (.tuple #[.agg #[strV z.name, v], .int .i64 F]) ∧ OwnEras w' W.heap.size v z.eras ∧ Below W.heap.size W w'
theorem rdEras_own {w : World} {B : Nat} {v : Value} {l : List Sx.Er} (h : OwnEras w B v l) : RdEras w v l := own_rd eraCells_len h
theorem ownEras_cap {w : World} {B : Nat} {a : Option Addr} {n c : Nat} {l : List Sx.Er} (h : OwnEras w B (.slice a n c) l) : n ≤ c := by
  rcases h.2 with h' | h'
  · obtain ⟨e, _⟩ := h'; simp at e; omega
  · obtain ⟨b, cap, cur, e, _, _, q, _⟩ := h'; simp at e; omega
set_option maxRecDepth 100000 in
set_option maxHeartbeats 3000000 in
theorem ends_seq (nm : Tx.Bs) (z : Sx.Zn) (F : Int) (ra za la : Option Addr) (n1 n2 n3 rcap zcap lcap : Nat) (w : World) (hF : FindAt (.agg #[.slice ra n1 rcap, .slice za n2 zcap, .slice la n3 lcap]) nm F z w)
    (hz : F = 0 → z.eras.length ≤ 1000 ∧ ∀ e ∈ z.eras, e.opn = true ∨ EndOk e) :
    Calls Tryz.prog 17 #[.agg #[.slice ra n1 rcap, .slice za n2 zcap, .slice la n3 lcap], strV nm] w fun e w' => ∃ v, e = .returned (.tuple #[v, .int .i64 F]) ∧ OwnEnds w' w.heap.size v (if F = 0 then endsE z.eras else []) ∧ Below w.heap.size w w' := by
  have HZ := hid hz
  obtain ⟨V, hV⟩ : ∃ V, w.alloc (.cells #[.slice ra n1 rcap, .slice za n2 zcap, .slice la n3 lcap] 26) = V := ⟨_, rfl⟩
  have BV : Hid (Below w.heap.size w V) := by show Below _ _ _; rw [← hV]; exact (Below.refl _ w).alloc (Nat.le_refl _) _
  have XV : CellsAt V w.heap.size [.slice ra n1 rcap, .slice za n2 zcap, .slice la n3 lcap] := by rw [← hV]; exact ca_new w [.slice ra n1 rcap, .slice za n2 zcap, .slice la n3 lcap] 26
  have CF := hid (hF V BV.out)
  obtain ⟨s0, _⟩ := ca_at XV 0 rfl
  obtain ⟨s1, _⟩ := ca_at XV 1 rfl
  obtain ⟨s2, _⟩ := ca_at XV 2 rfl
  have sx := XV.1
  clear hF hz XV
  go_enter Tryz.func17, Tryz.ntmps17
  go_wp2_with fail
  refine CF.out.mono ?_
  rintro e w1 ⟨v, rfl, hO, hb⟩
  have R1 := hid (rdEras_own hO)
  obtain ⟨ca, cc, rfl⟩ := owns_shape0 hO
  have CAP := hid (ownEras_cap hO)
  have B1 : Hid (Below w.heap.size w w1) := BV.out.trans (hb.mono BV.out.size)
  clear hO hb CF s0 s1 s2 sx
  by_cases hq : F = 0
  case neg =>
    have hq2 : (F == 0) = false := by simp [hq]
    have E1 : Hid ((if F = 0 then endsE z.eras else []) = []) := by show _ = _; rw [if_neg hq]
    go_wp2
    refine bodyPost_ret (v := .tuple #[.slice none 0 0, .int .i64 F]) (by simp [results, Tryz.results17, go_sem]) rfl ⟨_, rfl, World.ownsRow_nil _ _ _ _, B1.out.alloc B1.out.size _⟩
  subst hq
  obtain ⟨hl, hok⟩ := HZ.out rfl
  have CE := hid (fun W hW => ends_any ⟨z, ca, cc⟩ W (rd_below R1.out hW) hl CAP.out hok)
  have E1 : Hid ((if (0 : Int) = 0 then endsE z.eras else []) = endsE z.eras) := by show _ = _; rw [if_pos rfl]
  clear HZ hl hok
  go_wp2_with fail
  refine (CE.out _ ((Below.refl w1.heap.size w1).alloc (Nat.le_refl _) _)).mono ?_
  rintro e w2 ⟨v2, rfl, hO2, hb2⟩
  have HO2 := hid hO2
  have B2 : Hid (Below w.heap.size w w2) := B1.out.trans ((((Below.refl w1.heap.size w1).alloc (Nat.le_refl _) _).trans (hb2.mono (by simp))).mono B1.out.size)
  have S2 := hid B1.out.size
  clear hO2 hb2 CE
  go_wp2
  refine bodyPost_ret (v := .tuple #[v2, .int .i64 0]) (by simp [results, Tryz.results17, go_sem]) rfl ⟨v2, rfl, owns_base HO2.out (by have := S2.out; simp; omega), B2.out⟩
end Go.Proofs.YtkhlkohlccndgaaGreat
namespace Go.Proofs.YtkhlkohlccndgaaGreat
open Go.RowKit
set_option linter.unusedVariables false
set_option linter.unusedSimpArgs false

set_option maxRecDepth 100000 in
set_option maxHeartbeats 1000000 in
theorem rPlain_any (s : ByteArray) (w : World) (hs : s.size ≤ maxLen) :
    Calls Tryz.prog 138 #[.string s] w fun e w' => e = .returned (.bool (Sx.plainB s.data.toList)) ∧ w' = w := by
  unfold maxLen at hs
  have HG : Hid (Sx.plainB s.data.toList = s.data.toList.all Sx.plainC) := rfl
  go_enter Tryz.func138, Tryz.ntmps138
  go_wp2_with fail
  go_loop [3] (fun a => ∃ k : Nat, k ≤ s.size ∧ a = .int .i64 k ∧ Hid ((s.data.toList.take k).all Sx.plainC = true)) (fun a => s.size - (intOf a).toNat)
  case atStart => exact ⟨0, by omega, rfl, by show _ = _; simp⟩
  case round =>
    obtain ⟨k, hk, rfl, HA⟩ := hrel
    by_cases hlt : k < s.size
    · obtain ⟨c, hc⟩ : ∃ c, s[k] = c := ⟨_, rfl⟩
      have HN : Hid (Sx.plainC c = (Sx.letB c || Sx.digB c || c == 43 || c == 45)) := rfl
      have HC := hid hc
      cases h1 : Sx.letB c
      case true =>
        have H1 := hid h1
        clear h1
        go_wp2_with (go_at_call 165; refine (rLetter_is _ _ H1.out).mono ?_; rintro e w1 ⟨rfl, rfl⟩)
        go_round
        case rel => exact ⟨k + 1, by omega, by go_num, all_snoc s _ k hlt HA.out (by rw [HC.out, HN.out, H1.out]; rfl)⟩
        case measure => simp [intOf]; omega
      case false =>
        have H1 := hid h1
        clear h1
        cases h2 : Sx.digB c
        case true =>
          have H2 := hid h2
          clear h2
          go_wp2_with (first | (go_at_call 165; refine (rLetter_is _ _ H1.out).mono ?_; rintro e w1 ⟨rfl, rfl⟩) | (go_at_call 166; refine (rDigit_is _ _ H2.out).mono ?_; rintro e w1 ⟨rfl, rfl⟩))
          go_round
          case rel => exact ⟨k + 1, by omega, by go_num, all_snoc s _ k hlt HA.out (by rw [HC.out, HN.out, H1.out, H2.out]; rfl)⟩
          case measure => simp [intOf]; omega
        case false =>
          have H2 := hid h2
          clear h2
          cases h3 : (c == 43)
          case true =>
            have e3 : ((c.toNat : Int) != 43) = false := ne_u8 h3
            have H3 := hid h3
            clear h3
            go_wp2_with (first | (go_at_call 165; refine (rLetter_is _ _ H1.out).mono ?_; rintro e w1 ⟨rfl, rfl⟩) | (go_at_call 166; refine (rDigit_is _ _ H2.out).mono ?_; rintro e w1 ⟨rfl, rfl⟩))
            go_round
            case rel => exact ⟨k + 1, by omega, by go_num, all_snoc s _ k hlt HA.out (by rw [HC.out, HN.out, H1.out, H2.out, H3.out]; rfl)⟩
            case measure => simp [intOf]; omega
          case false =>
            have e3 : ((c.toNat : Int) != 43) = true := ne_u8 h3
            have H3 := hid h3
            clear h3
            cases h4 : (c == 45)
            case true =>
              have e4 : ((c.toNat : Int) != 45) = false := ne_u8 h4
              have H4 := hid h4
              clear h4
              go_wp2_with (first | (go_at_call 165; refine (rLetter_is _ _ H1.out).mono ?_; rintro e w1 ⟨rfl, rfl⟩) | (go_at_call 166; refine (rDigit_is _ _ H2.out).mono ?_; rintro e w1 ⟨rfl, rfl⟩))
              go_round
              case rel => exact ⟨k + 1, by omega, by go_num, all_snoc s _ k hlt HA.out (by rw [HC.out, HN.out, H1.out, H2.out, H3.out, H4.out]; rfl)⟩
              case measure => simp [intOf]; omega
            case false =>
              have e4 : ((c.toNat : Int) != 45) = true := ne_u8 h4
              have H4 := hid h4
              clear h4
              go_wp2_with (first | (go_at_call 165; refine (rLetter_is _ _ H1.out).mono ?_; rintro e w1 ⟨rfl, rfl⟩) | (go_at_call 166; refine (rDigit_is _ _ H2.out).mono ?_; rintro e w1 ⟨rfl, rfl⟩))
              go_ret
              exact ⟨ret_bool (by rw [HG.out, all_no s _ k hlt (by rw [HC.out, HN.out, H1.out, H2.out, H3.out, H4.out]; rfl)]), rfl⟩
    · go_wp2
      go_ret
      exact ⟨ret_bool (by rw [HG.out, all_end s _ k (by omega) HA.out]), rfl⟩
theorem rPlain_is (s : ByteArray) (w : World) (hs : s.size ≤ maxLen) {b : Bool} (h : Sx.plainB s.data.toList = b) :
    Calls Tryz.prog 138 #[.string s] w fun e w' => e = .returned (.bool b) ∧ w' = w := by subst h; exact rPlain_any s w hs
end Go.Proofs.YtkhlkohlccndgaaGreat
namespace Go.Proofs.YtkhlkohlccndgaaGreat
open Go.RowKit
set_option linter.unusedVariables false
set_option linter.unusedSimpArgs false

set_option maxHeartbeats 400000 in
theorem least_any (w : World) : Calls Tryz.prog 23 #[] w fun e w' => e = .returned (.int .i64 (-62135596800)) ∧ Below w.heap.size w w' := by
  go_enter Tryz.func23, Tryz.ntmps23
  go_wp2_with fail
  refine (first_any _).mono ?_
  rintro e w1 ⟨rfl, hb⟩
  go_wp2
  go_ret
  exact ⟨rfl, hb⟩
set_option maxHeartbeats 400000 in
theorem most_any (w : World) : Calls Tryz.prog 24 #[] w fun e w' => e = .returned (.int .i64 253402300799) ∧ Below w.heap.size w w' := by
  go_enter Tryz.func24, Tryz.ntmps24
  go_wp2_with fail
  refine (last_any _).mono ?_
  rintro e w1 ⟨rfl, hb⟩
  go_wp2
  go_ret
  exact ⟨rfl, hb⟩
theorem strV_isEmpty (l : Tx.Bs) : (⟨l.toArray⟩ : ByteArray).size = l.length := by simp [ByteArray.size]

set_option maxRecDepth 100000 in
set_option maxHeartbeats 2000000 in
theorem checkLocal_any (l : Tb.Lc) (w : World) (hl : l.name.length ≤ maxLen) :
    Calls Tryz.prog 76 #[lcV l] w fun e w' => e = .returned (.int .i64 (Tb.localE l)) ∧ Below w.heap.size w w' := by
  obtain ⟨shift, save, name⟩ := l
  obtain ⟨E, hE⟩ : ∃ E, Tb.localE ⟨shift, save, name⟩ = E := ⟨_, rfl⟩
  rw [hE]
  have HE : Hid (E = if (Sx.inB shift (-75600) 75600 && Sx.inB save 0 10800) = false then 3 else if (!name.isEmpty && decide (name.length ≤ 24) && Sx.plainB name) = false then 1 else 0) := by show _ = _; rw [← hE]; rfl
  have hb : Below w.heap.size w (w.alloc (.cells #[.int .i64 shift, .int .i64 save, strV name] 31)) := (Below.refl _ _).alloc (Nat.le_refl _) _
  have HB := hid hb
  clear hE hb
  have hn : (⟨name.toArray⟩ : ByteArray).size ≤ maxLen := by simpa [ByteArray.size] using hl
  have HN := hid hn
  clear hn hl
  have G1 : ∀ b, decide ((-75600 : Int) ≤ shift ∧ shift ≤ 75600) = b → Sx.inB shift (-75600) 75600 = b := fun b h => h
  have G2 : ∀ b, decide ((0 : Int) ≤ save ∧ save ≤ 10800) = b → Sx.inB save 0 10800 = b := fun b h => h
  have HG1 := hid G1
  have HG2 := hid G2
  clear G1 G2
  by_cases h1 : (-75600 : Int) ≤ shift ∧ shift ≤ 75600
  case neg =>
    go_enter Tryz.func76, Tryz.ntmps76
    go_wp2_with (go_at_call 77; refine (between_any _ _ _ _).mono ?_; rintro e w1 ⟨rfl, rfl⟩; simp only [h1])
    go_ret
    exact ⟨ret_int (by rw [HE.out, HG1.out false (by simp [h1])]; rfl), HB.out⟩
  by_cases h2 : (0 : Int) ≤ save ∧ save ≤ 10800
  case neg =>
    go_enter Tryz.func76, Tryz.ntmps76
    go_wp2_with (go_at_call 77; refine (between_any _ _ _ _).mono ?_; rintro e w1 ⟨rfl, rfl⟩; simp only [h1, h2])
    go_ret
    exact ⟨ret_int (by rw [HE.out, HG1.out true (by simp [h1]), HG2.out false (by simp [h2])]; rfl), HB.out⟩
  have HE2 : Hid (E = if (!name.isEmpty && decide (name.length ≤ 24) && Sx.plainB name) = false then 1 else 0) := by show _ = _; rw [HE.out, HG1.out true (by simp [h1]), HG2.out true (by simp [h2])]; rfl
  clear HE HG1 HG2
  cases h3 : name.isEmpty
  case true =>
    have H3 : Hid (E = 1) := by show _ = _; rw [HE2.out, h3]; rfl
    go_enter Tryz.func76, Tryz.ntmps76
    go_wp2_with (go_at_call 77; refine (between_any _ _ _ _).mono ?_; rintro e w1 ⟨rfl, rfl⟩; simp only [h1, h2])
    go_ret
    exact ⟨ret_int (by rw [H3.out]), HB.out⟩
  case false =>
    by_cases h4 : 24 < name.length
    · have H3 : Hid (E = 1) := by show _ = _; rw [HE2.out, h3]; simp; omega
      have h4' : 24 < (⟨name.toArray⟩ : ByteArray).size := by simpa [ByteArray.size] using h4
      go_enter Tryz.func76, Tryz.ntmps76
      go_wp2_with (go_at_call 77; refine (between_any _ _ _ _).mono ?_; rintro e w1 ⟨rfl, rfl⟩; simp only [h1, h2])
      go_ret
      exact ⟨ret_int (by rw [H3.out]), HB.out⟩
    · have h4' : ¬ 24 < (⟨name.toArray⟩ : ByteArray).size := by simpa [ByteArray.size] using h4
      have HE3 : Hid (E = if Sx.plainB name = false then 1 else 0) := by show _ = _; rw [HE2.out, h3]; simp [show name.length ≤ 24 by omega]
      clear HE2
      obtain ⟨b, h5⟩ : ∃ b, Sx.plainB name = b := ⟨_, rfl⟩
      have H5 : Hid (Sx.plainB (⟨name.toArray⟩ : ByteArray).data.toList = b) := by show _ = _; rw [← h5]
      have HE4 : Hid (E = if b = false then 1 else 0) := by show _ = _; rw [HE3.out, h5]
      clear h5 HE3
      go_enter Tryz.func76, Tryz.ntmps76
      cases b
      all_goals
        go_wp2_with (first | (go_at_call 77; refine (between_any _ _ _ _).mono ?_; rintro e w1 ⟨rfl, rfl⟩; simp only [h1, h2]) | (go_at_call 138; refine (rPlain_is _ _ HN.out H5.out).mono ?_; rintro e w1 ⟨rfl, rfl⟩))
        go_ret
        exact ⟨ret_int (by rw [HE4.out]; rfl), HB.out⟩
end Go.Proofs.YtkhlkohlccndgaaGreat

namespace Go.Proofs.YtkhlkohlccndgaaGreat
open Go.RowKit
set_option linter.unusedVariables false
set_option linter.unusedSimpArgs false

def nameB (l : Tx.Bs) : Bool := !l.isEmpty && decide (l.length ≤ 24) && Sx.plainB l
set_option maxHeartbeats 1000000 in
theorem nameOfTime_is (l : Tx.Bs) (w : World) (hs : l.length ≤ maxLen) {b : Bool} (h : nameB l = b) :
    Calls Tryz.prog 134 #[strV l] w fun e w' => e = .returned (.bool b) ∧ w' = w := by
  have hn : (⟨l.toArray⟩ : ByteArray).size ≤ maxLen := by simpa [ByteArray.size] using hs
  have HS : Hid (∀ r, (decide (l.length ≤ 24) && Sx.plainB l) = r → Calls Tryz.prog 178 #[strV l] w fun e w' => e = .returned (.bool r) ∧ w' = w) := fun r hr => pPlain_is ⟨l.toArray⟩ w hn (by simpa [ByteArray.size] using hr)
  clear hn hs
  cases h1 : l.isEmpty
  case true =>
    have HB : Hid (b = false) := by show _ = _; rw [← h, nameB, h1]; rfl
    clear h
    go_enter Tryz.func134, Tryz.ntmps134
    go_wp2_with fail
    go_ret
    exact ⟨ret_bool (by rw [HB.out]), rfl⟩
  case false =>
    have HB : Hid ((decide (l.length ≤ 24) && Sx.plainB l) = b) := by show _ = _; rw [← h, nameB, h1]; simp
    clear h
    have HC := hid (HS.out b HB.out)
    clear HS HB
    go_enter Tryz.func134, Tryz.ntmps134
    go_wp2_with (go_at_call 178; refine HC.out.mono ?_; rintro e w1 ⟨rfl, rfl⟩)
    go_ret
    exact ⟨ret_bool rfl, rfl⟩
theorem localE_eq (l : Tb.Lc) : Tb.localE l = if (Sx.inB l.shift (-75600) 75600 && Sx.inB l.save 0 10800) = false then 3 else if nameB l.name = false then 1 else 0 := rfl
set_option maxRecDepth 100000 in
set_option maxHeartbeats 2000000 in
theorem pCheckLocal_any (l : Tb.Lc) (w : World) (hl : l.name.length ≤ maxLen) :
    Calls Tryz.prog 73 #[lcV l] w fun e w' => e = .returned (.int .i64 (Tb.localE l)) ∧ Below w.heap.size w w' := by
  obtain ⟨shift, save, name⟩ := l
  obtain ⟨E, hE⟩ : ∃ E, Tb.localE ⟨shift, save, name⟩ = E := ⟨_, rfl⟩
  rw [hE]
  have HE : Hid (E = if (Sx.inB shift (-75600) 75600 && Sx.inB save 0 10800) = false then 3 else if nameB name = false then 1 else 0) := by show _ = _; rw [← hE]; rfl
  have hb : Below w.heap.size w (w.alloc (.cells #[.int .i64 shift, .int .i64 save, strV name] 31)) := (Below.refl _ _).alloc (Nat.le_refl _) _
  have HB := hid hb
  have HL := hid hl
  clear hE hb hl
  have h5 : shift < -75600 ∨ (-75600 ≤ shift ∧ 75600 < shift) ∨ (-75600 ≤ shift ∧ shift ≤ 75600 ∧ save < 0) ∨ (-75600 ≤ shift ∧ shift ≤ 75600 ∧ 0 ≤ save ∧ 10800 < save) ∨ (-75600 ≤ shift ∧ shift ≤ 75600 ∧ 0 ≤ save ∧ save ≤ 10800) := by omega
  have HX : Hid ((¬ ((-75600 : Int) ≤ shift ∧ shift ≤ 75600 ∧ 0 ≤ save ∧ save ≤ 10800)) → E = 3) := by
    intro q
    rw [HE.out, if_pos]
    by_cases q1 : (-75600 : Int) ≤ shift ∧ shift ≤ 75600
    · have q2 : ¬ (0 ≤ save ∧ save ≤ 10800) := by omega
      simp [Sx.inB, q2]
    · simp [Sx.inB, q1]
  rcases h5 with h1 | ⟨h1, h2⟩ | ⟨h1, h2, h3⟩ | ⟨h1, h2, h3, h4⟩ | ⟨h1, h2, h3, h4⟩
  case inr.inr.inr.inr =>
    obtain ⟨b, h5⟩ : ∃ b, nameB name = b := ⟨_, rfl⟩
    have HY : Hid (E = if b = false then 1 else 0) := by show _ = _; rw [HE.out, if_neg (by simp [Sx.inB, h1, h2, h3, h4]), h5]
    have H5 := hid h5
    clear HE HX h5
    cases b
    all_goals
      go_enter Tryz.func73, Tryz.ntmps73
      go_wp2_with (go_at_call 134; refine (nameOfTime_is _ _ HL.out H5.out).mono ?_; rintro e w1 ⟨rfl, rfl⟩)
      go_ret
      exact ⟨ret_int (by rw [HY.out]; rfl), HB.out⟩
  all_goals
    have H3 : Hid (E = 3) := HX.out (by omega)
    clear HE HX
    go_enter Tryz.func73, Tryz.ntmps73
    go_wp2_with fail
    go_ret
    exact ⟨ret_int (by rw [H3.out]), HB.out⟩
set_option maxHeartbeats 400000 in
theorem pInYears_is (n : Int) (w : World) {b : Bool} (h : Tb.inYears n = b) :
    Calls Tryz.prog 47 #[.int .i64 n] w fun e w' => e = .returned (.bool b) ∧ w' = w := by
  have H : Hid (b = decide ((-62135596800 : Int) ≤ n ∧ n ≤ 253402300799)) := h.symm
  clear h
  have h5 : n < -62135596800 ∨ (-62135596800 ≤ n ∧ n ≤ 253402300799) ∨ (-62135596800 ≤ n ∧ 253402300799 < n) := by omega
  rcases h5 with h1 | ⟨h1, h2⟩ | ⟨h1, h2⟩
  all_goals
    go_enter Tryz.func47, Tryz.ntmps47
    go_wp2
    go_ret
    exact ⟨ret_bool (by rw [H.out, Bool.eq_iff_iff]; simp only [Bool.or_eq_true, Bool.and_eq_true, decide_eq_true_eq, Bool.false_eq_true, iff_false, false_iff, iff_true, true_iff]; omega), rfl⟩
end Go.Proofs.YtkhlkohlccndgaaGreat
namespace Go.Proofs.YtkhlkohlccndgaaGreat
open Go.RowKit Go.Shelf
set_option linter.unusedVariables false
set_option linter.unusedSimpArgs false
attribute [local go_sem] Oper.semAt_some
attribute [local go_sem ↓] Go.wp_at_zero Go.wp_at_succ

/- the era at a time, and what stands there -/
def eraAt (z : Sx.Zn) (at_ : Int) : Sx.Er := (z.eras.find? fun x => x.opn || decide (at_ < endAt x)).getD zeroE
def localE (rs : List Sx.Rl) (z : Sx.Zn) (at_ : Int) : Tb.Lc := ⟨(eraAt z at_).shift + (savedT rs (eraAt z at_) at_).save, (savedT rs (eraAt z at_) at_).save, nameE (eraAt z at_).format (savedT rs (eraAt z at_) at_).save (savedT rs (eraAt z at_) at_).letter⟩
def atE (F at_ : Int) : Int := if F ≠ 0 then F else if Tb.inYears at_ = true then 0 else 3
def atL (F at_ : Int) (rs : List Sx.Rl) (z : Sx.Zn) : Tb.Lc := if atE F at_ = 0 then localE rs z at_ else lc0
/- what At leans on in a zone that is found -/
structure AtOk (rs : List Sx.Rl) (z : Sx.Zn) (at_ : Int) : Prop where
  few : z.eras.length ≤ 10000
  ok : ∀ e ∈ z.eras, e.opn = true ∨ EndOk e
  times : (Sx.times rs (eraAt z at_).rules (eraAt z at_).shift).length ≤ 10000
  fmt : (eraAt z at_).format.length ≤ 1000000
  let_ : (savedT rs (eraAt z at_) at_).letter.length ≤ 1000000
  sh : -1000000000000 ≤ (eraAt z at_).shift ∧ (eraAt z at_).shift ≤ 1000000000000
  sv : -1000000000000 ≤ (savedT rs (eraAt z at_) at_).save ∧ (savedT rs (eraAt z at_) at_).save ≤ 1000000000000
theorem at_keep {M N k : Nat} {y : Sx.Er} {r a v : Value} {W : World} (h : EraH M y W ∧ W.cell? ⟨N, 0, none⟩ = some r ∧ W.cell? ⟨N + 1, 0, none⟩ = some a) (hn : ¬ M = N + 1 + 1) :
    EraH M y (W.setCell ⟨N + 1 + 1, k, none⟩ v) ∧ (W.setCell ⟨N + 1 + 1, k, none⟩ v).cell? ⟨N, 0, none⟩ = some r ∧ (W.setCell ⟨N + 1 + 1, k, none⟩ v).cell? ⟨N + 1, 0, none⟩ = some a := by
  have e : ∀ b j, ¬ b = N + 1 + 1 → (W.setCell ⟨N + 1 + 1, k, none⟩ v).cell? ⟨b, j, none⟩ = W.cell? ⟨b, j, none⟩ := fun b j hb => World.cell?_of_block (Below.heap_setCell _ _ _ _ hb)
  obtain ⟨⟨b0, b1, b2, b3, b4, b5, b6, b7, b8, b9⟩, hr, ha⟩ := h
  exact ⟨⟨(e M 0 hn).trans b0, (e M 1 hn).trans b1, (e M 2 hn).trans b2, (e M 3 hn).trans b3, (e M 4 hn).trans b4, (e M 5 hn).trans b5, (e M 6 hn).trans b6, (e M 7 hn).trans b7, (e M 8 hn).trans b8, (e M 9 hn).trans b9⟩, (e N 0 (by omega)).trans hr, (e (N + 1) 0 (by omega)).trans ha⟩
set_option maxRecDepth 100000 in
set_option maxHeartbeats 1000000 in
theorem at_seq (nm : Tx.Bs) (at_ m : Int) (rs : List Sx.Rl) (z : Sx.Zn) (F : Int) (ra za la : Option Addr) (n2 n3 rcap zcap lcap : Nat) (w : World) (h1 : RdRules w (.slice ra rs.length rcap) rs) (hs : ∀ r ∈ rs, r.name.length ≤ maxLen ∧ r.letter.length ≤ maxLen)
    (hm : w.cell? ⟨0, 0, none⟩ = some (.int .i64 m)) (h0 : 0 < w.heap.size) (hF : FindAt (.agg #[.slice ra rs.length rcap, .slice za n2 zcap, .slice la n3 lcap]) nm F z w) (hz : F = 0 → Tb.inYears at_ = true → AtOk rs z at_) :
    Calls Tryz.prog 15 #[.agg #[.slice ra rs.length rcap, .slice za n2 zcap, .slice la n3 lcap], strV nm, .int .i64 at_] w fun e w' => e = .returned (.tuple #[lcV (atL F at_ rs z), .int .i64 (atE F at_)]) ∧ Below w.heap.size w w' := by
  have HZ := hid hz
  have H1 := hid h1
  have HS := hid hs
  have HM := hid hm
  have H0 := hid h0
  obtain ⟨N, hN⟩ : ∃ N, w.heap.size = N := ⟨_, rfl⟩
  obtain ⟨V, hV⟩ : ∃ V, ((w.alloc (.cells #[.slice ra rs.length rcap, .slice za n2 zcap, .slice la n3 lcap] 26)).alloc (.cells #[.int .i64 at_] 3)).alloc (.cells #[.int .i64 0, .int .i64 0, .string ⟨#[]⟩] 31) = V := ⟨_, rfl⟩
  have XS := ca_alloc (ca_alloc (ca_new w [.slice ra rs.length rcap, .slice za n2 zcap, .slice la n3 lcap] 26) (.cells #[.int .i64 at_] 3)) (.cells #[.int .i64 0, .int .i64 0, .string ⟨#[]⟩] 31)
  have XT := ca_alloc (ca_new (w.alloc (.cells #[.slice ra rs.length rcap, .slice za n2 zcap, .slice la n3 lcap] 26)) [.int .i64 at_] 3) (.cells #[.int .i64 0, .int .i64 0, .string ⟨#[]⟩] 31)
  have XL := ca_new ((w.alloc (.cells #[.slice ra rs.length rcap, .slice za n2 zcap, .slice la n3 lcap] 26)).alloc (.cells #[.int .i64 at_] 3)) [.int .i64 0, .int .i64 0, .string ⟨#[]⟩] 31
  have e1 : ((w.alloc (.cells [.slice ra rs.length rcap, .slice za n2 zcap, .slice la n3 lcap].toArray 26)).alloc (.cells #[.int .i64 at_] 3)).alloc (.cells #[.int .i64 0, .int .i64 0, .string ⟨#[]⟩] 31) = V := hV
  have e2 : ((w.alloc (.cells #[.slice ra rs.length rcap, .slice za n2 zcap, .slice la n3 lcap] 26)).alloc (.cells [.int .i64 at_].toArray 3)).alloc (.cells #[.int .i64 0, .int .i64 0, .string ⟨#[]⟩] 31) = V := hV
  have e3 : ((w.alloc (.cells #[.slice ra rs.length rcap, .slice za n2 zcap, .slice la n3 lcap] 26)).alloc (.cells #[.int .i64 at_] 3)).alloc (.cells [.int .i64 0, .int .i64 0, .string ⟨#[]⟩].toArray 31) = V := hV
  rw [e1, hN] at XS
  rw [e2] at XT
  rw [e3] at XL
  simp only [World.size_alloc, hN] at XT XL
  have BV : Hid (Below N w V) := by show Below _ _ _; rw [← hV]; exact (((Below.refl N w).alloc (by omega) _).alloc (by simp; omega) _).alloc (by simp; omega) _
  have sV := XL.1
  obtain ⟨s0, _⟩ := ca_at XS 0 rfl
  obtain ⟨s1, _⟩ := ca_at XS 1 rfl
  obtain ⟨s2, _⟩ := ca_at XS 2 rfl
  have HXS := hid XS
  have HXT := hid XT
  have HXL := hid XL
  have HNN := hid hN
  have CF := hid (hF V (by rw [hN]; exact BV.out))
  clear XS XT XL e1 e2 e3 h1 hs hm h0 hF hz
  go_enter Tryz.func15, Tryz.ntmps15
  simp only [hN]
  go_wp2_with fail
  refine CF.out.mono ?_
  rintro e w1 ⟨v, rfl, hO, hb⟩
  have R1 := hid (rdEras_own hO)
  obtain ⟨ca, cc, rfl⟩ := owns_shape0 hO
  have CAP := hid (ownEras_cap hO)
  have B1 : Hid (Below N w w1) := BV.out.trans (hb.mono (by omega))
  have S1 := hid (ca_below HXS.out hb)
  have T1 := hid (ca_below HXT.out hb)
  have L1 := hid (ca_below HXL.out hb)
  have h1 := hid (show N ≤ N + 1 + 1 by omega)
  clear hO hb CF s0 s1 s2 sV BV HXS HXT HXL
  obtain ⟨M0, hM0⟩ : ∃ M0, w1.heap.size = M0 := ⟨_, rfl⟩
  obtain ⟨V1, hV1⟩ : ∃ V1, w1.alloc (.cells #[.string ⟨z.name.toArray⟩, .slice ca z.eras.length cc] 44) = V1 := ⟨_, rfl⟩
  have Y1 : Hid (CellsAt V1 M0 [strV z.name, .slice ca z.eras.length cc]) := by show CellsAt _ _ _; rw [← hV1, ← hM0]; exact ca_new w1 [strV z.name, .slice ca z.eras.length cc] 44
  have BV1 : Hid (Below w1.heap.size w1 V1) := by show Below _ _ _; rw [← hV1]; exact (Below.refl w1.heap.size w1).alloc (Nat.le_refl _) _
  have HM0 := hid hM0
  have LV := hid (ca_below L1.out BV1.out)
  have TV := hid (ca_below T1.out BV1.out)
  have SV1 := hid (ca_below S1.out BV1.out)
  have BN : Hid (Below N w V1) := B1.out.trans (BV1.out.mono (by have := B1.out.size; rw [HNN.out] at this; exact this))
  obtain ⟨l0, g0⟩ := ca_at LV.out 0 rfl
  obtain ⟨l1, g1⟩ := ca_at LV.out 1 rfl
  obtain ⟨l2, g2⟩ := ca_at LV.out 2 rfl
  have sL := LV.out.1
  by_cases hq : F = 0
  case neg =>
    have hq2 : (F == 0) = false := by simp [hq]
    have E1 : Hid (atE F at_ = F) := by show _ = _; unfold atE; rw [if_pos hq]
    have E2 : Hid (atL F at_ rs z = lc0) := by show _ = _; unfold atL; rw [E1.out, if_neg hq]
    have HQ := hid hq
    have h2 := hid (below_put (below_put (below_put BN.out h1.out 0 (.int .i64 0)) h1.out 1 (.int .i64 0)) h1.out 2 (.string ⟨#[]⟩))
    go_wp2
    refine bodyPost_ret (v := .tuple #[lcV lc0, .int .i64 F]) (by simp [results, Tryz.results15, go_sem, lc0, *]) rfl ⟨by rw [E1.out, E2.out], h2.out⟩
  subst hq
  obtain ⟨q, hq⟩ : ∃ q, Tb.inYears at_ = q := ⟨_, rfl⟩
  have HQ := hid hq
  cases q
  case false =>
    have E1 : Hid (atE 0 at_ = 3) := by show _ = _; unfold atE; rw [hq]; rfl
    have E2 : Hid (atL 0 at_ rs z = lc0) := by show _ = _; unfold atL; rw [E1.out]; rfl
    clear hq
    have CY := hid (pInYears_is at_ V1 HQ.out)
    obtain ⟨t0, _⟩ := ca_at TV.out 0 rfl
    have sT := TV.out.1
    have h2 := hid (below_put (below_put (below_put BN.out h1.out 0 (.int .i64 0)) h1.out 1 (.int .i64 0)) h1.out 2 (.string ⟨#[]⟩))
    go_wp2_with fail
    refine CY.out.mono ?_
    rintro e w2 ⟨rfl, rfl⟩
    clear CY
    go_wp2
    refine bodyPost_ret (v := .tuple #[lcV lc0, .int .i64 3]) (by simp [results, Tryz.results15, go_sem, lc0, *]) rfl ⟨by rw [E1.out, E2.out], h2.out⟩
  have AO := hid (HZ.out rfl hq)
  have E1 : Hid (atE 0 at_ = 0) := by show _ = _; unfold atE; rw [hq]; rfl
  have E2 : Hid (atL 0 at_ rs z = localE rs z at_) := by show _ = _; unfold atL; rw [E1.out]; rfl
  have CY := hid (pInYears_is at_ V1 HQ.out)
  clear HZ hq
  obtain ⟨t0, _⟩ := ca_at TV.out 0 rfl
  have sT := TV.out.1
  obtain ⟨z0, _⟩ := ca_at Y1.out 0 rfl
  obtain ⟨z1, _⟩ := ca_at Y1.out 1 rfl
  have sZ := Y1.out.1
  go_wp2_with fail
  refine CY.out.mono ?_
  rintro e w2 ⟨rfl, rfl⟩
  clear CY
  obtain ⟨K0, hK0⟩ : ∃ K0, w2.heap.size = K0 := ⟨_, rfl⟩
  obtain ⟨U2, hU2⟩ : ∃ U2, (w2.alloc (.cells #[strV z.name, .slice ca z.eras.length cc] 44)).alloc (.cells #[.slice (some ⟨K0, 0, none⟩) 1 1] 23) = U2 := ⟨_, rfl⟩
  have uS : U2.heap.size = K0 + 2 := by rw [← hU2]; simp [hK0]
  have CAz := ca_alloc (ca_new w2 [strV z.name, .slice ca z.eras.length cc] 44) (.cells #[.slice (some ⟨K0, 0, none⟩) 1 1] 23)
  have CAs := ca_new (w2.alloc (.cells #[strV z.name, .slice ca z.eras.length cc] 44)) [.slice (some ⟨K0, 0, none⟩) 1 1] 23
  have eu1 : (w2.alloc (.cells [strV z.name, .slice ca z.eras.length cc].toArray 44)).alloc (.cells #[.slice (some ⟨K0, 0, none⟩) 1 1] 23) = U2 := hU2
  have eu2 : (w2.alloc (.cells #[strV z.name, .slice ca z.eras.length cc] 44)).alloc (.cells [.slice (some ⟨K0, 0, none⟩) 1 1].toArray 23) = U2 := hU2
  rw [eu1, hK0] at CAz
  rw [eu2] at CAs
  simp only [World.size_alloc, hK0] at CAs
  have BU : Hid (Below w2.heap.size w2 U2) := by show Below _ _ _; rw [← hU2]; exact ((Below.refl _ w2).alloc (Nat.le_refl _) _).alloc (by simp) _
  have RZ : RdZv U2 (.slice (some ⟨K0, 0, none⟩) [(⟨z, ca, cc⟩ : ZV)].length 1) [z] [⟨z, ca, cc⟩] := by
    refine ⟨rfl, ⟨some ⟨K0, 0, none⟩, 1, rfl, fun _ => ⟨K0, 0, rfl, CAz.1, ?_⟩⟩, ?_, ?_⟩
    · intro i y hy k u hu
      match i, hy with
      | 0, hy =>
        simp at hy; subst hy
        have := (ca_at CAz k hu).1
        simpa using this
    · intro p hp
      simp at hp; subst hp
      exact rd_below R1.out (BV1.out.trans (BU.out.mono BV1.out.size))
    · intro p hp
      simp at hp; subst hp
      exact CAP.out
  have eA : ∀ args w, (callFunc 50 args).run Tryz.prog w = .ok (.enter 50 args) w := enters_of Tryz.func50 (by kernel_rfl) rfl
  have eE : ∀ args w, (callFunc 110 args).run Tryz.prog w = .ok (.enter 110 args) w := enters_of Tryz.func110 (by kernel_rfl) rfl
  have TU := ca_below TV.out BU.out
  have CE := hid (firstE_any 110 50 #[.pointer (some ⟨K0 + 1, 0, none⟩)] #[.pointer (some ⟨N + 1, 0, none⟩)] (fun x => x.opn || decide (at_ < endAt x)) (erasOf [⟨z, ca, cc⟩]) U2 eE eA
    (fun w1 hw1 => eras_seq 3 (K0 + 1) (by omega) [⟨z, ca, cc⟩] [z] (some ⟨K0, 0, none⟩) 1 U2 w1 RZ (by simp) (fun p hp => by simp at hp; subst hp; exact AO.out.few) ((hw1.cell (p := ⟨K0 + 1, 0, none⟩) CAs.1).trans (ca_at CAs 0 rfl).1) (Nat.lt_of_lt_of_le CAs.1 hw1.size) hw1)
    (fun x hx W' hW' => at1_any x (N + 1) at_ W' (Nat.lt_of_lt_of_le TU.1 hW'.size) ((hW'.cell (p := ⟨N + 1, 0, none⟩) TU.1).trans (ca_at TU 0 rfl).1) (AO.out.ok x (by simpa [erasOf] using hx))))
  have hU3 : (w2.alloc (.cells #[.string ⟨z.name.toArray⟩, .slice ca z.eras.length cc] 44)).alloc (.cells #[.slice (some ⟨K0, 0, none⟩) 1 1] 23) = U2 := hU2
  have HK0 := hid hK0
  clear eA eE RZ CAz CAs eu1 eu2 TU
  go_wp2_with fail
  refine (eras_any _ _ _ _).mono ?_
  rintro e w3 ⟨rfl, rfl⟩
  go_wp2_with fail
  refine CE.out.mono ?_
  rintro e w4 ⟨rfl, hb⟩
  have HB4 : Hid (Below w2.heap.size w2 w4) := BU.out.trans (hb.mono BU.out.size)
  have ey : eraAt z at_ = ((erasOf [⟨z, ca, cc⟩]).find? fun x => x.opn || decide (at_ < endAt x)).getD zeroE := by simp [eraAt, erasOf]
  rw [← ey]
  obtain ⟨A, hA⟩ : ∃ A, ((erasOf [⟨z, ca, cc⟩]).any fun x => x.opn || decide (at_ < endAt x)) = A := ⟨_, rfl⟩
  rw [hA]
  obtain ⟨y, hy⟩ : ∃ y, eraAt z at_ = y := ⟨_, rfl⟩
  obtain ⟨T, hT⟩ : ∃ T, savedT rs y at_ = T := ⟨_, rfl⟩
  obtain ⟨a1, a2, a3, a4, a5, a6, a7⟩ := AO.out
  have EL : Hid (localE rs z at_ = ⟨y.shift + T.save, T.save, nameE y.format T.save T.letter⟩) := by show _ = _; unfold localE; rw [hy, hT]
  rw [hy] at a3 a4 a5 a6 a7 ⊢
  rw [hT] at a5 a7
  obtain ⟨M, hM⟩ : ∃ M, w4.heap.size = M := ⟨_, rfl⟩
  obtain ⟨V3, hV3⟩ : ∃ V3, w4.alloc (.cells (eraCells y).toArray 67) = V3 := ⟨_, rfl⟩
  have XE := ca_new w4 (eraCells y) 67
  rw [hV3, hM] at XE
  have B34 : Below w4.heap.size w4 V3 := by rw [← hV3]; exact (Below.refl w4.heap.size w4).alloc (Nat.le_refl _) _
  have B3 : Hid (Below w2.heap.size w2 V3) := HB4.out.trans (B34.mono HB4.out.size)
  have BN3 : Hid (Below N w V3) := BN.out.trans (B3.out.mono (by have := SV1.out.1; omega))
  have S3 := ca_below SV1.out B3.out
  have T3 := ca_below TV.out B3.out
  have HL3 := hid (ca_below LV.out B3.out)
  have sl3 := HL3.out.1
  have sm3 := XE.1
  have sM : w2.heap.size ≤ M := by have := HB4.out.size; omega
  have sL2 := LV.out.1
  have SX := hid (show EraH M y V3 ∧ V3.cell? ⟨N, 0, none⟩ = some (.slice ra rs.length rcap) ∧ V3.cell? ⟨N + 1, 0, none⟩ = some (.int .i64 at_) from ⟨eraH_of XE, (ca_at S3 0 rfl).1, (ca_at T3 0 rfl).1⟩)
  have KS : Hid (∀ w7, Below V3.heap.size V3 w7 → EraH M y w7 ∧ w7.cell? ⟨N, 0, none⟩ = some (.slice ra rs.length rcap) ∧ w7.cell? ⟨N + 1, 0, none⟩ = some (.int .i64 at_)) := fun w7 hb => ⟨eraH_below SX.out.1 hb sm3, (hb.cell (p := ⟨N, 0, none⟩) (by show N < V3.heap.size; omega)).trans SX.out.2.1, (hb.cell (p := ⟨N + 1, 0, none⟩) (by show N + 1 < V3.heap.size; omega)).trans SX.out.2.2⟩
  have KP : Hid (∀ w8, (EraH M y w8 ∧ w8.cell? ⟨N, 0, none⟩ = some (.slice ra rs.length rcap) ∧ w8.cell? ⟨N + 1, 0, none⟩ = some (.int .i64 at_)) → ∀ v0 v1 v2, (fun w' => EraH M y w' ∧ w'.cell? ⟨N, 0, none⟩ = some (.slice ra rs.length rcap) ∧ w'.cell? ⟨N + 1, 0, none⟩ = some (.int .i64 at_)) (((w8.setCell ⟨N + 1 + 1, 0, none⟩ v0).setCell ⟨N + 1 + 1, 1, none⟩ v1).setCell ⟨N + 1 + 1, 2, none⟩ v2)) := by
    intro w8 h8 v0 v1 v2
    have nM : ¬ M = N + 1 + 1 := by omega
    exact at_keep (at_keep (at_keep h8 nM) nM) nM
  have CS0 := savedAt_any rs (.slice ra rs.length rcap) y at_ V3.drew (rd_below H1.out (by rw [HNN.out]; exact ⟨BN3.out.os, BN3.out.tape, BN3.out.output, BN3.out.size, BN3.out.block⟩)) HS.out a3
  rw [hT] at CS0
  have CS := hid CS0
  have CL := hid (fun (w7 : World) (hb : Below V3.heap.size V3 w7) => local_any y T m w7 a4 a5 ((hb.cell (p := ⟨0, 0, none⟩) (by show 0 < V3.heap.size; omega)).trans ((BN3.out.cell (p := ⟨0, 0, none⟩) (by show 0 < N; have := H0.out; omega)).trans HM.out)) (Nat.lt_of_lt_of_le (by omega) hb.size) a6 a7)
  have hV3x : w4.alloc (.cells #[.int .i64 y.shift, strV y.rules, .int .i64 y.save, strV y.format, .bool y.opn, .int .i64 y.uy, .int .i64 y.um, .int .i64 y.ud, .int .i64 y.uat, .int .i64 y.uclock] 67) = V3 := hV3
  have sz3 := hid (show N ≤ V3.heap.size by omega)
  clear CE hb HB4 B34 hA hy hT ey AO CS0 XE S3 T3 BU hU2 hU3 a1 a2 a3 a4 a5 a6 a7 l0 g0 l1 g1 l2 g2 sL sL2 z0 z1 sZ t0 sT
  have xx := SX.out
  obtain ⟨⟨x0, x1, x2, x3, x4, x5, x6, x7, x8, x9⟩, xr, xa⟩ := xx
  go_wp2_with fail
  refine wp_region_held_drew (S := fun w' => EraH M y w' ∧ w'.cell? ⟨N, 0, none⟩ = some (.slice ra rs.length rcap) ∧ w'.cell? ⟨N + 1, 0, none⟩ = some (.int .i64 at_)) (by kernel_rfl) SX.out (fun hHeld => ?_)
  refine wpAnyH_take (i := 0) (v := ?vz1z) rfl (by kernel_rfl) (by kernel_rfl) (by kernel_rfl) (fun _ _ _ h => h) (Or.inl ⟨by rfl, ?hyz1z⟩) (by assumption) ?_
  case hyz1z => (intro w hSw; (obtain ⟨⟨s0, s1, s2, s3, s4, s5, s6, s7, s8, s9⟩, sr, sa⟩ := hSw); go_simp; try with_reducible rfl)
  try simp only [Act.put, List.setIfInBounds_toArray, List.set_cons_zero, List.set_cons_succ, List.getElem_toArray, List.getElem_cons_zero, List.getElem_cons_succ]
  refine wpAnyH_take (i := 1) (v := ?vz2z) rfl (by kernel_rfl) (by kernel_rfl) (by kernel_rfl) (fun _ _ _ h => h) (Or.inl ⟨by rfl, ?hyz2z⟩) (by assumption) ?_
  case hyz2z => (intro w hSw; (obtain ⟨⟨s0, s1, s2, s3, s4, s5, s6, s7, s8, s9⟩, sr, sa⟩ := hSw); go_simp; try with_reducible rfl)
  try simp only [Act.put, List.setIfInBounds_toArray, List.set_cons_zero, List.set_cons_succ, List.getElem_toArray, List.getElem_cons_zero, List.getElem_cons_succ]
  refine wpAnyH_take (i := 2) (v := ?vz3z) rfl (by kernel_rfl) (by kernel_rfl) (by kernel_rfl) (fun _ _ _ h => h) (Or.inl ⟨by rfl, ?hyz3z⟩) (by assumption) ?_
  case hyz3z => (intro w hSw; (obtain ⟨⟨s0, s1, s2, s3, s4, s5, s6, s7, s8, s9⟩, sr, sa⟩ := hSw); go_simp; try with_reducible rfl)
  try simp only [Act.put, List.setIfInBounds_toArray, List.set_cons_zero, List.set_cons_succ, List.getElem_toArray, List.getElem_cons_zero, List.getElem_cons_succ]
  refine wpAnyH_take (i := 3) (v := ?vz4z) rfl (by kernel_rfl) (by kernel_rfl) (by kernel_rfl) (fun _ _ _ h => h) (Or.inl ⟨by rfl, ?hyz4z⟩) (by assumption) ?_
  case hyz4z => (intro w hSw; (obtain ⟨⟨s0, s1, s2, s3, s4, s5, s6, s7, s8, s9⟩, sr, sa⟩ := hSw); go_simp; try with_reducible rfl)
  try simp only [Act.put, List.setIfInBounds_toArray, List.set_cons_zero, List.set_cons_succ, List.getElem_toArray, List.getElem_cons_zero, List.getElem_cons_succ]
  refine wpAnyH_take (i := 4) (v := ?vz5z) rfl (by kernel_rfl) (by kernel_rfl) (by kernel_rfl) (fun _ _ _ h => h) (Or.inl ⟨by rfl, ?hyz5z⟩) (by assumption) ?_
  case hyz5z => (intro w hSw; (obtain ⟨⟨s0, s1, s2, s3, s4, s5, s6, s7, s8, s9⟩, sr, sa⟩ := hSw); go_simp; try with_reducible rfl)
  try simp only [Act.put, List.setIfInBounds_toArray, List.set_cons_zero, List.set_cons_succ, List.getElem_toArray, List.getElem_cons_zero, List.getElem_cons_succ]
  refine wpAnyH_ready (rs := [5]) (by kernel_rfl) (by simp) ?_
  refine AllReadyH.cons rfl (fun K hK => ?_) AllReadyH.nil
  go_simp
  refine CS.out.mono ?_
  rintro e w7 ⟨rfl, hb7⟩
  have hb7' := below_drew1 hb7
  have S7 := KS.out w7 hb7'
  have CL7 := hid (CL.out w7 hb7')
  refine hK.out _ _ ?_ (fun hHeld => ?_)
  · exact S7
  clear hK K
  try simp only [Act.put, List.setIfInBounds_toArray, List.set_cons_zero, List.set_cons_succ, List.getElem_toArray, List.getElem_cons_zero, List.getElem_cons_succ]
  refine wpAnyH_ready (rs := [6]) (by kernel_rfl) (by simp) ?_
  refine AllReadyH.cons rfl (fun K hK => ?_) AllReadyH.nil
  go_simp
  refine CL7.out.mono ?_
  rintro e w8 ⟨rfl, hb8⟩
  have hb78 := hb7'.trans (hb8.mono hb7'.size)
  have S8 := KS.out w8 hb78
  have L8 := ca_below HL3.out hb78
  obtain ⟨l0, g0⟩ := ca_at L8 0 rfl
  obtain ⟨l1, g1⟩ := ca_at L8 1 rfl
  obtain ⟨l2, g2⟩ := ca_at L8 2 rfl
  have sL := L8.1
  refine hK.out _ _ ?_ (fun hHeld => ?_)
  · exact S8
  clear hK K
  try simp only [Act.put, List.setIfInBounds_toArray, List.set_cons_zero, List.set_cons_succ, List.getElem_toArray, List.getElem_cons_zero, List.getElem_cons_succ]
  refine wpAnyH_ready (rs := [7]) (by kernel_rfl) (by simp) ?_
  refine AllReadyH.cons rfl (fun K hK => ?_) AllReadyH.nil
  go_simp
  have S9 := KP.out w8 S8 (.int .i64 (y.shift + T.save)) (.int .i64 T.save) (.string ⟨(nameE y.format T.save T.letter).toArray⟩)
  refine hK.out _ _ ?_ (fun hHeld => ?_)
  · exact S9
  clear hK K
  try simp only [Act.put, List.setIfInBounds_toArray, List.set_cons_zero, List.set_cons_succ, List.getElem_toArray, List.getElem_cons_zero, List.getElem_cons_succ]
  refine wpAnyH_take (i := 8) (v := ?vz6z) rfl (by kernel_rfl) (by kernel_rfl) (by kernel_rfl) (fun _ _ _ h => h) (Or.inl ⟨by rfl, ?hyz6z⟩) (by assumption) ?_
  case hyz6z => (intro w hSw; (obtain ⟨⟨s0, s1, s2, s3, s4, s5, s6, s7, s8, s9⟩, sr, sa⟩ := hSw); go_simp; try with_reducible rfl)
  try simp only [Act.put, List.setIfInBounds_toArray, List.set_cons_zero, List.set_cons_succ, List.getElem_toArray, List.getElem_cons_zero, List.getElem_cons_succ]
  refine wpAnyH_done (by kernel_rfl) ?_ _
  have b8 : Below N w w8 := BN3.out.trans (hb78.mono sz3.out)
  have h2 := hid (below_put (below_put (below_put b8 h1.out 0 (.int .i64 (y.shift + T.save))) h1.out 1 (.int .i64 T.save)) h1.out 2 (.string ⟨(nameE y.format T.save T.letter).toArray⟩))
  clear hb78 hb8 hb7 hb7' S7 S8 S9 b8
  go_wp2
  refine bodyPost_ret (v := .tuple #[lcV ⟨y.shift + T.save, T.save, nameE y.format T.save T.letter⟩, .int .i64 0]) (by simp [results, Tryz.results15, go_sem, *]) rfl ⟨by rw [E1.out, E2.out, EL.out], h2.out⟩
end Go.Proofs.YtkhlkohlccndgaaGreat
namespace Go.Proofs.YtkhlkohlccndgaaGreat.Sx
set_option linter.unusedVariables false
set_option linter.unusedSimpArgs false
theorem timesFrom_mem {sh : Int} : ∀ {l : List Tn} {s : Int} {x : Tm}, x ∈ timesFrom sh s l → ∃ t ∈ l, x.letter = t.letter ∧ x.save = t.save
  | [], _, _, h => by cases h
  | t :: r, s, x, h => by
    rcases List.mem_cons.1 h with rfl | h
    · exact ⟨t, by simp, rfl, rfl⟩
    · obtain ⟨u, hu, q⟩ := timesFrom_mem h
      exact ⟨u, List.mem_cons_of_mem _ hu, q⟩
theorem turnsOf_memZ {rs : List Rl} {nm : Tx.Bs} {t : Tn} (h : t ∈ turnsOf rs nm) : ∃ r ∈ rs, t.letter = r.letter ∧ t.save = r.save := by
  unfold turnsOf at h
  obtain ⟨r, hr, q⟩ := List.mem_flatMap.1 h
  obtain ⟨k, _, rfl⟩ := List.mem_map.1 q
  exact ⟨r, (List.mem_filter.1 hr).1, rfl, rfl⟩
theorem times_fewZ (rs : List Rl) (nm : Tx.Bs) (sh : Int) : (times rs nm sh).length ≤ 1000 := by
  unfold times
  split
  · rename_i h
    rw [timesFrom_len, (isort_perm _).length_eq]
    by_cases q : 1000 < (turnsOf rs nm).length
    · exfalso
      unfold timesE at h
      rw [if_pos q] at h
      split at h
      · rename_i h2; exact h2 h
      · split at h
        · omega
        · split at h
          · omega
          · split at h <;> omega
    · omega
  · simp
theorem times_memZ {rs : List Rl} {nm : Tx.Bs} {sh : Int} {x : Tm} (h : x ∈ times rs nm sh) : ∃ r ∈ rs, x.letter = r.letter ∧ x.save = r.save := by
  unfold times at h
  split at h
  · obtain ⟨t, ht, e1, e2⟩ := timesFrom_mem h
    obtain ⟨r, hr, e3, e4⟩ := turnsOf_memZ ((isort_perm _).mem_iff.1 ht)
    exact ⟨r, hr, e1.trans e3, e2.trans e4⟩
  · cases h
end Go.Proofs.YtkhlkohlccndgaaGreat.Sx
namespace Go.Proofs.YtkhlkohlccndgaaGreat
open Go.RowKit Go.Shelf
set_option linter.unusedVariables false
set_option linter.unusedSimpArgs false
theorem lastT_mem (p : Sx.Tm → Bool) (l : List Sx.Tm) : lastT p l = zeroT ∨ lastT p l ∈ l := by
  have aux : ∀ (l : List Sx.Tm) (a : Sx.Tm), l.foldl (fun a x => if p x = true then x else a) a = a ∨ l.foldl (fun a x => if p x = true then x else a) a ∈ l := by
    intro l
    induction l with
    | nil => intro a; exact .inl rfl
    | cons x r ih =>
      intro a
      rw [List.foldl_cons]
      rcases ih (if p x = true then x else a) with q | q
      · rw [q]
        split
        · exact .inr (by simp)
        · exact .inl rfl
      · exact .inr (List.mem_cons_of_mem _ q)
  exact aux l zeroT
theorem errs_zero {c : Nat → Int} (h : errsOf c = 0) : ∀ i < 5, c i = 0 := by
  unfold errsOf at h
  split at h
  · rename_i q; exact absurd h q
  rename_i q0
  split at h
  · rename_i q; exact absurd h q
  rename_i q1
  split at h
  · rename_i q; exact absurd h q
  rename_i q2
  split at h
  · rename_i q; exact absurd h q
  rename_i q3
  simp at q0 q1 q2 q3
  intro i hi
  rcases (show i = 0 ∨ i = 1 ∨ i = 2 ∨ i = 3 ∨ i = 4 by omega) with rfl | rfl | rfl | rfl | rfl <;> assumption
def zoneF (s : Sx.Sr) (xs : List ZV) (nm : Tx.Bs) : Int := findE (zoneErr s xs) xs s.links nm
def zoneZ (s : Sx.Sr) (xs : List ZV) (nm : Tx.Bs) : Sx.Zn := findZ (zoneErr s xs) xs s.links nm
theorem zoneF_src {s : Sx.Sr} {xs : List ZV} {nm : Tx.Bs} (h : zoneF s xs nm = 0) : zoneErr s xs = 0 ∧ zvHas xs (nameTo s.links nm) = true := by
  unfold zoneF findE at h
  split at h
  · rename_i q; exact absurd h q
  · rename_i q
    simp at q
    split at h
    · rename_i q2; exact ⟨q, q2⟩
    · cases h
theorem zFind_any (s : Sx.Sr) (xs : List ZV) (ra za la : Option Addr) (rcap zcap lcap : Nat) (m : Int) (nm : Tx.Bs) (w : World) (h : SrcIn s xs ra za la rcap zcap lcap m w) :
    FindAt (.agg #[.slice ra s.rules.length rcap, .slice za xs.length zcap, .slice la s.links.length lcap]) nm (zoneF s xs nm) (zoneZ s xs nm) w := by
  intro W hW
  have g := srcIn_below h hW
  refine find_seq (zoneErr s xs) nm s.zones s.links xs ra za la s.rules.length rcap zcap lcap W g.zv g.links ?_ (fun W' hW' => zCheck_any s xs ra za la rcap zcap lcap m W' (srcIn_below g hW'))
  intro hE
  have ok := Sx.src_okZ (errs_zero hE 0 (by omega))
  obtain ⟨f1, f2, f3, f4⟩ := many_few ok.many
  have hl := rdZv_len h.zv
  exact ⟨by omega, by omega, fun p hp => by have := f4 p.z (zv_mem h.zv hp); omega⟩
/- what a zone that is found is -/
theorem zoneZ_ok {s : Sx.Sr} {xs : List ZV} {v : Value} {w : World} {nm : Tx.Bs} (hz : RdZv w v s.zones xs) (h : zoneF s xs nm = 0) : Sx.SrcOk s ∧ zoneZ s xs nm ∈ s.zones ∧ (zoneZ s xs nm).eras.length ≤ 8 ∧ ∀ e ∈ (zoneZ s xs nm).eras, Sx.EraOk e := by
  obtain ⟨h1, h2⟩ := zoneF_src h
  have ok := Sx.src_okZ (errs_zero h1 0 (by omega))
  obtain ⟨f1, f2, f3, f4⟩ := many_few ok.many
  have e : zoneZ s xs nm = (zvAt xs (nameTo s.links nm)).z := by unfold zoneZ findZ; rw [show findE (zoneErr s xs) xs s.links nm = 0 from h]; rfl
  have hm : zoneZ s xs nm ∈ s.zones := by rw [e]; exact zv_mem hz (zvAt_mem h2)
  exact ⟨ok, hm, f4 _ hm, Sx.zone_eras (ok.zone _ hm)⟩
theorem zEnds_any (s : Sx.Sr) (xs : List ZV) (ra za la : Option Addr) (rcap zcap lcap : Nat) (m : Int) (nm : Tx.Bs) (w : World) (h : SrcIn s xs ra za la rcap zcap lcap m w) :
    Calls Tryz.prog 17 #[.agg #[.slice ra s.rules.length rcap, .slice za xs.length zcap, .slice la s.links.length lcap], strV nm] w fun e w' => ∃ v, e = .returned (.tuple #[v, .int .i64 (zoneF s xs nm)]) ∧ OwnEnds w' w.heap.size v (if zoneF s xs nm = 0 then endsE (zoneZ s xs nm).eras else []) ∧ Below w.heap.size w w' := by
  refine ends_seq nm (zoneZ s xs nm) (zoneF s xs nm) ra za la _ _ _ rcap zcap lcap w (zFind_any s xs ra za la rcap zcap lcap m nm w h) ?_
  intro hF
  obtain ⟨_, _, h3, h4⟩ := zoneZ_ok h.zv hF
  exact ⟨by omega, fun e he => (h4 e he).till⟩
theorem eraAt_in (z : Sx.Zn) (at_ : Int) : eraAt z at_ = zeroE ∨ eraAt z at_ ∈ z.eras := by
  unfold eraAt
  cases hf : z.eras.find? (fun x => x.opn || decide (at_ < endAt x)) with
  | none => exact .inl rfl
  | some y => exact .inr (List.mem_of_find?_eq_some hf)
theorem atOk_of {s : Sx.Sr} {z : Sx.Zn} {at_ : Int} (ok : Sx.SrcOk s) (h8 : z.eras.length ≤ 8) (he : ∀ e ∈ z.eras, Sx.EraOk e) : AtOk s.rules z at_ := by
  have hx : (eraAt z at_).format.length ≤ 24 ∧ (-64800 ≤ (eraAt z at_).shift ∧ (eraAt z at_).shift ≤ 64800) ∧ (0 ≤ (eraAt z at_).save ∧ (eraAt z at_).save ≤ 10800) := by
    rcases eraAt_in z at_ with q | q
    · rw [q]; simp [zeroE]
    · have o := he _ q
      have f := o.fmt
      unfold Sx.formatB at f
      simp at f
      exact ⟨f.1.2, ⟨o.sh0, o.sh1⟩, ⟨o.sv0, o.sv1⟩⟩
  have ht : (savedT s.rules (eraAt z at_) at_).letter.length ≤ 24 ∧ (0 ≤ (savedT s.rules (eraAt z at_) at_).save ∧ (savedT s.rules (eraAt z at_) at_).save ≤ 10800) := by
    unfold savedT
    split
    · exact ⟨by simp, hx.2.2⟩
    · rcases lastT_mem (fun t => decide (t.at_ ≤ at_)) (Sx.times s.rules (eraAt z at_).rules (eraAt z at_).shift) with q | q
      · rw [q]; simp [zeroT]
      · obtain ⟨r, hr, e1, e2⟩ := Sx.times_memZ q
        have hr0 := ok.rule r hr
        have ro := Sx.rule_ok hr0
        rw [e1, e2]
        refine ⟨?_, ro.save⟩
        unfold Sx.ruleE at hr0
        split at hr0
        · cases hr0
        · rename_i g
          simp [Sx.lettersB] at g
          exact g.2.2
  have h1 := Sx.times_fewZ s.rules (eraAt z at_).rules (eraAt z at_).shift
  exact ⟨by omega, fun e q => (he e q).till, by omega, by omega, by omega, by omega, by omega⟩
theorem zAt_any (s : Sx.Sr) (xs : List ZV) (ra za la : Option Addr) (rcap zcap lcap : Nat) (m at_ : Int) (nm : Tx.Bs) (w : World) (h : SrcIn s xs ra za la rcap zcap lcap m w) :
    Calls Tryz.prog 15 #[.agg #[.slice ra s.rules.length rcap, .slice za xs.length zcap, .slice la s.links.length lcap], strV nm, .int .i64 at_] w fun e w' => e = .returned (.tuple #[lcV (atL (zoneF s xs nm) at_ s.rules (zoneZ s xs nm)), .int .i64 (atE (zoneF s xs nm) at_)]) ∧ Below w.heap.size w w' := by
  refine at_seq nm at_ m s.rules (zoneZ s xs nm) (zoneF s xs nm) ra za la _ _ rcap zcap lcap w h.rules h.size.rules h.max h.pos (zFind_any s xs ra za la rcap zcap lcap m nm w h) ?_
  intro hF _
  obtain ⟨h1, _, h3, h4⟩ := zoneZ_ok h.zv hF
  exact atOk_of h1 h3 h4
end Go.Proofs.YtkhlkohlccndgaaGreat
namespace Go.Proofs.YtkhlkohlccndgaaGreat
open Go.RowKit Go.Shelf
set_option linter.unusedVariables false
set_option linter.unusedSimpArgs false
theorem capZs_own {w : World} {B : Nat} {v : Value} {zs : List Sx.Zn} (h : OwnZones w B v zs) : CapZs w v zs := by
  obtain ⟨ps, hz⟩ := h
  intro i x b o cap hx hv ev hev
  subst hv
  have hrd : Rd 2 zoneCells w (.slice (some ⟨b, o, none⟩) zs.length cap) ps := own_rd (fun _ => rfl) hz.row
  obtain ⟨p, hp⟩ : ∃ p, ps[i]? = some p := ⟨_, List.getElem?_eq_getElem (by rw [hz.len]; exact (List.getElem?_eq_some_iff.1 hx).1)⟩
  obtain ⟨a', cap', e1, h2⟩ := hrd
  obtain ⟨b', o', e2, _, hc⟩ := h2 (by rintro rfl; simp at hp)
  simp only [Value.slice.injEq] at e1
  obtain ⟨rfl, _, _⟩ := e1
  simp only [Option.some.injEq, Addr.mk.injEq] at e2
  obtain ⟨rfl, rfl, _⟩ := e2
  have q := hc i p hp 1 p.2 rfl
  rw [hev] at q
  simp only [Option.some.injEq] at q
  subst q
  have ho := (hz.eras i p x hp hx).2
  obtain ⟨a, c, e⟩ := owns_shape0 ho
  rw [e] at ho
  exact ⟨a, c, e, ownEras_cap ho⟩
theorem srcIn_own {w : World} {B : Nat} {r z l : Value} {s : Sx.Sr} {m : Int} (h : OwnSrc w B r z l s) (hs : SizedS s) (hm : w.cell? ⟨0, 0, none⟩ = some (.int .i64 m)) (h0 : 0 < w.heap.size) :
    ∃ ra za la rcap zcap lcap xs, r = .slice ra s.rules.length rcap ∧ z = .slice za xs.length zcap ∧ l = .slice la s.links.length lcap ∧ xs.map ZV.z = s.zones ∧ SrcIn s xs ra za la rcap zcap lcap m w := by
  obtain ⟨h1, h2, h3⟩ := ownSrc_rd h
  obtain ⟨ra, rcap, rfl⟩ := rd_shape h1
  obtain ⟨za, zcap, rfl⟩ := rdZones_shape h2
  obtain ⟨la, lcap, rfl⟩ := rd_shape h3
  have hc := capZs_own h.zones
  obtain ⟨xs, hx⟩ := rdZv_of h2 hc
  have hl := rdZv_len hx
  rw [← hl] at h2 hc hx ⊢
  exact ⟨ra, za, la, rcap, zcap, lcap, xs, rfl, rfl, rfl, hx.fst, h1, h2, hc, hx, h3, hs, hm, h0⟩
theorem src0_one {xs : List ZV} (h : xs.map ZV.z = src0.zones) : ∃ a c, xs = [⟨⟨townB, [⟨600, [], 0, [76, 77, 84], false, 1880, 1, 1, 0, 2⟩, ⟨3600, euB, 0, [67, 69, 37, 115, 84], true, 0, 0, 0, 0, 0⟩]⟩, a, c⟩] := by
  match xs, h with
  | [⟨z, a, c⟩], h =>
    simp [src0] at h
    exact ⟨a, c, by rw [h]⟩
  | [], h => simp [src0] at h
  | _ :: _ :: _, h => simp [src0] at h
/- what the fixed text's zones answer -/
def oldB : Tx.Bs := [79, 108, 100]
def newB : Tx.Bs := [78, 101, 119]
theorem src0_sizedS : SizedS src0 := by
  refine ⟨src0_sized, ?_, ?_⟩
  · intro z hz
    simp [src0] at hz
    subst hz
    refine ⟨by simp [townB, maxLen], ?_⟩
    intro x hx
    simp at hx
    rcases hx with rfl | rfl <;> simp [euB, maxLen]
  · intro l hl
    simp [src0] at hl
    subst hl
    simp [townB, maxLen]
def town0 : Sx.Zn := ⟨townB, [⟨600, [], 0, [76, 77, 84], false, 1880, 1, 1, 0, 2⟩, ⟨3600, euB, 0, [67, 69, 37, 115, 84], true, 0, 0, 0, 0, 0⟩]⟩
theorem err0 (a : Option Addr) (c : Nat) : zoneErr src0 [⟨town0, a, c⟩] = 0 := by kernel_rfl
theorem oldF (a : Option Addr) (c : Nat) : zoneF src0 [⟨town0, a, c⟩] oldB = 0 := by kernel_rfl
theorem oldZ (a : Option Addr) (c : Nat) : zoneZ src0 [⟨town0, a, c⟩] oldB = town0 := by kernel_rfl
theorem townF (a : Option Addr) (c : Nat) : zoneF src0 [⟨town0, a, c⟩] townB = 0 := by kernel_rfl
theorem townZ (a : Option Addr) (c : Nat) : zoneZ src0 [⟨town0, a, c⟩] townB = town0 := by kernel_rfl
theorem newF (a : Option Addr) (c : Nat) : zoneF src0 [⟨town0, a, c⟩] newB = 5 := by kernel_rfl
theorem ends0 : endsE town0.eras = [-2840141400] := by kernel_rfl
theorem at0 : atL 0 1585443600 src0.rules town0 = ⟨7200, 3600, [67, 69, 83, 84]⟩ := by kernel_rfl
theorem at0b : atL 0 1585443599 src0.rules town0 = ⟨3600, 0, [67, 69, 84]⟩ := by kernel_rfl
theorem atE0 : atE 0 1585443600 = 0 ∧ atE 0 1585443599 = 0 ∧ atE 5 0 = 5 := ⟨by kernel_rfl, by kernel_rfl, by kernel_rfl⟩
theorem src0_xs {xs : List ZV} (h : xs.map ZV.z = src0.zones) : ∃ a c, xs = [⟨town0, a, c⟩] := src0_one h
theorem atL5 : atL 5 0 src0.rules (zoneZ src0 [] newB) = lc0 := by kernel_rfl
/- what zone's functions answer of the parsed text -/
structure Made (w : World) (r z l : Value) : Prop where
  src : ∃ B, OwnSrc w B r z l src0
  max : ∃ m, w.cell? ⟨0, 0, none⟩ = some (.int .i64 m)
  pos : 0 < w.heap.size
theorem made_in {w : World} {r z l : Value} (h : Made w r z l) : ∃ ra za la rcap zcap lcap a c m, r = .slice ra src0.rules.length rcap ∧ z = .slice za [(⟨town0, a, c⟩ : ZV)].length zcap ∧ l = .slice la src0.links.length lcap ∧ SrcIn src0 [⟨town0, a, c⟩] ra za la rcap zcap lcap m w := by
  obtain ⟨⟨B, hB⟩, ⟨m, hm⟩, h0⟩ := h
  obtain ⟨ra, za, la, rcap, zcap, lcap, xs, rfl, rfl, rfl, hx, hs⟩ := srcIn_own hB src0_sizedS hm h0
  obtain ⟨a, c, rfl⟩ := src0_xs hx
  exact ⟨ra, za, la, rcap, zcap, lcap, a, c, m, rfl, rfl, rfl, hs⟩
theorem zFind0 {w : World} {r z l : Value} (h : Made w r z l) : Calls Tryz.prog 16 #[.agg #[r, z, l], strV oldB] w fun e w' => ∃ v, e = .returned (.tuple #[.agg #[strV townB, v], .int .i64 0]) ∧ OwnEras w' w.heap.size v town0.eras ∧ Below w.heap.size w w' := by
  obtain ⟨ra, za, la, rcap, zcap, lcap, a, c, m, rfl, rfl, rfl, hs⟩ := made_in h
  have q := zFind_any src0 [⟨town0, a, c⟩] ra za la rcap zcap lcap m oldB w hs w (Below.refl _ _)
  rw [oldF, oldZ] at q
  exact q
theorem zEnds0 {w : World} {r z l : Value} (h : Made w r z l) : Calls Tryz.prog 17 #[.agg #[r, z, l], strV townB] w fun e w' => ∃ v, e = .returned (.tuple #[v, .int .i64 0]) ∧ OwnEnds w' w.heap.size v [-2840141400] ∧ Below w.heap.size w w' := by
  obtain ⟨ra, za, la, rcap, zcap, lcap, a, c, m, rfl, rfl, rfl, hs⟩ := made_in h
  have q := zEnds_any src0 [⟨town0, a, c⟩] ra za la rcap zcap lcap m townB w hs
  rw [townF, townZ, ends0] at q
  exact q
theorem zAt0 {w : World} {r z l : Value} (h : Made w r z l) : Calls Tryz.prog 15 #[.agg #[r, z, l], strV oldB, .int .i64 1585443600] w fun e w' => e = .returned (.tuple #[lcV ⟨7200, 3600, [67, 69, 83, 84]⟩, .int .i64 0]) ∧ Below w.heap.size w w' := by
  obtain ⟨ra, za, la, rcap, zcap, lcap, a, c, m, rfl, rfl, rfl, hs⟩ := made_in h
  have q := zAt_any src0 [⟨town0, a, c⟩] ra za la rcap zcap lcap m 1585443600 oldB w hs
  rw [oldF, oldZ, at0, atE0.1] at q
  exact q
theorem zAt0b {w : World} {r z l : Value} (h : Made w r z l) : Calls Tryz.prog 15 #[.agg #[r, z, l], strV oldB, .int .i64 1585443599] w fun e w' => e = .returned (.tuple #[lcV ⟨3600, 0, [67, 69, 84]⟩, .int .i64 0]) ∧ Below w.heap.size w w' := by
  obtain ⟨ra, za, la, rcap, zcap, lcap, a, c, m, rfl, rfl, rfl, hs⟩ := made_in h
  have q := zAt_any src0 [⟨town0, a, c⟩] ra za la rcap zcap lcap m 1585443599 oldB w hs
  rw [oldF, oldZ, at0b, atE0.2.1] at q
  exact q
theorem zAtN {w : World} {r z l : Value} (h : Made w r z l) : Calls Tryz.prog 15 #[.agg #[r, z, l], strV newB, .int .i64 0] w fun e w' => e = .returned (.tuple #[lcV lc0, .int .i64 5]) ∧ Below w.heap.size w w' := by
  obtain ⟨ra, za, la, rcap, zcap, lcap, a, c, m, rfl, rfl, rfl, hs⟩ := made_in h
  have q := zAt_any src0 [⟨town0, a, c⟩] ra za la rcap zcap lcap m 0 newB w hs
  rw [newF, atE0.2.2] at q
  exact q
theorem zCheck0 {w : World} {r z l : Value} (h : Made w r z l) : Calls Tryz.prog 14 #[.agg #[r, z, l]] w fun e w' => e = .returned (.int .i64 0) ∧ Below w.heap.size w w' := by
  obtain ⟨ra, za, la, rcap, zcap, lcap, a, c, m, rfl, rfl, rfl, hs⟩ := made_in h
  have q := zCheck_any src0 [⟨town0, a, c⟩] ra za la rcap zcap lcap m w hs
  rw [err0] at q
  exact q
end Go.Proofs.YtkhlkohlccndgaaGreat
namespace Go.Proofs.YtkhlkohlccndgaaGreat
open Go.RowKit Go.Shelf
set_option linter.unusedVariables false
set_option linter.unusedSimpArgs false

theorem made_of {w w0 W w1 : World} {B : Nat} {r z l : Value} {m : Int} (hm : w.cell? ⟨0, 0, none⟩ = some (.int .i64 m)) (h0 : 0 < w.heap.size) (hb : Below w.heap.size w w1) (h : OwnSrc w1 B r z l src0) : Made w1 r z l :=
  ⟨⟨B, h⟩, ⟨m, (hb.cell (p := ⟨0, 0, none⟩) h0).trans hm⟩, Nat.lt_of_lt_of_le h0 hb.size⟩
theorem made_shape {w : World} {r z l : Value} (h : Made w r z l) : ∃ ra rc za n zc la lc, r = .slice ra 2 rc ∧ z = .slice za n zc ∧ l = .slice la 1 lc := by
  obtain ⟨ra, za, la, rcap, zcap, lcap, a, c, m, rfl, rfl, rfl, hs⟩ := made_in h
  exact ⟨ra, rcap, za, 1, zcap, la, lcap, rfl, rfl, rfl⟩
set_option maxRecDepth 100000 in
set_option maxHeartbeats 2000000 in
theorem zoneBegun_is (m : Int) (w : World) (hm : w.cell? ⟨0, 0, none⟩ = some (.int .i64 m)) (h0 : 0 < w.heap.size) : Calls Tryz.prog 13 #[] w fun e w' => e = .returned (.bool true) ∧ Below w.heap.size w w' := by
  have HM := hid hm
  have H0 := hid h0
  clear hm h0
  have BW0 := hid (Below.refl w.heap.size w)
  go_enter Tryz.func13, Tryz.ntmps13
  go_wp2_with fail
  refine (parsed_any _).mono ?_
  rintro e p0 ⟨r, z, l, rfl, hown, hb⟩
  have C0 : Hid (Below w.heap.size w p0) := BW0.out.trans (hb.mono BW0.out.size)
  have M0 := hid (made_of (w0 := w) (W := w) HM.out H0.out C0.out hown)
  obtain ⟨ra, rc, za, zn, zc, la, lc, rfl, rfl, rfl⟩ := made_shape M0.out
  clear hown hb 
  go_wp2_with fail
  refine (zFind0 M0.out).mono ?_
  rintro e x0 ⟨v0, rfl, hO, hb⟩
  obtain ⟨za, zc, rfl⟩ := owns_shape0 hO
  have D0 : Hid (Below w.heap.size w x0) := C0.out.trans (hb.mono C0.out.size)
  clear hb C0 M0 hO BW0
  obtain ⟨y0, hy0⟩ : ∃ y0, x0.alloc (.cells ([strV townB, .slice za town0.eras.length zc] : List Value).toArray 44) = y0 := ⟨_, rfl⟩
  have ZC : Hid (CellsAt y0 x0.heap.size [strV townB, .slice za town0.eras.length zc]) := by show CellsAt _ _ _; rw [← hy0]; exact ca_new x0 [strV townB, .slice za town0.eras.length zc] 44
  have E0 : Hid (Below w.heap.size w y0) := by show Below _ _ _; rw [← hy0]; exact D0.out.alloc D0.out.size _
  have gy0 : x0.alloc (.cells #[strV townB, .slice za town0.eras.length zc] 44) = y0 := hy0
  simp only [strV] at gy0
  clear D0
  clear hy0
  go_wp2_with fail
  refine (parsed_any _).mono ?_
  rintro e p1 ⟨r, z, l, rfl, hown, hb⟩
  have C1 : Hid (Below w.heap.size w p1) := E0.out.trans (hb.mono E0.out.size)
  have M1 := hid (made_of (w0 := w) (W := w) HM.out H0.out C1.out hown)
  obtain ⟨ra, rc, za, zn, zc, la, lc, rfl, rfl, rfl⟩ := made_shape M1.out
  have ZCp := hid (ca_below ZC.out hb)
  clear hown hb ZC
  go_wp2_with fail
  refine (zEnds0 M1.out).mono ?_
  rintro e x1 ⟨v1, rfl, hO, hb⟩
  have RL := hid (ownEnds_rd hO)
  obtain ⟨ea, ec, rfl⟩ := owns_shape0 hO
  have D1 : Hid (Below w.heap.size w x1) := C1.out.trans (hb.mono C1.out.size)
  have ZC := hid (ca_below ZCp.out hb)
  clear ZCp hb C1 M1 hO E0
  go_wp2_with fail
  refine (parsed_any _).mono ?_
  rintro e p2 ⟨r, z, l, rfl, hown, hb⟩
  have C2 : Hid (Below w.heap.size w p2) := D1.out.trans (hb.mono D1.out.size)
  have M2 := hid (made_of (w0 := w) (W := w) HM.out H0.out C2.out hown)
  obtain ⟨ra, rc, za, zn, zc, la, lc, rfl, rfl, rfl⟩ := made_shape M2.out
  have ZCp := hid (ca_below ZC.out hb)
  have RLp := hid (rd_below RL.out hb)
  clear hown hb ZC RL
  go_wp2_with fail
  refine (zAt0 M2.out).mono ?_
  rintro e x2 ⟨rfl, hb⟩
  have D2 : Hid (Below w.heap.size w x2) := C2.out.trans (hb.mono C2.out.size)
  have ZC := hid (ca_below ZCp.out hb)
  have RL := hid (rd_below RLp.out hb)
  clear ZCp RLp hb C2 M2 D1
  obtain ⟨y2, hy2⟩ : ∃ y2, x2.alloc (.cells ([.int .i64 7200, .int .i64 3600, strV [67, 69, 83, 84]] : List Value).toArray 31) = y2 := ⟨_, rfl⟩
  have LA : Hid (CellsAt y2 x2.heap.size [.int .i64 7200, .int .i64 3600, strV [67, 69, 83, 84]]) := by show CellsAt _ _ _; rw [← hy2]; exact ca_new x2 [.int .i64 7200, .int .i64 3600, strV [67, 69, 83, 84]] 31
  have ZCq := hid (ca_below ZC.out (show Below x2.heap.size x2 y2 by rw [← hy2]; exact (Below.refl _ _).alloc (Nat.le_refl _) _))
  clear ZC
  have ZC := ZCq
  clear ZCq
  have RLq := hid (rd_below RL.out (show Below x2.heap.size x2 y2 by rw [← hy2]; exact (Below.refl _ _).alloc (Nat.le_refl _) _))
  clear RL
  have RL := RLq
  clear RLq
  have E2 : Hid (Below w.heap.size w y2) := by show Below _ _ _; rw [← hy2]; exact D2.out.alloc D2.out.size _
  have gy2 : x2.alloc (.cells #[.int .i64 7200, .int .i64 3600, strV [67, 69, 83, 84]] 31) = y2 := hy2
  simp only [strV] at gy2
  clear D2
  clear hy2
  go_wp2_with fail
  refine (parsed_any _).mono ?_
  rintro e p3 ⟨r, z, l, rfl, hown, hb⟩
  have C3 : Hid (Below w.heap.size w p3) := E2.out.trans (hb.mono E2.out.size)
  have M3 := hid (made_of (w0 := w) (W := w) HM.out H0.out C3.out hown)
  obtain ⟨ra, rc, za, zn, zc, la, lc, rfl, rfl, rfl⟩ := made_shape M3.out
  have ZCp := hid (ca_below ZC.out hb)
  have RLp := hid (rd_below RL.out hb)
  have LAp := hid (ca_below LA.out hb)
  clear hown hb ZC RL LA
  go_wp2_with fail
  refine (zAt0b M3.out).mono ?_
  rintro e x3 ⟨rfl, hb⟩
  have D3 : Hid (Below w.heap.size w x3) := C3.out.trans (hb.mono C3.out.size)
  have ZC := hid (ca_below ZCp.out hb)
  have RL := hid (rd_below RLp.out hb)
  have LA := hid (ca_below LAp.out hb)
  clear ZCp RLp LAp hb C3 M3 E2
  obtain ⟨y3, hy3⟩ : ∃ y3, x3.alloc (.cells ([.int .i64 3600, .int .i64 0, strV [67, 69, 84]] : List Value).toArray 31) = y3 := ⟨_, rfl⟩
  have LB : Hid (CellsAt y3 x3.heap.size [.int .i64 3600, .int .i64 0, strV [67, 69, 84]]) := by show CellsAt _ _ _; rw [← hy3]; exact ca_new x3 [.int .i64 3600, .int .i64 0, strV [67, 69, 84]] 31
  have ZCq := hid (ca_below ZC.out (show Below x3.heap.size x3 y3 by rw [← hy3]; exact (Below.refl _ _).alloc (Nat.le_refl _) _))
  clear ZC
  have ZC := ZCq
  clear ZCq
  have RLq := hid (rd_below RL.out (show Below x3.heap.size x3 y3 by rw [← hy3]; exact (Below.refl _ _).alloc (Nat.le_refl _) _))
  clear RL
  have RL := RLq
  clear RLq
  have LAq := hid (ca_below LA.out (show Below x3.heap.size x3 y3 by rw [← hy3]; exact (Below.refl _ _).alloc (Nat.le_refl _) _))
  clear LA
  have LA := LAq
  clear LAq
  have E3 : Hid (Below w.heap.size w y3) := by show Below _ _ _; rw [← hy3]; exact D3.out.alloc D3.out.size _
  have gy3 : x3.alloc (.cells #[.int .i64 3600, .int .i64 0, strV [67, 69, 84]] 31) = y3 := hy3
  simp only [strV] at gy3
  clear D3
  clear hy3
  go_wp2_with fail
  refine (parsed_any _).mono ?_
  rintro e p4 ⟨r, z, l, rfl, hown, hb⟩
  have C4 : Hid (Below w.heap.size w p4) := E3.out.trans (hb.mono E3.out.size)
  have M4 := hid (made_of (w0 := w) (W := w) HM.out H0.out C4.out hown)
  obtain ⟨ra, rc, za, zn, zc, la, lc, rfl, rfl, rfl⟩ := made_shape M4.out
  have ZCp := hid (ca_below ZC.out hb)
  have RLp := hid (rd_below RL.out hb)
  have LAp := hid (ca_below LA.out hb)
  have LBp := hid (ca_below LB.out hb)
  clear hown hb ZC RL LA LB
  go_wp2_with fail
  refine (zAtN M4.out).mono ?_
  rintro e x4 ⟨rfl, hb⟩
  rw [show lcV lc0 = .agg #[.int .i64 0, .int .i64 0, .string ⟨#[]⟩] from rfl]
  have D4 : Hid (Below w.heap.size w x4) := C4.out.trans (hb.mono C4.out.size)
  have ZC := hid (ca_below ZCp.out hb)
  have RL := hid (rd_below RLp.out hb)
  have LA := hid (ca_below LAp.out hb)
  have LB := hid (ca_below LBp.out hb)
  clear ZCp RLp LAp LBp hb C4 M4 E3
  go_wp2_with fail
  obtain ⟨y4, hy4⟩ : ∃ y4, x4.alloc (.cells ([.int .i64 0, .int .i64 0, .string ⟨#[]⟩] : List Value).toArray 31) = y4 := ⟨_, rfl⟩
  have LN : Hid (CellsAt y4 x4.heap.size [.int .i64 0, .int .i64 0, .string ⟨#[]⟩]) := by show CellsAt _ _ _; rw [← hy4]; exact ca_new x4 [.int .i64 0, .int .i64 0, .string ⟨#[]⟩] 31
  have ZCq := hid (ca_below ZC.out (show Below x4.heap.size x4 y4 by rw [← hy4]; exact (Below.refl _ _).alloc (Nat.le_refl _) _))
  clear ZC
  have ZC := ZCq
  clear ZCq
  have RLq := hid (rd_below RL.out (show Below x4.heap.size x4 y4 by rw [← hy4]; exact (Below.refl _ _).alloc (Nat.le_refl _) _))
  clear RL
  have RL := RLq
  clear RLq
  have LAq := hid (ca_below LA.out (show Below x4.heap.size x4 y4 by rw [← hy4]; exact (Below.refl _ _).alloc (Nat.le_refl _) _))
  clear LA
  have LA := LAq
  clear LAq
  have LBq := hid (ca_below LB.out (show Below x4.heap.size x4 y4 by rw [← hy4]; exact (Below.refl _ _).alloc (Nat.le_refl _) _))
  clear LB
  have LB := LBq
  clear LBq
  have E4 : Hid (Below w.heap.size w y4) := by show Below _ _ _; rw [← hy4]; exact D4.out.alloc D4.out.size _
  rw [show x4.alloc (.cells #[.int .i64 0, .int .i64 0, .string ⟨#[]⟩] 31) = y4 from hy4]
  clear D4
  refine (parsed_any _).mono ?_
  rintro e p5 ⟨r, z, l, rfl, hown, hb⟩
  have C5 : Hid (Below w.heap.size w p5) := E4.out.trans (hb.mono E4.out.size)
  have M5 := hid (made_of (w0 := w) (W := w) HM.out H0.out C5.out hown)
  obtain ⟨ra, rc, za, zn, zc, la, lc, rfl, rfl, rfl⟩ := made_shape M5.out
  have ZCp := hid (ca_below ZC.out hb)
  have RLp := hid (rd_below RL.out hb)
  have LAp := hid (ca_below LA.out hb)
  have LBp := hid (ca_below LB.out hb)
  have LNp := hid (ca_below LN.out hb)
  clear hown hb ZC RL LA LB LN
  go_wp2_with fail
  refine (zCheck0 M5.out).mono ?_
  rintro e x5 ⟨rfl, hb⟩
  have D5 : Hid (Below w.heap.size w x5) := C5.out.trans (hb.mono C5.out.size)
  have ZC := hid (ca_below ZCp.out hb)
  have RL := hid (rd_below RLp.out hb)
  have LA := hid (ca_below LAp.out hb)
  have LB := hid (ca_below LBp.out hb)
  have LN := hid (ca_below LNp.out hb)
  clear ZCp RLp LAp LBp LNp hb C5 M5 E4
  obtain ⟨z0, _⟩ := ca_at ZC.out 0 rfl
  obtain ⟨a0, _⟩ := ca_at LA.out 0 rfl
  obtain ⟨a1, _⟩ := ca_at LA.out 1 rfl
  obtain ⟨a2, _⟩ := ca_at LA.out 2 rfl
  obtain ⟨b0, _⟩ := ca_at LB.out 0 rfl
  obtain ⟨b1, _⟩ := ca_at LB.out 1 rfl
  obtain ⟨b2, _⟩ := ca_at LB.out 2 rfl
  have sz := ZC.out.1
  have sa := LA.out.1
  have sb := LB.out.1
  obtain ⟨rb, ro, rfl, hrb, hc⟩ := rd_elem RL.out (i := 0) (x := (-2840141400 : Int)) rfl
  have c0 : x5.cell? ⟨rb, ro, none⟩ = some (.int .i64 (-2840141400)) := by have := hc 0 _ rfl; simpa using this
  clear hc RL ZC LA LB LN
  simp only [strV, townB] at z0 a2 b2
  go_wp2
  go_ret
  exact ⟨rfl, D5.out⟩
end Go.Proofs.YtkhlkohlccndgaaGreat
namespace Go.Proofs.YtkhlkohlccndgaaGreat
open Go.RowKit Go.Shelf
set_option linter.unusedVariables false
set_option linter.unusedSimpArgs false
theorem find_nodup : ∀ {ls : List Sx.Lk} {l : Sx.Lk}, (ls.map Sx.Lk.name).Nodup → l ∈ ls → ls.find? (fun x => x.name == l.name) = some l
  | [], _, _, h => by cases h
  | a :: r, l, hn, h => by
    rw [List.map_cons, List.nodup_cons] at hn
    rcases List.mem_cons.1 h with rfl | h
    · simp
    · have hne : ¬ a.name = l.name := fun q => hn.1 (by rw [q]; exact List.mem_map_of_mem h)
      rw [List.find?_cons]
      have hb : (a.name == l.name) = false := by simpa using hne
      rw [hb]
      exact find_nodup hn.2 h
theorem nameTo_link {ls : List Sx.Lk} {l : Sx.Lk} (hn : (ls.map Sx.Lk.name).Nodup) (h : l ∈ ls) : nameTo ls l.name = l.to := by
  unfold nameTo
  have ha : (ls.any fun x => x.name == l.name) = true := List.any_eq_true.2 ⟨l, h, by simp⟩
  rw [if_pos ha, find_nodup hn h]
  rfl
theorem nameTo_other {ls : List Sx.Lk} {nm : Tx.Bs} (h : nm ∉ ls.map Sx.Lk.name) : nameTo ls nm = nm := by
  unfold nameTo
  rw [if_neg]
  intro q
  obtain ⟨l, hl, e⟩ := List.any_eq_true.1 q
  exact h (by have e' : l.name = nm := by simpa using e
              rw [← e']; exact List.mem_map_of_mem hl)
theorem link_same {s : Sx.Sr} {xs : List ZV} (hx : xs.map ZV.z = s.zones) (h : zoneErr s xs = 0) {l : Sx.Lk} (hl : l ∈ s.links) : nameTo s.links l.name = l.to ∧ nameTo s.links l.to = l.to := by
  have c1 : twiceE (namesOf s.zones s.links) = 0 := errs_zero h 1 (by omega)
  have c2 : thereE s.rules s.links xs = 0 := errs_zero h 2 (by omega)
  have nd : (namesOf s.zones s.links).Nodup := by
    unfold twiceE at c1
    split at c1
    · assumption
    · cases c1
  unfold namesOf at nd
  rw [List.nodup_append] at nd
  refine ⟨nameTo_link nd.2.1 hl, nameTo_other ?_⟩
  have hz : l.to ∈ s.zones.map Sx.Zn.name := by
    unfold thereE at c2
    split at c2
    · cases c2
    · rename_i q
      simp only [Bool.or_eq_true, not_or] at q
      have q1 := q.1
      have : astrayB xs l = false := by
        cases e : astrayB xs l
        · rfl
        · exact absurd (List.any_eq_true.2 ⟨l, hl, e⟩) q1
      unfold astrayB at this
      simp only [Bool.not_eq_false'] at this
      obtain ⟨p, hp, e⟩ := List.any_eq_true.1 this
      have e' : p.z.name = l.to := by simpa using e
      rw [← e', ← hx]
      exact List.mem_map_of_mem (List.mem_map_of_mem hp)
  intro hq
  exact nd.2.2 _ hz _ hq rfl
theorem link_zone {s : Sx.Sr} {xs : List ZV} (hx : xs.map ZV.z = s.zones) (h : zoneErr s xs = 0) {l : Sx.Lk} (hl : l ∈ s.links) : zoneF s xs l.name = zoneF s xs l.to ∧ zoneZ s xs l.name = zoneZ s xs l.to := by
  obtain ⟨e1, e2⟩ := link_same hx h hl
  unfold zoneF zoneZ findZ findE
  rw [e1, e2]
  exact ⟨rfl, rfl⟩
end Go.Proofs.YtkhlkohlccndgaaGreat
namespace Go.Proofs.YtkhlkohlccndgaaGreat
open Go.RowKit Go.Shelf
set_option linter.unusedVariables false
set_option linter.unusedSimpArgs false
theorem turnsOf_app {a b : List Sx.Rl} {nm : Tx.Bs} (h : ∀ r ∈ b, r.name ≠ nm) : Sx.turnsOf (a ++ b) nm = Sx.turnsOf a nm := by
  unfold Sx.turnsOf
  have e : b.filter (fun r => r.name == nm) = [] := by
    rw [List.filter_eq_nil_iff]
    intro r hr; simpa using h r hr
  rw [List.filter_append, e, List.append_nil]
theorem times_app {a b : List Sx.Rl} {nm : Tx.Bs} {sh : Int} (h : ∀ r ∈ b, r.name ≠ nm) (h1 : Sx.timesE a nm sh = 0) (h2 : Sx.timesE (a ++ b) nm sh = 0) : Sx.times (a ++ b) nm sh = Sx.times a nm sh := by
  rw [(Sx.times_ok h1).is, (Sx.times_ok h2).is, turnsOf_app h]
theorem nodup_of {s : Sx.Sr} {xs : List ZV} (h : zoneErr s xs = 0) : (namesOf s.zones s.links).Nodup := by
  have c1 : twiceE (namesOf s.zones s.links) = 0 := errs_zero h 1 (by omega)
  unfold twiceE at c1
  split at c1
  · assumption
  · cases c1
theorem there_rules {s : Sx.Sr} {xs : List ZV} (h : zoneErr s xs = 0) {e : Sx.Er} (he : e ∈ erasOf xs) (hr : e.rules ≠ []) : ∃ r ∈ s.rules, r.name = e.rules := by
  have c2 : thereE s.rules s.links xs = 0 := errs_zero h 2 (by omega)
  unfold thereE at c2
  split at c2
  · cases c2
  rename_i q
  simp only [Bool.or_eq_true, not_or] at q
  have q2 : lacksB s.rules e = false := by
    cases ee : lacksB s.rules e
    · rfl
    · exact absurd (List.any_eq_true.2 ⟨e, he, ee⟩) q.2
  unfold lacksB at q2
  have : e.rules.isEmpty = false := by simpa using hr
  rw [this] at q2
  simp only [Bool.not_false, Bool.true_and, Bool.not_eq_false'] at q2
  obtain ⟨r, h1, h2⟩ := List.any_eq_true.1 q2
  exact ⟨r, h1, by simpa using h2⟩
theorem times_there {s : Sx.Sr} {xs : List ZV} (h : zoneErr s xs = 0) {e : Sx.Er} (he : e ∈ erasOf xs) (hr : e.rules ≠ []) : Sx.timesE s.rules e.rules e.shift = 0 := by
  have c3 : askE s.rules (erasOf xs) = 0 := errs_zero h 3 (by omega)
  rcases askE_mem c3 e he with q | q
  · exact absurd q hr
  · exact q
theorem zoneZ_is {s : Sx.Sr} {xs : List ZV} {nm : Tx.Bs} (h : zoneF s xs nm = 0) : zoneZ s xs nm = (zvAt xs (nameTo s.links nm)).z := by
  unfold zoneZ findZ
  rw [show findE (zoneErr s xs) xs s.links nm = 0 from h]
  rfl
theorem zvAt_in {xs : List ZV} {n : Tx.Bs} (h : zvHas xs n = true) : zvAt xs n ∈ xs ∧ (zvAt xs n).z.name = n := by
  unfold zvHas at h
  obtain ⟨p, hp, e⟩ := List.any_eq_true.1 h
  unfold zvAt
  cases hf : xs.find? (fun p => p.z.name == n) with
  | none => rw [List.find?_eq_none] at hf; exact absurd e (hf p hp)
  | some y =>
    have h1 := List.mem_of_find?_eq_some hf
    have h2 := List.find?_some hf
    exact ⟨h1, by simpa using h2⟩
theorem era_of {xs : List ZV} {n : Tx.Bs} (h : zvHas xs n = true) {e : Sx.Er} (he : e ∈ (zvAt xs n).z.eras) : e ∈ erasOf xs := List.mem_flatMap.2 ⟨_, (zvAt_in h).1, he⟩
theorem other_same {s t b : Sx.Sr} {xs yt xb : List ZV} {nm : Tx.Bs} (hr : b.rules = s.rules ++ t.rules) (hz : xb = yt ++ xs) (hl : b.links = s.links ++ t.links) (hxs : xs.map ZV.z = s.zones) (hxb : xb.map ZV.z = b.zones)
    (h1 : zoneF s xs nm = 0) (h2 : zoneF b xb nm = 0) (hn : ∀ r ∈ s.rules, ∀ q ∈ t.rules, ¬ r.name = q.name) (at_ : Int) : localE b.rules (zoneZ b xb nm) at_ = localE s.rules (zoneZ s xs nm) at_ := by
  obtain ⟨e1, f1⟩ := zoneF_src h1
  obtain ⟨e2, f2⟩ := zoneF_src h2
  have nd := nodup_of e2
  unfold namesOf at nd
  rw [List.nodup_append] at nd
  obtain ⟨nd1, nd2, nd3⟩ := nd
  obtain ⟨i1, i2⟩ := zvAt_in f1
  have inb : nameTo s.links nm ∈ b.zones.map Sx.Zn.name := by
    rw [← i2, ← hxb, hz]
    exact List.mem_map_of_mem (List.mem_map_of_mem (List.mem_append_right _ i1))
  have eN : nameTo b.links nm = nameTo s.links nm := by
    by_cases q : nm ∈ s.links.map Sx.Lk.name
    · obtain ⟨l, hl1, hl2⟩ := List.mem_map.1 q
      have a1 : (s.links.any fun l => l.name == nm) = true := List.any_eq_true.2 ⟨l, hl1, by simpa using hl2⟩
      have a2 : (b.links.any fun l => l.name == nm) = true := List.any_eq_true.2 ⟨l, by rw [hl]; exact List.mem_append_left _ hl1, by simpa using hl2⟩
      unfold nameTo
      rw [if_pos a1, if_pos a2, hl, List.find?_append]
      cases hf : s.links.find? (fun l => l.name == nm) with
      | none => rw [List.find?_eq_none] at hf; exact absurd (by simpa using hl2) (hf l hl1)
      | some y => rfl
    · have e := nameTo_other q
      rw [e] at inb ⊢
      exact nameTo_other fun w => nd3 _ inb _ w rfl
  have eZ : zvAt xb (nameTo s.links nm) = zvAt xs (nameTo s.links nm) := by
    unfold zvAt
    rw [hz, List.find?_append]
    have : yt.find? (fun p => p.z.name == nameTo s.links nm) = none := by
      rw [List.find?_eq_none]
      intro p hp w
      have w' : p.z.name = nameTo s.links nm := by simpa using w
      rw [← hxb, hz, List.map_append, List.map_append, List.nodup_append] at nd1
      refine nd1.2.2 _ (List.mem_map_of_mem (List.mem_map_of_mem hp)) _ (List.mem_map_of_mem (List.mem_map_of_mem i1)) ?_
      rw [i2]; exact w'
    rw [this]; rfl
  have eQ : zoneZ b xb nm = zoneZ s xs nm := by rw [zoneZ_is h1, zoneZ_is h2, eN, eZ]
  rw [eQ]
  have eS : savedT b.rules (eraAt (zoneZ s xs nm) at_) at_ = savedT s.rules (eraAt (zoneZ s xs nm) at_) at_ := by
    unfold savedT
    by_cases q : (eraAt (zoneZ s xs nm) at_).rules = []
    · rw [if_pos q, if_pos q]
    · rw [if_neg q, if_neg q]
      rcases eraAt_in (zoneZ s xs nm) at_ with w | w
      · rw [w] at q; exact absurd rfl q
      · have w1 := w
        rw [zoneZ_is h1] at w1
        have m1 : eraAt (zoneZ s xs nm) at_ ∈ erasOf xs := era_of f1 (zoneZ_is h1 ▸ w)
        have w2 : eraAt (zoneZ s xs nm) at_ ∈ (zoneZ b xb nm).eras := by rw [eQ]; exact w
        have m2 : eraAt (zoneZ s xs nm) at_ ∈ erasOf xb := era_of f2 ((zoneZ_is h2) ▸ w2)
        have t1 := times_there e1 m1 q
        have t2 := times_there e2 m2 q
        obtain ⟨r, hr1, hr2⟩ := there_rules e1 m1 q
        rw [hr] at t2 ⊢
        rw [times_app (fun x hx w => hn r hr1 x hx (hr2.trans w.symm)) t1 t2]
  unfold localE
  rw [eS]
end Go.Proofs.YtkhlkohlccndgaaGreat
namespace Go.Proofs.YtkhlkohlccndgaaGreat
open Go.RowKit Go.Shelf
set_option linter.unusedVariables false
set_option linter.unusedSimpArgs false
/- all eras but the last have an end -/
def LastO : List Sx.Er → Prop
  | [] => False
  | [a] => a.opn = true
  | a :: b :: r => a.opn = false ∧ LastO (b :: r)
theorem opn_of {x : Sx.Er} {b : Bool} (h : Sx.eraE x b = 0) : x.opn = b := by
  unfold Sx.eraE at h
  split at h
  · cases h
  split at h
  · cases h
  split at h
  · cases h
  split at h
  · cases h
  split at h
  · cases h
  rename_i q
  simpa using q
theorem lastO_of : ∀ {l : List Sx.Er}, l ≠ [] → Sx.erasE l = 0 → LastO l
  | [], h, _ => absurd rfl h
  | [a], _, h => opn_of (b := true) h
  | a :: b :: r, _, h => by
    have h' : (if Sx.eraE a false ≠ 0 then Sx.eraE a false else Sx.erasE (b :: r)) = 0 := h
    by_cases q : Sx.eraE a false = 0
    · rw [if_neg (by simp [q])] at h'
      exact ⟨opn_of q, lastO_of (by simp) h'⟩
    · rw [if_pos q] at h'; exact absurd h' q
theorem lastO_zone {z : Sx.Zn} (h : Sx.zoneE z = 0) : LastO z.eras := by
  unfold Sx.zoneE at h
  split at h
  · cases h
  · rename_i q
    refine lastO_of (fun e => ?_) h
    rw [e] at q; simp at q
theorem ends_len : ∀ {l : List Sx.Er}, LastO l → (endsE l).length + 1 = l.length
  | [], h => h.elim
  | [a], h => by simp [LastO] at h; simp [endsE, h]
  | a :: b :: r, h => by
    have ih := ends_len h.2
    have e : endsE (a :: b :: r) = endAt a :: endsE (b :: r) := by simp [endsE, List.filter_cons, h.1]
    rw [e, List.length_cons, ih]; rfl
theorem ends_get : ∀ {l : List Sx.Er}, LastO l → ∀ {i : Nat} {n : Int}, (endsE l)[i]? = some n → ∃ x, l[i]? = some x ∧ x.opn = false ∧ n = endAt x
  | [], h, _, _, _ => h.elim
  | [a], h, i, n, q => by simp [LastO] at h; simp [endsE, h] at q
  | a :: b :: r, h, i, n, q => by
    have e : endsE (a :: b :: r) = endAt a :: endsE (b :: r) := by simp [endsE, List.filter_cons, h.1]
    rw [e] at q
    cases i with
    | zero => simp at q; exact ⟨a, rfl, h.1, q.symm⟩
    | succ i => obtain ⟨x, h1, h2⟩ := ends_get h.2 (i := i) (by simpa using q); exact ⟨x, by simpa using h1, h2⟩
theorem last_open : ∀ {l : List Sx.Er}, LastO l → ∀ {x : Sx.Er}, l[(endsE l).length]? = some x → x.opn = true
  | [], h, _, _ => h.elim
  | [a], h, x, q => by
    simp [LastO] at h
    simp [endsE, h] at q
    rw [← q]; exact h
  | a :: b :: r, h, x, q => by
    have e : endsE (a :: b :: r) = endAt a :: endsE (b :: r) := by simp [endsE, List.filter_cons, h.1]
    rw [e] at q
    exact last_open h.2 (by simpa using q)
/- the era at a time: the first whose end is later -/
theorem era_at : ∀ {l : List Sx.Er}, LastO l → ∀ {k : Nat} {x : Sx.Er} {at_ : Int}, l[k]? = some x → (∀ (j : Nat) (n : Int), j < k → (endsE l)[j]? = some n → n ≤ at_) → (k = (endsE l).length ∨ ∃ n, (endsE l)[k]? = some n ∧ at_ < n) →
    l.find? (fun x => x.opn || decide (at_ < endAt x)) = some x
  | [], h, _, _, _, _, _, _ => h.elim
  | [a], h, k, x, at_, hx, _, _ => by
    simp [LastO] at h
    have : k = 0 := by
      have := (List.getElem?_eq_some_iff.1 hx).1
      simp at this; exact this
    subst this
    simp at hx; subst hx
    simp [List.find?_cons, h]
  | a :: b :: r, h, k, x, at_, hx, hj, hk => by
    have e : endsE (a :: b :: r) = endAt a :: endsE (b :: r) := by simp [endsE, List.filter_cons, h.1]
    rw [e] at hj hk
    cases k with
    | zero =>
      simp at hx; subst hx
      have h1 : at_ < endAt a := by
        rcases hk with hk | ⟨n, hn, q⟩
        · simp at hk
        · simp at hn; rw [hn]; exact q
      simp [List.find?_cons, h1]
    | succ k =>
      have h0 := hj 0 (endAt a) (by omega) rfl
      have hf : (a.opn || decide (at_ < endAt a)) = false := by simp [h.1]; omega
      rw [List.find?_cons, hf]
      refine era_at h.2 (by simpa using hx) (fun j n hlt hn => hj (j + 1) n (by omega) (by simpa using hn)) ?_
      rcases hk with hk | ⟨n, hn, q⟩
      · left; simpa using hk
      · right; exact ⟨n, by simpa using hn, q⟩
theorem lastT_same {p q : Sx.Tm → Bool} : ∀ {l : List Sx.Tm}, (∀ t ∈ l, p t = q t) → lastT p l = lastT q l := by
  intro l h
  unfold lastT
  have : ∀ (l : List Sx.Tm) (a : Sx.Tm), (∀ t ∈ l, p t = q t) → l.foldl (fun a x => if p x = true then x else a) a = l.foldl (fun a x => if q x = true then x else a) a := by
    intro l
    induction l with
    | nil => intro a _; rfl
    | cons t r ih =>
      intro a h
      rw [List.foldl_cons, List.foldl_cons, h t (by simp)]
      exact ih _ fun x hx => h x (List.mem_cons_of_mem _ hx)
  exact this l zeroT h
/- what the law asks, in its own order -/
theorem steps_plain {rs : List Sx.Rl} {z : Sx.Zn} {k : Nat} {x : Sx.Er} {at_ later : Int} (ho : LastO z.eras) (hl : at_ ≤ later) (hx : z.eras[k]? = some x)
    (h1 : ∀ (j : Nat) (n : Int), j < k → (endsE z.eras)[j]? = some n → n ≤ at_) (h2 : k = (endsE z.eras).length ∨ ∃ n, (endsE z.eras)[k]? = some n ∧ later < n) :
    eraAt z at_ = x ∧ eraAt z later = x := by
  unfold eraAt
  rw [era_at ho hx h1 (h2.imp id fun ⟨n, a, b⟩ => ⟨n, a, by omega⟩), era_at ho hx (fun j n a b => by have := h1 j n a b; omega) h2]
  exact ⟨rfl, rfl⟩
theorem steps_none {rs : List Sx.Rl} {z : Sx.Zn} {x : Sx.Er} {at_ later : Int} (h1 : eraAt z at_ = x) (h2 : eraAt z later = x) (hr : x.rules = []) : localE rs z at_ = localE rs z later ∧ (localE rs z at_).save = x.save := by
  unfold localE savedT
  rw [h1, h2, if_pos hr, if_pos hr]
  exact ⟨rfl, rfl⟩
theorem steps_rules {rs : List Sx.Rl} {z : Sx.Zn} {x : Sx.Er} {at_ later : Int} (hl : at_ ≤ later) (h1 : eraAt z at_ = x) (h2 : eraAt z later = x) (hr : ¬ x.rules = [])
    (ht : ∀ (i : Nat) (t : Sx.Tm), (Sx.times rs x.rules x.shift)[i]? = some t → ¬ (at_ < t.at_ ∧ t.at_ ≤ later)) : localE rs z at_ = localE rs z later := by
  have e : lastT (fun t => decide (t.at_ ≤ at_)) (Sx.times rs x.rules x.shift) = lastT (fun t => decide (t.at_ ≤ later)) (Sx.times rs x.rules x.shift) := by
    refine lastT_same fun t hm => ?_
    obtain ⟨i, hi⟩ := List.mem_iff_getElem?.1 hm
    have := ht i t hi
    exact decide_eq_decide.2 (by omega)
  unfold localE savedT
  rw [h1, h2, if_neg hr, if_neg hr, e]
end Go.Proofs.YtkhlkohlccndgaaGreat
namespace Go.Proofs.YtkhlkohlccndgaaGreat
open Go.ChangeShapes Go.WideShapes Go.ChangeAt Go.RowKit Go.Joins
set_option linter.unusedVariables false
set_option linter.unusedSimpArgs false

theorem own : ownKnob Tryz.prog.godebug = none := by kernel_rfl
theorem laidOut : laidOutB Tryz.prog = true := by kernel_rfl
theorem cellsT_int : Tryz.prog.cellsOf 3 = 1 := by kernel_rfl
theorem cellsT_str : Tryz.prog.cellsOf 9 = 1 := by kernel_rfl
theorem cellsT_fm : Tryz.prog.cellsOf 38 = 3 := by kernel_rfl
theorem cellsT_rl : Tryz.prog.cellsOf 40 = 11 := by kernel_rfl

section
variable {H : Type} {enc : TypeId × Value → H} {w : World} {sp : Nat → Bool} {held : Bool} {fuel : Nat} {cs : List Value} {x : DataW H × List MemPlace}
theorem addT_none (b o i : Nat) : (⟨b, o, none⟩ : Addr).add i = ⟨b, o + i, none⟩ := by simp [Addr.add]
theorem blockT_of_cell {a : Addr} {v : Value} (h : w.cell? a = some v) : a.block < w.heap.size := by
  unfold World.cell? at h
  split at h
  · rename_i hb; exact (Array.getElem?_eq_some_iff.1 hb).1
  · cases h
theorem strT_of (s : ByteArray) : strV s.data.toList = .string s := by unfold strV; congr 1
set_option maxRecDepth 100000 in
theorem open_form (h : DataW.trod enc Tryz.prog w 0 sp held fuel 38 cs = some x) : ∃ a b c : Int, cs = [.int .i64 a, .int .i64 b, .int .i64 c] := by
  cases fuel with
  | zero => simp [DataW.trod] at h
  | succ n =>
    unfold DataW.trod at h
    rw [Tryz.underlying38] at h
    simp [cellsT_fm, cellsT_int, List.mapM_cons, Option.bind_eq_some_iff] at h
    obtain ⟨hlen, a1, b1, h1, l, ⟨a2, b2, h2, l3, ⟨a3, b3, h3, _⟩, _⟩, _⟩ := h
    match cs, hlen with
    | [u, v, z], _ =>
      simp at h1 h2 h3
      obtain ⟨k1, e1, _⟩ := DataW.trod_int Tryz.underlying3 h1
      obtain ⟨k2, e2, _⟩ := DataW.trod_int Tryz.underlying3 h2
      obtain ⟨k3, e3, _⟩ := DataW.trod_int Tryz.underlying3 h3
      simp at e1 e2 e3
      subst e1 e2 e3
      exact ⟨k1, k2, k3, rfl⟩
set_option maxRecDepth 100000 in
theorem open_rule (h : DataW.trod enc Tryz.prog w 0 sp held fuel 40 cs = some x) : ∃ r : Sx.Rl, cs = ruleCells r ∧ r.name.length ≤ maxLen ∧ r.letter.length ≤ maxLen := by
  cases fuel with
  | zero => simp [DataW.trod] at h
  | succ n =>
    unfold DataW.trod at h
    rw [Tryz.underlying40] at h
    simp [cellsT_rl, cellsT_int, cellsT_str, cellsT_fm, List.mapM_cons, Option.bind_eq_some_iff] at h
    obtain ⟨hlen, a1, b1, h1, _, ⟨a2, b2, h2, _, ⟨a3, b3, h3, _, ⟨a4, b4, h4, _, ⟨a5, b5, h5, _, ⟨a6, b6, h6, _, ⟨a7, b7, h7, _, ⟨a8, b8, h8, _, ⟨a9, b9, h9, _⟩, _⟩, _⟩, _⟩, _⟩, _⟩, _⟩, _⟩, _⟩ := h
    match cs, hlen with
    | [c0, c1, c2, c3, c4, c5, c6, c7, c8, c9, c10], _ =>
      simp at h1 h2 h3 h4 h5 h6 h7 h8 h9
      obtain ⟨s1, e1, _, hs1⟩ := DataW.trod_string Tryz.underlying9 h1
      obtain ⟨k2, e2, _⟩ := DataW.trod_int Tryz.underlying3 h2
      obtain ⟨k3, e3, _⟩ := DataW.trod_int Tryz.underlying3 h3
      obtain ⟨k4, e4, _⟩ := DataW.trod_int Tryz.underlying3 h4
      obtain ⟨fa, fb, fc, e5⟩ := open_form h5
      obtain ⟨k6, e6, _⟩ := DataW.trod_int Tryz.underlying3 h6
      obtain ⟨k7, e7, _⟩ := DataW.trod_int Tryz.underlying3 h7
      obtain ⟨k8, e8, _⟩ := DataW.trod_int Tryz.underlying3 h8
      obtain ⟨s9, e9, _, hs9⟩ := DataW.trod_string Tryz.underlying9 h9
      simp at e1 e2 e3 e4 e5 e6 e7 e8 e9
      obtain ⟨rfl, rfl, rfl⟩ := e5
      subst e1 e2 e3 e4 e6 e7 e8 e9
      exact ⟨⟨s1.data.toList, k2, k3, k4, fa, fb, fc, k6, k7, k8, s9.data.toList⟩, by simp only [ruleCells, strT_of], by simpa using hs1, by simpa using hs9⟩
set_option maxRecDepth 100000 in
theorem open_rules (h : DataW.trod enc Tryz.prog w 0 sp held fuel 22 cs = some x) : ∃ v l, cs = [v] ∧ RdRules w v l ∧ ∀ r ∈ l, r.name.length ≤ maxLen ∧ r.letter.length ≤ maxLen := by
  rcases Deep.open_slice Tryz.underlying22 h with ⟨rfl, _⟩ | ⟨a, len, cap, m, n, D, Pl, rfl, _, hl, hm, hmm, _, hc⟩
  · exact ⟨_, [], rfl, rd_nil, by simp⟩
  · have hlm : len ≤ m := by rw [hmm]; split <;> omega
    rw [cellsT_rl] at hc
    have key : ∀ i, i < len → ∃ c : Sx.Rl, (c.name.length ≤ maxLen ∧ c.letter.length ≤ maxLen) ∧ w.cells? 0 (a.add (i * 11)) 11 = some (ruleCells c) := by
      intro i hi
      obtain ⟨cs', h1, h2⟩ := hc i (by omega)
      obtain ⟨c, rfl, hs⟩ := open_rule h2
      exact ⟨c, hs, h1⟩
    have : Inhabited Sx.Rl := ⟨⟨[], 0, 0, 0, 0, 0, 0, 0, 0, 0, []⟩⟩
    obtain ⟨L, hL⟩ := Deep.choose_lt key
    refine ⟨_, (List.range len).map L, rfl, ⟨some a, cap, by simp, fun hn => ?_⟩, ?_⟩
    · have h0 : 0 < len := by
        rcases Nat.eq_zero_or_pos len with q | q
        · subst q; simp at hn
        · exact q
      obtain ⟨b, off, spot⟩ := a
      obtain ⟨_, _, g0⟩ := World.cells?_some (hL 0 h0).2
      have c0 := g0 0 (by decide)
      have hs : spot = none := by simpa [Addr.add] using World.cell?_spot c0
      subst hs
      simp only [addT_none] at c0 hL
      refine ⟨b, off, rfl, blockT_of_cell c0, fun i c hi k u hu => ?_⟩
      have hi' : i < len := by
        have := (List.getElem?_eq_some_iff.1 hi).1
        simpa using this
      simp [hi'] at hi
      subst hi
      obtain ⟨_, _, gi⟩ := World.cells?_some (hL i hi').2
      have hk := (List.getElem?_eq_some_iff.1 hu).1
      have := gi k hk
      rw [addT_none] at this
      rw [this]
      exact hu
    · intro c hc'
      simp at hc'
      obtain ⟨i, hi, rfl⟩ := hc'
      exact (hL i hi).1
/- .. as an argument -/
set_option maxRecDepth 100000 in
theorem open_rules_arg {W : World} {base : Nat} {v : Value} {d : DataW H} {p : List MemPlace} (hv : Value.okWide Tryz.prog W .any base 22 v) (h : DataW.Trod enc Tryz.prog W 0 (fun _ => true) true 22 v d p) :
    (∃ l, RdRules W v l ∧ ∀ r ∈ l, r.name.length ≤ maxLen ∧ r.letter.length ≤ maxLen) ∧ ∀ x ∈ p, x.block < W.heap.size := by
  obtain ⟨a, len, cap, rfl⟩ := okWide_slice Tryz.underlying22 hv
  obtain ⟨m, hm⟩ := h
  refine ⟨?_, DataW.trod_lt m _ _ _ hm⟩
  obtain ⟨u, l, e, hr, hs⟩ := open_rules hm
  simp [Value.cells] at e
  subst e
  exact ⟨l, hr, hs⟩
set_option maxRecDepth 100000 in
theorem rules_stay {W W' : World} {v : Value} {d : DataW H} {p : List MemPlace} (h : DataW.Trod enc Tryz.prog W 0 (fun _ => true) true 22 v d p) (bel : Below W.heap.size W W') (lt0 : ∀ x ∈ p, x.block < W.heap.size) : DataW.Trod enc Tryz.prog W' 0 (fun b => decide (b < W.heap.size)) true 22 v d p :=
  Below.trod laidOut (by kernel_rfl) (of_decide_eq_true (by kernel_rfl)) h bel lt0
end
end Go.Proofs.YtkhlkohlccndgaaGreat
namespace Go.Proofs.YtkhlkohlccndgaaGreat
open Go.ChangeShapes Go.WideShapes Go.ChangeAt Go.RowKit Go.Joins Go.Shelf
set_option linter.unusedVariables false
set_option linter.unusedSimpArgs false

theorem cellsT_bool : Tryz.prog.cellsOf 4 = 1 := by kernel_rfl
theorem cellsT_dt : Tryz.prog.cellsOf 63 = 3 := by kernel_rfl
theorem cellsT_ut : Tryz.prog.cellsOf 65 = 5 := by kernel_rfl
theorem cellsT_er : Tryz.prog.cellsOf 67 = 10 := by kernel_rfl
theorem cellsT_ers : Tryz.prog.cellsOf 42 = 1 := by kernel_rfl
theorem cellsT_zn : Tryz.prog.cellsOf 44 = 2 := by kernel_rfl
theorem cellsT_lk : Tryz.prog.cellsOf 35 = 2 := by kernel_rfl
theorem cellsT_rls : Tryz.prog.cellsOf 22 = 1 := by kernel_rfl
theorem cellsT_zns : Tryz.prog.cellsOf 23 = 1 := by kernel_rfl
theorem cellsT_lks : Tryz.prog.cellsOf 24 = 1 := by kernel_rfl
theorem cellsT_src : Tryz.prog.cellsOf 26 = 3 := by kernel_rfl

section
variable {H : Type} {enc : TypeId × Value → H} {w : World} {sp : Nat → Bool} {held : Bool} {fuel : Nat} {cs : List Value} {x : DataW H × List MemPlace}
/- a list whose elements lie cell by cell -/
theorem open_list {α : Type} (dflt : α) {T e : TypeId} {z : Nat} {cells : α → List Value} {Pr : α → Prop} (hT : Tryz.prog.underlying T = some (.slice e)) (hz : Tryz.prog.cellsOf e = z) (hz0 : 0 < z) (hcl : ∀ c, (cells c).length = z)
    (hel : ∀ (n : Nat) (cs : List Value) (y : DataW H × List MemPlace), DataW.trod enc Tryz.prog w 0 sp held n e cs = some y → ∃ c, cs = cells c ∧ Pr c)
    (h : DataW.trod enc Tryz.prog w 0 sp held fuel T cs = some x) : ∃ a n cap l, cs = [.slice a n cap] ∧ n = l.length ∧ Rd z cells w (.slice a n cap) l ∧ n ≤ cap ∧ cap ≤ maxLen ∧ ∀ c ∈ l, Pr c := by
  rcases Deep.open_slice hT h with ⟨rfl, _⟩ | ⟨a, len, cap, m, n, D, Pl, rfl, _, hl, hm, hmm, _, hc⟩
  · exact ⟨none, 0, 0, [], rfl, rfl, rd_nil, Nat.le_refl _, Nat.zero_le _, by simp⟩
  · have hlm : len ≤ m := by rw [hmm]; split <;> omega
    rw [hz] at hc
    have key : ∀ i, i < len → ∃ c : α, Pr c ∧ w.cells? 0 (a.add (i * z)) z = some (cells c) := by
      intro i hi
      obtain ⟨cs', h1, h2⟩ := hc i (by omega)
      obtain ⟨c, rfl, hs⟩ := hel _ _ _ h2
      exact ⟨c, hs, h1⟩
    have : Inhabited α := ⟨dflt⟩
    obtain ⟨L, hL⟩ := Deep.choose_lt key
    refine ⟨some a, len, cap, (List.range len).map L, rfl, by simp, ⟨some a, cap, by simp, fun hn => ?_⟩, by omega, by omega, ?_⟩
    · have h0 : 0 < len := by
        rcases Nat.eq_zero_or_pos len with q | q
        · subst q; simp at hn
        · exact q
      obtain ⟨b, off, spot⟩ := a
      obtain ⟨_, _, g0⟩ := World.cells?_some (hL 0 h0).2
      have c0 : w.cell? (((⟨b, off, spot⟩ : Addr).add (0 * z)).add 0) = some ((cells (L 0))[0]'(by rw [hcl]; exact hz0)) := (g0 0 hz0).trans (List.getElem?_eq_getElem _)
      have hs : spot = none := by simpa [Addr.add] using World.cell?_spot c0
      subst hs
      simp only [addT_none] at c0 hL
      refine ⟨b, off, rfl, blockT_of_cell c0, fun i c hi k u hu => ?_⟩
      have hi' : i < len := by
        have := (List.getElem?_eq_some_iff.1 hi).1
        simpa using this
      simp [hi'] at hi
      subst hi
      obtain ⟨_, _, gi⟩ := World.cells?_some (hL i hi').2
      have hk := (List.getElem?_eq_some_iff.1 hu).1
      have := gi k (by rw [← hcl (L i)]; exact hk)
      rw [addT_none] at this
      rw [this]
      exact hu
    · intro c hc'
      simp at hc'
      obtain ⟨i, hi, rfl⟩ := hc'
      exact (hL i hi).1
set_option maxRecDepth 100000 in
theorem open_dateC (h : DataW.trod enc Tryz.prog w 0 sp held fuel 63 cs = some x) : ∃ a b c : Int, cs = [.int .i64 a, .int .i64 b, .int .i64 c] := by
  cases fuel with
  | zero => simp [DataW.trod] at h
  | succ n =>
    unfold DataW.trod at h
    rw [Tryz.underlying63] at h
    simp [cellsT_dt, cellsT_int, List.mapM_cons, Option.bind_eq_some_iff] at h
    obtain ⟨hlen, a1, b1, h1, l, ⟨a2, b2, h2, l3, ⟨a3, b3, h3, _⟩, _⟩, _⟩ := h
    match cs, hlen with
    | [u, v, z], _ =>
      simp at h1 h2 h3
      obtain ⟨k1, e1, _⟩ := DataW.trod_int Tryz.underlying3 h1
      obtain ⟨k2, e2, _⟩ := DataW.trod_int Tryz.underlying3 h2
      obtain ⟨k3, e3, _⟩ := DataW.trod_int Tryz.underlying3 h3
      simp at e1 e2 e3
      subst e1 e2 e3
      exact ⟨k1, k2, k3, rfl⟩
set_option maxRecDepth 100000 in
theorem open_until (h : DataW.trod enc Tryz.prog w 0 sp held fuel 65 cs = some x) : ∃ a b c d e : Int, cs = [.int .i64 a, .int .i64 b, .int .i64 c, .int .i64 d, .int .i64 e] := by
  cases fuel with
  | zero => simp [DataW.trod] at h
  | succ n =>
    unfold DataW.trod at h
    rw [Tryz.underlying65] at h
    simp [cellsT_ut, cellsT_dt, cellsT_int, List.mapM_cons, Option.bind_eq_some_iff] at h
    obtain ⟨hlen, a1, b1, h1, l, ⟨a2, b2, h2, l3, ⟨a3, b3, h3, _⟩, _⟩, _⟩ := h
    match cs, hlen with
    | [u, v, z, y, s], _ =>
      simp at h1 h2 h3
      obtain ⟨a, b, c, e1⟩ := open_dateC h1
      obtain ⟨k2, e2, _⟩ := DataW.trod_int Tryz.underlying3 h2
      obtain ⟨k3, e3, _⟩ := DataW.trod_int Tryz.underlying3 h3
      simp at e1 e2 e3
      obtain ⟨rfl, rfl, rfl⟩ := e1
      subst e2 e3
      exact ⟨a, b, c, k2, k3, rfl⟩
set_option maxRecDepth 100000 in
theorem open_era (h : DataW.trod enc Tryz.prog w 0 sp held fuel 67 cs = some x) : ∃ r : Sx.Er, cs = eraCells r ∧ r.rules.length ≤ maxLen ∧ r.format.length ≤ maxLen := by
  cases fuel with
  | zero => simp [DataW.trod] at h
  | succ n =>
    unfold DataW.trod at h
    rw [Tryz.underlying67] at h
    simp [cellsT_er, cellsT_int, cellsT_str, cellsT_bool, cellsT_ut, List.mapM_cons, Option.bind_eq_some_iff] at h
    obtain ⟨hlen, a1, b1, h1, _, ⟨a2, b2, h2, _, ⟨a3, b3, h3, _, ⟨a4, b4, h4, _, ⟨a5, b5, h5, _, ⟨a6, b6, h6, _⟩, _⟩, _⟩, _⟩, _⟩, _⟩ := h
    match cs, hlen with
    | [c0, c1, c2, c3, c4, c5, c6, c7, c8, c9], _ =>
      simp at h1 h2 h3 h4 h5 h6
      obtain ⟨k1, e1, _⟩ := DataW.trod_int Tryz.underlying3 h1
      obtain ⟨s2, e2, _, hs2⟩ := DataW.trod_string Tryz.underlying9 h2
      obtain ⟨k3, e3, _⟩ := DataW.trod_int Tryz.underlying3 h3
      obtain ⟨s4, e4, _, hs4⟩ := DataW.trod_string Tryz.underlying9 h4
      obtain ⟨b5, e5, _⟩ := DataW.trod_bool Tryz.underlying4 h5
      obtain ⟨ua, ub, uc, ud, ue, e6⟩ := open_until h6
      simp at e1 e2 e3 e4 e5 e6
      obtain ⟨rfl, rfl, rfl, rfl, rfl⟩ := e6
      subst e1 e2 e3 e4 e5
      exact ⟨⟨k1, s2.data.toList, k3, s4.data.toList, b5, ua, ub, uc, ud, ue⟩, by simp only [eraCells, strT_of], by simpa using hs2, by simpa using hs4⟩
set_option maxRecDepth 100000 in
theorem open_link (h : DataW.trod enc Tryz.prog w 0 sp held fuel 35 cs = some x) : ∃ r : Sx.Lk, cs = linkCells r ∧ r.to.length ≤ maxLen ∧ r.name.length ≤ maxLen := by
  cases fuel with
  | zero => simp [DataW.trod] at h
  | succ n =>
    unfold DataW.trod at h
    rw [Tryz.underlying35] at h
    simp [cellsT_lk, cellsT_str, List.mapM_cons, Option.bind_eq_some_iff] at h
    obtain ⟨hlen, a1, b1, h1, _, ⟨a2, b2, h2, _⟩, _⟩ := h
    match cs, hlen with
    | [c0, c1], _ =>
      simp at h1 h2
      obtain ⟨s1, e1, _, hs1⟩ := DataW.trod_string Tryz.underlying9 h1
      obtain ⟨s2, e2, _, hs2⟩ := DataW.trod_string Tryz.underlying9 h2
      simp at e1 e2
      subst e1 e2
      exact ⟨⟨s1.data.toList, s2.data.toList⟩, by simp only [linkCells, strT_of], by simpa using hs1, by simpa using hs2⟩
/- a zone: its eras can be read, and are no more than there is room for -/
structure ZvOk (w : World) (p : ZV) : Prop where
  eras : RdEras w (.slice p.a p.z.eras.length p.c) p.z.eras
  cap : p.z.eras.length ≤ p.c
  most : p.c ≤ maxLen
  name : p.z.name.length ≤ maxLen
  texts : ∀ x ∈ p.z.eras, x.rules.length ≤ maxLen ∧ x.format.length ≤ maxLen
set_option maxRecDepth 100000 in
theorem open_zoneC (h : DataW.trod enc Tryz.prog w 0 sp held fuel 44 cs = some x) : ∃ p : ZV, cs = zvCells p ∧ ZvOk w p := by
  cases fuel with
  | zero => simp [DataW.trod] at h
  | succ n =>
    unfold DataW.trod at h
    rw [Tryz.underlying44] at h
    simp [cellsT_zn, cellsT_str, cellsT_ers, List.mapM_cons, Option.bind_eq_some_iff] at h
    obtain ⟨hlen, a1, b1, h1, _, ⟨a2, b2, h2, _⟩, _⟩ := h
    match cs, hlen with
    | [c0, c1], _ =>
      simp at h1 h2
      obtain ⟨s1, e1, _, hs1⟩ := DataW.trod_string Tryz.underlying9 h1
      obtain ⟨a, k, cap, l, e2, hk, hr, hc, hm, hp⟩ := open_list (⟨0, [], 0, [], false, 0, 0, 0, 0, 0⟩ : Sx.Er) (z := 10) (cells := eraCells) (Pr := fun x : Sx.Er => x.rules.length ≤ maxLen ∧ x.format.length ≤ maxLen) Tryz.underlying42 cellsT_er (by decide) eraCells_len (fun n cs y q => open_era q) h2
      simp at e1 e2
      subst e1 e2
      subst hk
      exact ⟨⟨⟨s1.data.toList, l⟩, a, cap⟩, by simp only [zvCells, strT_of], hr, hc, hm, by simpa using hs1, hp⟩
end
/- what is read one way can be read the other -/
theorem zip_zv : ∀ ps : List ZV, ((ps.map ZV.z).zip (ps.map zvS)).map (fun p => (p.1.name, p.2)) = ps.map fun p => (p.z.name, zvS p)
  | [] => rfl
  | a :: r => by rw [List.map_cons, List.map_cons, List.map_cons, List.zip_cons_cons, List.map_cons, zip_zv r]
theorem rdZones_zv {w : World} {v : Value} {zs : List Sx.Zn} {ps : List ZV} (h : RdZv w v zs ps) : RdZones w v zs := by
  obtain ⟨h1, h2, h3, h4⟩ := h
  subst h1
  have e := zip_zv ps
  refine ⟨ps.map zvS, by simp, ?_, ?_⟩
  · rw [e]
    obtain ⟨a, cap, q1, q2⟩ := h2
    refine ⟨a, cap, by simpa using q1, fun hn => ?_⟩
    obtain ⟨b, o, q3, q4, q5⟩ := q2 (by intro q; rw [q] at hn; simp at hn)
    refine ⟨b, o, q3, q4, fun i x hx k u hu => ?_⟩
    rw [List.getElem?_map] at hx
    cases hp : ps[i]? with
    | none => rw [hp] at hx; cases hx
    | some p =>
      rw [hp] at hx
      simp at hx
      subst hx
      exact q5 i p hp k u hu
  · intro i ev x hv hx
    rw [List.getElem?_map] at hv hx
    cases hp : ps[i]? with
    | none => rw [hp] at hx; cases hx
    | some p =>
      rw [hp] at hx hv
      simp at hx hv
      subst hx hv
      exact h3 p (List.mem_of_getElem? hp)
theorem capZs_zv {w : World} {v : Value} {zs : List Sx.Zn} {ps : List ZV} (h : RdZv w v zs ps) : CapZs w v zs := by
  obtain ⟨h1, h2, h3, h4⟩ := h
  subst h1
  intro i x b o cap hx hv ev he
  rw [List.getElem?_map] at hx
  cases hp : ps[i]? with
  | none => rw [hp] at hx; cases hx
  | some p =>
    rw [hp] at hx
    simp at hx
    subst hx
    rw [hv] at h2
    obtain ⟨b', o', e, _, hc⟩ := rd_elem h2 hp
    simp only [Option.some.injEq, Addr.mk.injEq] at e
    obtain ⟨rfl, rfl, _⟩ := e
    have := hc 1 (zvS p) rfl
    rw [this] at he
    simp at he
    exact ⟨p.a, p.c, he.symm, h4 p (List.mem_of_getElem? hp)⟩
structure SrcArg (s : Sx.Sr) (xs : List ZV) (ra za la : Option Addr) (rcap zcap lcap : Nat) (w : World) : Prop where
  rmost : rcap ≤ maxLen
  zmost : zcap ≤ maxLen
  lmost : lcap ≤ maxLen
  rules : RdRules w (.slice ra s.rules.length rcap) s.rules
  zv : RdZv w (.slice za xs.length zcap) s.zones xs
  links : RdLinks w (.slice la s.links.length lcap) s.links
  size : SizedS s
  rcap : s.rules.length ≤ rcap
  zcap : xs.length ≤ zcap
  lcap : s.links.length ≤ lcap
theorem srcIn_arg {s : Sx.Sr} {xs : List ZV} {ra za la : Option Addr} {rcap zcap lcap : Nat} {m : Int} {w : World} (h : SrcArg s xs ra za la rcap zcap lcap w) (hm : w.cell? ⟨0, 0, none⟩ = some (.int .i64 m)) (h0 : 0 < w.heap.size) : SrcIn s xs ra za la rcap zcap lcap m w :=
  ⟨h.rules, rdZones_zv h.zv, capZs_zv h.zv, h.zv, h.links, h.size, hm, h0⟩
section
variable {H : Type} {enc : TypeId × Value → H}
set_option maxRecDepth 100000 in
theorem open_source_arg {W : World} {base : Nat} {v : Value} {d : DataW H} {p : List MemPlace} (hv : Value.okWide Tryz.prog W .any base 26 v) (h : DataW.Trod enc Tryz.prog W 0 (fun _ => true) true 26 v d p) :
    (∃ (s : Sx.Sr) (xs : List ZV) (ra za la : Option Addr) (rcap zcap lcap : Nat), v = .agg #[.slice ra s.rules.length rcap, .slice za xs.length zcap, .slice la s.links.length lcap] ∧ SrcArg s xs ra za la rcap zcap lcap W) ∧ ∀ x ∈ p, x.block < W.heap.size := by
  obtain ⟨cs, rfl, hsz⟩ := okWide_struct Tryz.underlying26 hv
  obtain ⟨c0, c1, c2, rfl⟩ := array3 (hsz.trans cellsT_src)
  obtain ⟨fuel, hf⟩ := h
  refine ⟨?_, DataW.trod_lt fuel _ _ _ hf⟩
  cases fuel with
  | zero => simp [DataW.trod] at hf
  | succ n =>
    unfold DataW.trod at hf
    rw [Tryz.underlying26] at hf
    simp [Value.cells, cellsT_src, cellsT_rls, cellsT_zns, cellsT_lks, List.mapM_cons, Option.bind_eq_some_iff] at hf
    obtain ⟨a1, b1, h1, l, ⟨a2, b2, h2, _, ⟨a3, b3, h3, _⟩, _⟩, _⟩ := hf
    obtain ⟨ra, k1, rc, rs, e1, hk1, hr1, hc1, hm1, hp1⟩ := open_list (⟨[], 0, 0, 0, 0, 0, 0, 0, 0, 0, []⟩ : Sx.Rl) (z := 11) (cells := ruleCells) (Pr := fun x : Sx.Rl => x.name.length ≤ maxLen ∧ x.letter.length ≤ maxLen) Tryz.underlying22 cellsT_rl (by decide) ruleCells_len (fun n cs y q => open_rule q) h1
    obtain ⟨za, k2, zc, xs, e2, hk2, hr2, hc2, hm2, hp2⟩ := open_list (⟨⟨[], []⟩, none, 0⟩ : ZV) (z := 2) (cells := zvCells) (Pr := ZvOk W) Tryz.underlying23 cellsT_zn (by decide) (fun _ => rfl) (fun n cs y q => open_zoneC q) h2
    obtain ⟨la, k3, lc, ls, e3, hk3, hr3, hc3, hm3, hp3⟩ := open_list (⟨[], []⟩ : Sx.Lk) (z := 2) (cells := linkCells) (Pr := fun x : Sx.Lk => x.to.length ≤ maxLen ∧ x.name.length ≤ maxLen) Tryz.underlying24 cellsT_lk (by decide) linkCells_len (fun n cs y q => open_link q) h3
    simp at e1 e2 e3
    subst e1 e2 e3 hk1 hk2 hk3
    refine ⟨⟨rs, xs.map ZV.z, ls⟩, xs, ra, za, la, rc, zc, lc, rfl, hm1, hm2, hm3, hr1, ⟨rfl, hr2, fun p hp => (hp2 p hp).eras, fun p hp => (hp2 p hp).cap⟩, hr3, ⟨hp1, ?_, hp3⟩, hc1, hc2, hc3⟩
    intro z hz
    obtain ⟨p, hp, rfl⟩ := List.mem_map.1 hz
    exact ⟨(hp2 p hp).name, (hp2 p hp).texts⟩
set_option maxRecDepth 100000 in
theorem source_stays {W W' : World} {v : Value} {d : DataW H} {p : List MemPlace} (h : DataW.Trod enc Tryz.prog W 0 (fun _ => true) true 26 v d p) (bel : Below W.heap.size W W') (lt0 : ∀ x ∈ p, x.block < W.heap.size) : DataW.Trod enc Tryz.prog W' 0 (fun b => decide (b < W.heap.size)) true 26 v d p :=
  Below.trod laidOut (by kernel_rfl) (of_decide_eq_true (by kernel_rfl)) h bel lt0
end
end Go.Proofs.YtkhlkohlccndgaaGreat
namespace Go.Proofs.YtkhlkohlccndgaaGreat
open Go.RowKit
set_option linter.unusedVariables false
theorem named_new (w : World) (a : Array Value) (t : TypeId) : ∃ y, w.alloc (.cells a t) = y ∧ CellsAt y w.heap.size a.toList ∧ Below w.heap.size w y ∧ y.heap.size = w.heap.size + 1 :=
  ⟨_, rfl, by have := ca_new w a.toList t; simpa using this, (Below.refl _ w).alloc (Nat.le_refl _) _, by simp⟩
theorem below_on {N : Nat} {w a b : World} (h : Below N w a) (hN : N ≤ a.heap.size) (hb : Below a.heap.size a b) : Below N w b := h.trans (hb.mono hN)
end Go.Proofs.YtkhlkohlccndgaaGreat
