/- The text that every law begins with, parsed by the document: what parsed() answers. · The times of the text that every law begins with: plain, reckoned by the kernel. · What must be of rules in any case, is. · The contract of zone.zoneOf: the zone that a name tells. · Contracts of slices.Clone at eras, and of zone.Find. · Contracts of era.nameOf and era.Local. · The contract of zone.savedAt. · Contracts of zone.At's closure, and of zone.At. · The contract of zone.Ends, out of what Find answers. · The contract of the document's IsPlain, of any text. · Contracts of the document's LeastAt, MostAt, checkLocal. · The program's signs, and tables in memory, together. · Contracts of the program's names of times, and of table's checkLocal and checkChange. · The contract of zone.At, out of what Find answers. · Contracts of zone.Find, Ends, At at every source. · Small laws for the walks of the laws. · A maker of a table: what it puts, in plain terms; and in memory. · The contracts of the maker's last and put. · The contract of the maker's times. · The contract of the maker's era. · The contract of the maker's zone. · Contracts of slices.ContainsFunc over changes, and of the maker's check. · The contract of table.Compile at every source. · A source that a call has made, as zone's functions find it; what they answer of the fixed text. -/
import Derived.Test.YtkhlkohlccndgaaGreatQz
import Derived.Test.YtkhlkohlccndgaaGreatQak
import Derived.Test.YtkhlkohlccndgaaGreatQag
import Derived.Test.YtkhlkohlccndgaaGreatQah
import Derived.Test.YtkhlkohlccndgaaGreatQaf
import Derived.Test.YtkhlkohlccndgaaGreatQae
import Derived.Lib.SliceRun
import Derived.Test.YtkhlkohlccndgaaGreatQaa
import Derived.Test.YtkhlkohlccndgaaGreatQab
import Derived.Deep.DeepCutAuto
set_option linter.unusedVariables false
set_option linter.unusedSimpArgs false
set_option maxRecDepth 100000
set_option maxHeartbeats 16000000
namespace Go.Proofs.YtkhlkohlccndgaaGreat
open Go.RowKit

def textB : Tx.Bs := [82, 117, 108, 101, 32, 101, 117, 32, 49, 57, 56, 49, 32, 109, 97, 120, 32, 77, 97, 114, 32, 108, 97, 115, 116, 83, 117, 110, 32, 49, 58, 48, 48, 117, 32, 49, 58, 48, 48, 32, 83, 10, 82, 117, 108, 101, 32, 101, 117, 32, 49, 57, 57, 54, 32, 109, 97, 120, 32, 79, 99, 116, 32, 108, 97, 115, 116, 83, 117, 110, 32, 49, 58, 48, 48, 117, 32, 48, 32, 45, 10, 90, 111, 110, 101, 32, 72, 101, 114, 101, 47, 84, 111, 119, 110, 32, 48, 58, 49, 48, 32, 45, 32, 76, 77, 84, 32, 49, 56, 56, 48, 32, 74, 97, 110, 32, 49, 32, 48, 10, 32, 32, 49, 58, 48, 48, 32, 101, 117, 32, 67, 69, 37, 115, 84, 10, 76, 105, 110, 107, 32, 72, 101, 114, 101, 47, 84, 111, 119, 110, 32, 79, 108, 100, 10]
def euB : Tx.Bs := [101, 117]
def townB : Tx.Bs := [72, 101, 114, 101, 47, 84, 111, 119, 110]
def src0 : Sx.Sr :=
 ⟨[⟨euB, 1981, 2100, 3, 2, 0, 0, 3600, 3, 3600, [83]⟩, ⟨euB, 1996, 2100, 10, 2, 0, 0, 3600, 3, 0, []⟩],
  [⟨townB, [⟨600, [], 0, [76, 77, 84], false, 1880, 1, 1, 0, 2⟩, ⟨3600, euB, 0, [67, 69, 37, 115, 84], true, 0, 0, 0, 0, 0⟩]⟩],
  [⟨townB, [79, 108, 100]⟩]⟩
theorem parse_text : Sx.parse textB = ⟨src0, 0, 0⟩ := by kernel_rfl
theorem parsed_any (w : World) :
  Calls Tryz.prog 41 #[] w fun e w' => ∃ r z l, e = .returned (.agg #[r, z, l]) ∧ OwnSrc w' w.heap.size r z l src0 ∧ Below w.heap.size w w' := by
 have RX0 := hid (ca_new w [nilS, nilS, nilS] 26)
 have BW0 := hid ((Below.refl w.heap.size w).alloc (Nat.le_refl _) (.cells [nilS, nilS, nilS].toArray 26))
 go_enter Tryz.func41, Tryz.ntmps41
 go_wp2_with fail
 refine (parseOf_any _ _).mono ?_
 intro e w1 h
 have h2 : ParseEnd textB (w.alloc (.cells #[.slice none 0 0, .slice none 0 0, .slice none 0 0] 26)) e w1 := h
 clear h
 obtain ⟨⟨r, z, l, rfl, hown⟩, hb⟩ := h2
 rw [parse_text] at hown ⊢
 have hown2 : OwnSrc w1 (w.heap.size + 1) r z l src0 := by simpa using hown
 have H := hid hown2
 have B1 : Hid (Below w.heap.size w w1) := BW0.out.trans (hb.mono BW0.out.size)
 have R1 := hid (ca_below RX0.out hb)
 obtain ⟨ra, rcap, rfl⟩ := owns_shape0 hown2.rules
 obtain ⟨za, zcap, rfl⟩ := ownSrc_zs hown2
 obtain ⟨la, lcap, rfl⟩ := owns_shape0 hown2.links
 clear hown hown2 hb RX0 BW0
 obtain ⟨r0, rf0⟩ := ca_at R1.out 0 rfl
 obtain ⟨r1, rf1⟩ := ca_at R1.out 1 rfl
 obtain ⟨r2, rf2⟩ := ca_at R1.out 2 rfl
 have hR := R1.out.1
 go_wp2
 refine bodyPost_ret (v := .agg #[.slice ra src0.rules.length rcap, .slice za src0.zones.length zcap, .slice la src0.links.length lcap]) (by simp [results, Tryz.results41, go_sem, *]) rfl ⟨_, _, _, rfl, ?_, ?_⟩
 ·exact own_base (ownSrc_below (ownSrc_far (ownSrc_far (ownSrc_far H.out (by omega)) (by omega)) (by omega)) ((Below.refl _ _).alloc (Nat.le_refl _) _)) (by omega)
 ·exact (below_set (below_set (below_set B1.out (Nat.le_refl _) _) (Nat.le_refl _) _) (Nat.le_refl _) _).alloc (by have := B1.out.size; simpa using this) _
end Go.Proofs.YtkhlkohlccndgaaGreat
namespace Go.Proofs.YtkhlkohlccndgaaGreat

def usB : Tx.Bs := [117, 115]
theorem eu_ok : Sx.timesE src0.rules euB 3600 = 0 := by kernel_rfl
theorem us_none : Sx.timesE src0.rules usB 3600 = 5 := by kernel_rfl
theorem eu_len : (Sx.times src0.rules euB 3600).length = 225 := by kernel_rfl
theorem eu_15 : (Sx.times src0.rules euB 3600)[15]? = some ⟨828234000, 3600, [83]⟩ := by kernel_rfl
theorem src0_sized : ∀ r ∈ src0.rules, r.name.length ≤ maxLen ∧ r.letter.length ≤ maxLen := by
 intro r hr
 simp [src0, euB] at hr
 rcases hr with rfl | rfl <;> simp [maxLen]
end Go.Proofs.YtkhlkohlccndgaaGreat
namespace Go.Proofs.YtkhlkohlccndgaaGreat
open Go.RowKit

theorem rd_time {w : World} {b o i : Nat} {t : Sx.Tm} (h : ∀ k u, (timeC t)[k]? = some u → w.cell? ⟨b, o + i * 3 + k, none⟩ = some u) :
  w.cell? ⟨b, o + i * 3, none⟩ = some (.int .i64 t.at_) ∧ w.cell? ⟨b, o + i * 3 + 1, none⟩ = some (.int .i64 t.save) ∧ w.cell? ⟨b, o + i * 3 + 2, none⟩ = some (strV t.letter) :=
 ⟨h 0 _ rfl, h 1 _ rfl, h 2 _ rfl⟩
theorem ownTimes_rd {w : World} {B : Nat} {v : Value} {l : List Sx.Tm} (h : OwnTimes w B v l) : RdTimes w v l := own_rd (fun _ => rfl) h
theorem ruleBegun_is (w : World) : Calls Tryz.prog 27 #[] w fun e w' => e = .returned (.bool true) ∧ Below w.heap.size w w' := by
 have HE := hid eu_ok
 have HU := hid us_none
 have HL := hid eu_len
 have H15 := hid eu_15
 have HS := hid src0_sized
 have hfd : ∀ (r z l : Value) (w : World), (Instr.field 26 (.agg #[r, z, l]) 0).run Tryz.prog w = .ok r w := fun _ _ _ _ => by kernel_rfl
 go_enter Tryz.func27, Tryz.ntmps27
 go_wp2_with fail
 refine (parsed_any _).mono ?_
 rintro e w1 ⟨r, z, l, rfl, hown, hb⟩
 have B1 := hid hb
 have R1 := hid (ownSrc_rd hown).rules
 obtain ⟨ra, rc, rfl⟩ := rd_shape R1.out
 clear hown hb
 go_wp2_with fail
 refine (times_any src0.rules _ euB 3600 w1 R1.out HS.out).mono ?_
 rintro e w2 ⟨v, rfl, hown, hb⟩
 rw [HE.out]
 have T2 := hid (ownTimes_rd hown)
 have B2 : Hid (Below w.heap.size w w2) := B1.out.trans (hb.mono B1.out.size)
 clear hown hb B1 R1
 go_wp2_with fail
 refine (parsed_any _).mono ?_
 rintro e w3 ⟨r, z, l, rfl, hown, hb⟩
 have T3 := hid (rd_below T2.out hb)
 have B3 : Hid (Below w.heap.size w w3) := B2.out.trans (hb.mono B2.out.size)
 have R3 := hid (ownSrc_rd hown).rules
 obtain ⟨ra, rc, rfl⟩ := rd_shape R3.out
 clear hown hb B2 T2
 go_wp2_with fail
 refine (times_any src0.rules _ usB 3600 w3 R3.out HS.out).mono ?_
 rintro e w4 ⟨v', rfl, hown, hb⟩
 rw [HU.out]
 have T4 := hid (rd_below T3.out hb)
 have B4 : Hid (Below w.heap.size w w4) := B3.out.trans (hb.mono B3.out.size)
 obtain ⟨ta, tc, rfl⟩ := rd_shape T4.out
 obtain ⟨ua, uc, rfl⟩ := owns_shape0 hown
 clear hown hb B3 T3 R3
 obtain ⟨rb, ro, rfl, hrb, hc⟩ := rd_elem T4.out H15.out
 obtain ⟨c0, c1, c2⟩ := rd_time hc
 dsimp only at c0 c1 c2
 rw [HL.out]
 clear T4 hc
 go_wp2
 go_ret
 exact ⟨rfl, B4.out⟩
end Go.Proofs.YtkhlkohlccndgaaGreat
namespace Go.Proofs.YtkhlkohlccndgaaGreat
open Go.RowKit Go.Shelf
attribute [local go_sem] Oper.semAt_some

theorem zoneOf1_any (x : Sx.Lk) (B : Nat) (nm : Tx.Bs) (w : World) (hB : B < w.heap.size) (h : w.cell? ⟨B, 0, none⟩ = some (strV nm)) :
  Calls Tryz.prog 116 #[linkV x, .pointer (some ⟨B, 0, none⟩)] w fun e w' => e = .returned (.bool (x.name == nm)) ∧ Below w.heap.size w w' := by
 have BV := hid ((Below.refl w.heap.size w).alloc (Nat.le_refl _) (.cells (linkCells x).toArray 35))
 have XV := ca_new w (linkCells x) 35
 obtain ⟨x0, _⟩ := ca_at XV 1 rfl
 have y0 := (BV.out.cell (p := ⟨B, 0, none⟩) hB).trans h
 have sx := XV.1
 have sB : B < (w.alloc (.cells (linkCells x).toArray 35)).heap.size := Nat.lt_of_lt_of_le hB BV.out.size
 clear XV
 go_enter Tryz.func116, Tryz.ntmps116
 go_wp2
 go_ret
 exact ⟨rfl, BV.out⟩
theorem zoneOf2_any (x : ZV) (B : Nat) (nm : Tx.Bs) (w : World) (hB : B < w.heap.size) (h : w.cell? ⟨B, 0, none⟩ = some (strV nm)) :
  Calls Tryz.prog 118 #[zvV x, .pointer (some ⟨B, 0, none⟩)] w fun e w' => e = .returned (.bool (x.z.name == nm)) ∧ Below w.heap.size w w' := by
 have BV := hid ((Below.refl w.heap.size w).alloc (Nat.le_refl _) (.cells (zvCells x).toArray 44))
 have XV := ca_new w (zvCells x) 44
 obtain ⟨x0, _⟩ := ca_at XV 0 rfl
 have y0 := (BV.out.cell (p := ⟨B, 0, none⟩) hB).trans h
 have sx := XV.1
 have sB : B < (w.alloc (.cells (zvCells x).toArray 44)).heap.size := Nat.lt_of_lt_of_le hB BV.out.size
 clear XV
 go_enter Tryz.func118, Tryz.ntmps118
 go_wp2
 go_ret
 exact ⟨rfl, BV.out⟩
/- the name that a name stands for; the zone of that name -/
def nameTo (ls : List Sx.Lk) (nm : Tx.Bs) : Tx.Bs := if ls.any (fun l => l.name == nm) = true then ((ls.find? fun l => l.name == nm).getD zeroL).to else nm
def zvAt (xs : List ZV) (nm : Tx.Bs) : ZV := (xs.find? fun p => p.z.name == nm).getD zeroZ
def zvHas (xs : List ZV) (nm : Tx.Bs) : Bool := xs.any fun p => p.z.name == nm
theorem zoneOf_any (nm : Tx.Bs) (zs : List Sx.Zn) (ls : List Sx.Lk) (xs : List ZV) (ra za la : Option Addr) (n1 rcap zcap lcap : Nat) (w : World) (h2 : RdZv w (.slice za xs.length zcap) zs xs) (h3 : RdLinks w (.slice la ls.length lcap) ls)
  (hx : xs.length ≤ 10000) (hl : ls.length ≤ 10000) :
  Calls Tryz.prog 54 #[.agg #[.slice ra n1 rcap, .slice za xs.length zcap, .slice la ls.length lcap], strV nm] w fun e w' => e = .returned (.tuple #[zvV (zvAt xs (nameTo ls nm)), .bool (zvHas xs (nameTo ls nm))]) ∧ Below w.heap.size w w' := by
 have hzz : (ZV.z zeroZ) = ⟨[], []⟩ := rfl
 obtain ⟨V, hV⟩ : ∃ V, ((w.alloc (.cells #[.slice ra n1 rcap, .slice za xs.length zcap, .slice la ls.length lcap] 26)).alloc (.cells #[strV nm] 9)).alloc (.cells #[.string ⟨#[]⟩, .slice none 0 0] 44) = V := ⟨_, rfl⟩
 have XS := ca_alloc (ca_alloc (ca_new w [.slice ra n1 rcap, .slice za xs.length zcap, .slice la ls.length lcap] 26) (.cells #[strV nm] 9)) (.cells #[.string ⟨#[]⟩, .slice none 0 0] 44)
 have XN := ca_alloc (ca_new (w.alloc (.cells #[.slice ra n1 rcap, .slice za xs.length zcap, .slice la ls.length lcap] 26)) [strV nm] 9) (.cells #[.string ⟨#[]⟩, .slice none 0 0] 44)
 have XZ := ca_new ((w.alloc (.cells #[.slice ra n1 rcap, .slice za xs.length zcap, .slice la ls.length lcap] 26)).alloc (.cells #[strV nm] 9)) [.string ⟨#[]⟩, .slice none 0 0] 44
 have BV : Below w.heap.size w V := by rw [← hV]; exact (((Below.refl _ w).alloc (Nat.le_refl _) _).alloc (by simp) _).alloc (by simp; omega) _
 obtain ⟨N, hN⟩ : ∃ N, w.heap.size = N := ⟨_, rfl⟩
 have hV' : ((w.alloc (.cells [.slice ra n1 rcap, .slice za xs.length zcap, .slice la ls.length lcap].toArray 26)).alloc (.cells [strV nm].toArray 9)).alloc (.cells [.string ⟨#[]⟩, .slice none 0 0].toArray 44) = V := hV
 have hV2 : ((w.alloc (.cells [.slice ra n1 rcap, .slice za xs.length zcap, .slice la ls.length lcap].toArray 26)).alloc (.cells #[strV nm] 9)).alloc (.cells #[.string ⟨#[]⟩, .slice none 0 0] 44) = V := hV
 have hV3 : ((w.alloc (.cells #[.slice ra n1 rcap, .slice za xs.length zcap, .slice la ls.length lcap] 26)).alloc (.cells [strV nm].toArray 9)).alloc (.cells #[.string ⟨#[]⟩, .slice none 0 0] 44) = V := hV
 have hV4 : ((w.alloc (.cells #[.slice ra n1 rcap, .slice za xs.length zcap, .slice la ls.length lcap] 26)).alloc (.cells #[strV nm] 9)).alloc (.cells [.string ⟨#[]⟩, .slice none 0 0].toArray 44) = V := hV
 rw [hV2, hN] at XS
 rw [hV3] at XN
 rw [hV4] at XZ
 simp only [World.size_alloc, hN] at XN XZ
 have sN := XN.1
 have sZ := XZ.1
 obtain ⟨s1, _⟩ := ca_at XS 1 rfl
 obtain ⟨s2, _⟩ := ca_at XS 2 rfl
 obtain ⟨c0, _⟩ := ca_at XN 0 rfl
 have R2 := rdZv_below h2 BV
 have R3 := rd_below h3 BV
 have e1 : ∀ args w, (callFunc 116 args).run Tryz.prog w = .ok (.enter 116 args) w := enters_of Tryz.func116 (by kernel_rfl) rfl
 have e2 : ∀ args w, (callFunc 118 args).run Tryz.prog w = .ok (.enter 118 args) w := enters_of Tryz.func118 (by kernel_rfl) rfl
 have eL : ∀ args w, (callFunc 160 args).run Tryz.prog w = .ok (.enter 160 args) w := enters_of Tryz.func160 (by kernel_rfl) rfl
 have eZ : ∀ args w, (callFunc 161 args).run Tryz.prog w = .ok (.enter 161 args) w := enters_of Tryz.func161 (by kernel_rfl) rfl
 have C1 := hid (fun (W : World) (hW : Below V.heap.size V W) =>
  let hWL : Below W.heap.size W (W.alloc (.cells #[.slice la ls.length lcap] 24)) := (Below.refl W.heap.size W).alloc (Nat.le_refl _) _
  let hVL : Below V.heap.size V (W.alloc (.cells #[.slice la ls.length lcap] 24)) := hW.trans (hWL.mono hW.size)
  firstL_any 160 116 #[.pointer (some ⟨W.heap.size, 0, none⟩)] #[.pointer (some ⟨N + 1, 0, none⟩)] (fun l => l.name == nm) ls (W.alloc (.cells #[.slice la ls.length lcap] 24)) eL e1
   (fun w1 hw1 => valsL_seq 3 W.heap.size (by omega) ls la lcap (W.alloc (.cells #[.slice la ls.length lcap] 24)) w1 (rd_below R3 hVL) hl ((hw1.cell (p := ⟨W.heap.size, 0, none⟩) (by simp)).trans (ca_at (ca_new W [.slice la ls.length lcap] 24) 0 rfl).1) (Nat.lt_of_lt_of_le (by simp) hw1.size) hw1)
   (fun x _ W' hW' => by
    have hh := hVL.trans (hW'.mono hVL.size)
    exact zoneOf1_any x (N + 1) nm W' (Nat.lt_of_lt_of_le sN hh.size) ((hh.cell (p := ⟨N + 1, 0, none⟩) sN).trans c0)))
 have C2 := hid (fun (W : World) (nm : Tx.Bs) (hW : Below w.heap.size w W) (hc : W.cell? ⟨N + 1, 0, none⟩ = some (strV nm)) (hl : N + 1 < W.heap.size) =>
  let hWL : Below W.heap.size W (W.alloc (.cells #[.slice za xs.length zcap] 23)) := (Below.refl W.heap.size W).alloc (Nat.le_refl _) _
  let hVL : Below w.heap.size w (W.alloc (.cells #[.slice za xs.length zcap] 23)) := hW.trans (hWL.mono hW.size)
  firstZ_any 161 118 #[.pointer (some ⟨W.heap.size, 0, none⟩)] #[.pointer (some ⟨N + 1, 0, none⟩)] (fun p => p.z.name == nm) xs (W.alloc (.cells #[.slice za xs.length zcap] 23)) eZ e2
   (fun w1 hw1 => valsZ_seq 3 W.heap.size (by omega) xs za zcap (W.alloc (.cells #[.slice za xs.length zcap] 23)) w1 (rdZv_below h2 hVL).rd hx ((hw1.cell (p := ⟨W.heap.size, 0, none⟩) (by simp)).trans (ca_at (ca_new W [.slice za xs.length zcap] 23) 0 rfl).1) (Nat.lt_of_lt_of_le (by simp) hw1.size) hw1)
   (fun x _ W' hW' => by
    have hh := hWL.trans (hW'.mono hWL.size)
    exact zoneOf2_any x (N + 1) nm W' (Nat.lt_of_lt_of_le hl hh.size) ((hh.cell (p := ⟨N + 1, 0, none⟩) hl).trans hc)))
 have HBV := hid BV
 have HXS := hid XS
 have HXN := hid XN
 have HXZ := hid XZ
 have HNN := hid hN
 have HV := hid (Below.refl V.heap.size V)
 clear R2 R3 h2 h3 hx hl e1 e2 eL eZ hV' hV2 hV3 hV4 BV XS XN XZ c0 sZ
 go_enter Tryz.func54, Tryz.ntmps54
 simp only [hN]
 go_wp2_with fail
 refine (valsL_any _ _ _ _).mono ?_
 rintro e w1 ⟨rfl, rfl⟩
 go_wp2_with fail
 refine (C1.out V HV.out).mono ?_
 rintro e w2 ⟨rfl, hb⟩
 have HB2 : Hid (Below V.heap.size V w2) := ((Below.refl V.heap.size V).alloc (Nat.le_refl _) _).trans (hb.mono (by simp))
 obtain ⟨x, hx⟩ : ∃ x, (ls.find? fun l => l.name == nm).getD zeroL = x := ⟨_, rfl⟩
 obtain ⟨A, hA⟩ : ∃ A, (ls.any fun l => l.name == nm) = A := ⟨_, rfl⟩
 rw [hx, hA]
 have HNT : Hid (nameTo ls nm = if A = true then x.to else nm) := by show _ = _; unfold nameTo; rw [hx, hA]
 have B2 : Hid (Below w.heap.size w w2) := HBV.out.trans (HB2.out.mono HBV.out.size)
 have S2 : Hid (CellsAt w2 N [.slice ra n1 rcap, .slice za xs.length zcap, .slice la ls.length lcap]) := ca_below HXS.out HB2.out
 have N2 : Hid (CellsAt w2 (N + 1) [strV nm]) := ca_below HXN.out HB2.out
 have Z2 : Hid (CellsAt w2 (N + 1 + 1) [.string ⟨#[]⟩, .slice none 0 0]) := ca_below HXZ.out HB2.out
 have sW := S2.out.1
 have nW := N2.out.1
 have zW := Z2.out.1
 obtain ⟨y1, _⟩ := ca_at S2.out 1 rfl
 obtain ⟨m0, g0⟩ := ca_at N2.out 0 rfl
 obtain ⟨q0, k0⟩ := ca_at Z2.out 0 rfl
 obtain ⟨q1, k1⟩ := ca_at Z2.out 1 rfl
 obtain ⟨K, hK⟩ : ∃ K, w2.alloc (.cells #[strV x.to, strV x.name] 35) = K := ⟨_, rfl⟩
 have HK := hid hK
 clear hb hx hA C1 HB2 s1 s2 sN HV hK
 cases A
 case false =>
  have HN2 : Hid (nameTo ls nm = nm) := by show _ = _; rw [HNT.out]; rfl
  go_wp2_with fail
  obtain ⟨W, hW⟩ : ∃ W, w2.alloc (.cells #[.string ⟨x.to.toArray⟩, .string ⟨x.name.toArray⟩] 35) = W := ⟨_, rfl⟩
  rw [hW]
  have BW : Hid (Below w.heap.size w W) := by show Below _ _ _; rw [← hW]; exact B2.out.alloc B2.out.size _
  have NW : Hid (CellsAt W (N + 1) [strV nm]) := by show CellsAt _ _ _; rw [← hW]; exact ca_alloc N2.out _
  have SW : Hid (CellsAt W N [.slice ra n1 rcap, .slice za xs.length zcap, .slice la ls.length lcap]) := by show CellsAt _ _ _; rw [← hW]; exact ca_alloc S2.out _
  have ZW : Hid (CellsAt W (N + 1 + 1) [.string ⟨#[]⟩, .slice none 0 0]) := by show CellsAt _ _ _; rw [← hW]; exact ca_alloc Z2.out _
  have CC := hid (C2.out W nm BW.out (ca_at NW.out 0 rfl).1 NW.out.1)
  clear hW S2 N2 Z2 sW nW zW y1 m0 g0 q0 k0 q1 k1 C2 HXS HXN HXZ HBV B2
  refine (valsZ_any _ _ _ _).mono ?_
  rintro e w3 ⟨rfl, rfl⟩
  go_wp2_with fail
  refine CC.out.mono ?_
  rintro e w4 ⟨rfl, hb⟩
  have HB4 : Hid (Below W.heap.size W w4) := ((Below.refl W.heap.size W).alloc (Nat.le_refl _) _).trans (hb.mono (by simp))
  have Z4 : Hid (CellsAt w4 (N + 1 + 1) [.string ⟨#[]⟩, .slice none 0 0]) := ca_below ZW.out HB4.out
  have zW := Z4.out.1
  obtain ⟨q0, k0⟩ := ca_at Z4.out 0 rfl
  obtain ⟨q1, k1⟩ := ca_at Z4.out 1 rfl
  obtain ⟨y, hy⟩ : ∃ y, (xs.find? fun p => p.z.name == nm).getD zeroZ = y := ⟨_, rfl⟩
  obtain ⟨C, hC⟩ : ∃ C, (xs.any fun p => p.z.name == nm) = C := ⟨_, rfl⟩
  rw [hy, hC]
  have E1 : Hid (zvAt xs (nameTo ls nm) = y) := by show _ = _; unfold zvAt; rw [HN2.out, hy]
  have E2 : Hid (zvHas xs (nameTo ls nm) = C) := by show _ = _; unfold zvHas; rw [HN2.out, hC]
  have BF : Hid (Below w.heap.size w w4) := BW.out.trans (HB4.out.mono BW.out.size)
  clear hb hy hC CC HN2 HNT SW NW ZW
  go_wp2
  refine bodyPost_ret (v := .tuple #[zvV y, .bool C]) (by simp [results, Tryz.results54, go_sem, zvV, *]) rfl ⟨by rw [E1.out, E2.out], ?_⟩
  have h1 : w.heap.size ≤ N + 1 + 1 := by rw [HNN.out]; omega
  have h2 := below_put (below_put BF.out h1 0 (.string ⟨y.z.name.toArray⟩)) h1 1 (.slice y.a y.z.eras.length y.c)
  rw [HNN.out] at h2
  exact h2
 case true =>
  have HN2 : Hid (nameTo ls nm = x.to) := by show _ = _; rw [HNT.out]; rfl
  go_wp2_with fail
  obtain ⟨W, hW⟩ : ∃ W, (w2.setCell ⟨N + 1, 0, none⟩ (.string ⟨x.to.toArray⟩)).alloc (.cells #[.string ⟨x.to.toArray⟩, .string ⟨x.name.toArray⟩] 35) = W := ⟨_, rfl⟩
  rw [hW]
  have BW : Hid (Below w.heap.size w W) := by show Below _ _ _; rw [← hW]; exact (below_put B2.out (by rw [HNN.out]; omega) 0 _).alloc (by simp; exact B2.out.size) _
  have NW : Hid (CellsAt W (N + 1) [strV x.to]) := by show CellsAt _ _ _; rw [← hW]; exact ca_alloc (ca_put N2.out 0 _ (by simp)) _
  have SW : Hid (CellsAt W N [.slice ra n1 rcap, .slice za xs.length zcap, .slice la ls.length lcap]) := by show CellsAt _ _ _; rw [← hW]; exact ca_alloc (ca_far S2.out (by omega)) _
  have ZW : Hid (CellsAt W (N + 1 + 1) [.string ⟨#[]⟩, .slice none 0 0]) := by show CellsAt _ _ _; rw [← hW]; exact ca_alloc (ca_far Z2.out (by omega)) _
  have CC := hid (C2.out W x.to BW.out (ca_at NW.out 0 rfl).1 NW.out.1)
  clear hW S2 N2 Z2 sW nW zW y1 m0 g0 q0 k0 q1 k1 C2 HXS HXN HXZ HBV B2
  refine (valsZ_any _ _ _ _).mono ?_
  rintro e w3 ⟨rfl, rfl⟩
  go_wp2_with fail
  refine CC.out.mono ?_
  rintro e w4 ⟨rfl, hb⟩
  have HB4 : Hid (Below W.heap.size W w4) := ((Below.refl W.heap.size W).alloc (Nat.le_refl _) _).trans (hb.mono (by simp))
  have Z4 : Hid (CellsAt w4 (N + 1 + 1) [.string ⟨#[]⟩, .slice none 0 0]) := ca_below ZW.out HB4.out
  have zW := Z4.out.1
  obtain ⟨q0, k0⟩ := ca_at Z4.out 0 rfl
  obtain ⟨q1, k1⟩ := ca_at Z4.out 1 rfl
  obtain ⟨y, hy⟩ : ∃ y, (xs.find? fun p => p.z.name == x.to).getD zeroZ = y := ⟨_, rfl⟩
  obtain ⟨C, hC⟩ : ∃ C, (xs.any fun p => p.z.name == x.to) = C := ⟨_, rfl⟩
  rw [hy, hC]
  have E1 : Hid (zvAt xs (nameTo ls nm) = y) := by show _ = _; unfold zvAt; rw [HN2.out, hy]
  have E2 : Hid (zvHas xs (nameTo ls nm) = C) := by show _ = _; unfold zvHas; rw [HN2.out, hC]
  have BF : Hid (Below w.heap.size w w4) := BW.out.trans (HB4.out.mono BW.out.size)
  clear hb hy hC CC HN2 HNT SW NW ZW
  go_wp2
  refine bodyPost_ret (v := .tuple #[zvV y, .bool C]) (by simp [results, Tryz.results54, go_sem, zvV, *]) rfl ⟨by rw [E1.out, E2.out], ?_⟩
  have h1 : w.heap.size ≤ N + 1 + 1 := by rw [HNN.out]; omega
  have h2 := below_put (below_put BF.out h1 0 (.string ⟨y.z.name.toArray⟩)) h1 1 (.slice y.a y.z.eras.length y.c)
  rw [HNN.out] at h2
  exact h2
end Go.Proofs.YtkhlkohlccndgaaGreat
namespace Go.Proofs.YtkhlkohlccndgaaGreat
open Go.RowKit Go.Shelf
attribute [local go_sem] Oper.semAt_some

theorem flat_lenG {α : Type} {z : Nat} {cells : α → List Value} (hz : ∀ x, (cells x).length = z) (l : List α) : (l.flatMap cells).length = l.length * z := by
 induction l with
 | nil => simp
 | cons x r ih => rw [List.flatMap_cons, List.length_append, ih, hz, List.length_cons, Nat.succ_mul]; omega
theorem rd_flatG {α : Type} {z : Nat} {cells : α → List Value} (hz : ∀ x, (cells x).length = z) (h0 : 0 < z) {w : World} {a : Option Addr} {n cap : Nat} {l : List α} (h : Rd z cells w (.slice a n cap) l) : ∀ ad, a = some ad → ∀ j u, (l.flatMap cells)[j]? = some u → w.cell? (ad.add j) = some u := by
 intro ad e j u hj
 subst e
 by_cases hn : l = []
 ·subst hn; simp at hj
 obtain ⟨a', cap', e1, h2⟩ := h
 obtain ⟨b, o, e2, _, hc⟩ := h2 hn
 simp only [Value.slice.injEq] at e1
 obtain ⟨rfl, _, _⟩ := e1
 simp only [Option.some.injEq] at e2
 subst e2
 have hlen := flat_lenG hz l
 have hj' := (List.getElem?_eq_some_iff.1 hj).1
 rw [hlen] at hj'
 have hq : j / z < l.length := (Nat.div_lt_iff_lt_mul h0).2 hj'
 obtain ⟨x, hx⟩ : ∃ x, l[j / z]? = some x := ⟨_, List.getElem?_eq_getElem hq⟩
 have hk : ∃ y, (cells x)[j % z]? = some y := ⟨_, List.getElem?_eq_getElem (by rw [hz]; exact Nat.mod_lt _ h0)⟩
 obtain ⟨y, hy⟩ := hk
 have hdm : j / z * z + j % z = j := Nat.div_add_mod' j z
 have := flat_get cells hz l (j / z) x hx (j % z) y hy
 rw [hdm, hj] at this
 simp at this
 subst this
 have := hc (j / z) x hx (j % z) u hy
 rw [show o + j / z * z + j % z = o + j by rw [Nat.add_assoc, hdm]] at this
 unfold Addr.add
 split
 ·rename_i q
  have q' : j = 0 := by simpa using q
  rw [q'] at this
  exact this
 ·exact this
theorem rd_none0 {α : Type} {z : Nat} {cells : α → List Value} {w : World} {n cap : Nat} {l : List α} (h : Rd z cells w (.slice none n cap) l) : l = [] := by
 obtain ⟨a', cap', e1, h2⟩ := h
 by_cases hn : l = []
 ·exact hn
 ·obtain ⟨b, o, e2, _⟩ := h2 hn
  simp only [Value.slice.injEq] at e1
  obtain ⟨rfl, _, _⟩ := e1
  cases e2
theorem clone_any (es : List Sx.Er) (ra : Option Addr) (rcap : Nat) (w : World) (h : RdEras w (.slice ra es.length rcap) es) (he : es.length ≤ 10000) :
  Calls Tryz.prog 55 #[.slice ra es.length rcap] w fun e w' => ∃ v, e = .returned v ∧ OwnEras w' w.heap.size v es ∧ Below w.heap.size w w' := by
 cases ra with
 | none =>
   obtain rfl := rd_none0 h
   clear h
   have hcmp := fun w => Lib.run_eql_slice_nil (P := Tryz.prog) w 42 67 none 0 rcap 0 0 Tryz.underlying42
   simp only [Option.isNone_none] at hcmp
   go_enter Tryz.func55, Tryz.ntmps55
   go_wp2
   go_ret
   exact ⟨_, rfl, World.ownsRow_nil _ _ _ _, Below.refl _ _⟩
 | some ad =>
   obtain ⟨i0, hi, hz0, hz1, hz2⟩ := info_parts Tryz.infoEra
   have hc := rd_flatG eraCells_len (by omega) h
   have B0 := hid ((Below.refl w.heap.size w).alloc (Nat.le_refl _) (.cells #[] 67))
   have c2 : ∀ ad', some ad = some ad' → ∀ j u, (es.flatMap eraCells)[j]? = some u → (w.alloc (.cells #[] 67)).cell? (ad'.add j) = some u := by
    intro ad' e j u hj
    have hh := rd_flatG eraCells_len (by omega) (rd_below h B0.out)
    exact hh ad' e j u hj
   have w2 : (w.alloc (.cells #[] 67)).ownsRow w.heap.size 67 10 (.slice (some ⟨w.heap.size, 0, none⟩) 0 0) 0 [] := World.ownsRow_made w #[] 0 (Nat.le_refl _) (Nat.zero_le _) (by simp)
   have f2 : (es.flatMap eraCells).length = es.length * 10 := flat_lenG eraCells_len es
   have o2 : ∀ u ∈ es.flatMap eraCells, u.oneCell' = true := by
    intro u hu
    obtain ⟨c, _, hc⟩ := List.mem_flatMap.1 hu
    exact era_one c u hc
   clear hc h
   have hcmp := fun w => Lib.run_eql_slice_nil (P := Tryz.prog) w 42 67 (some ad) es.length rcap 0 0 Tryz.underlying42
   simp only [Option.isNone_some] at hcmp
   go_enter Tryz.func55, Tryz.ntmps55
   go_wp2_with (at_builtin; refine wpList_append_any rfl (.tmp 5) (.tmp 6) 42 rfl w.heap.size 67 i0 (.agg #[.int .i64 0, .string ⟨#[]⟩, .int .i64 0, .string ⟨#[]⟩, .bool false, .int .i64 0, .int .i64 0, .int .i64 0, .int .i64 0, .int .i64 0]) 10 96 Tryz.underlying42 hi hz0 hz1 hz2 rfl (by decide) (.slice (some ⟨w.heap.size, 0, none⟩) 0 0) 0 [] rfl w2 (some ad) es.length rcap (es.flatMap eraCells) rfl f2 c2 (fun q => by cases q) o2 (by unfold maxLen; omega) (by omega) (by simp) ?_; intro v3 w3 hown hgrow)
   have O3 : Hid (OwnEras w3 w.heap.size v3 es) := by
    show World.ownsRow _ _ _ _ _ _ _
    simpa using hown
   have B3 : Hid (Below w.heap.size w w3) := Below.grown B0.out hgrow (by simp) (fun k hk => (w2.lt k hk).1)
   clear hown hgrow c2 f2 o2 w2 B0
   go_wp2
   go_ret
   exact ⟨_, rfl, O3.out, B3.out⟩
theorem set2 {w : World} {b q o : Nat} {u x y : Value} (hne : ¬ b = q) (h : w.cell? ⟨b, 0, none⟩ = some x ∧ w.cell? ⟨b, 1, none⟩ = some y) : (w.setCell ⟨q, o, none⟩ u).cell? ⟨b, 0, none⟩ = some x ∧ (w.setCell ⟨q, o, none⟩ u).cell? ⟨b, 1, none⟩ = some y := by
 have e : ∀ k, (w.setCell ⟨q, o, none⟩ u).cell? ⟨b, k, none⟩ = w.cell? ⟨b, k, none⟩ := fun k => World.cell?_of_block (Below.heap_setCell _ _ _ _ hne)
 rw [e, e]; exact h
/- what Find answers -/
def findE (E : Int) (xs : List ZV) (ls : List Sx.Lk) (nm : Tx.Bs) : Int := if E ≠ 0 then E else if zvHas xs (nameTo ls nm) = true then 0 else 5
def findZ (E : Int) (xs : List ZV) (ls : List Sx.Lk) (nm : Tx.Bs) : Sx.Zn := if findE E xs ls nm = 0 then (zvAt xs (nameTo ls nm)).z else ⟨[], []⟩
theorem zvAt_mem {xs : List ZV} {nm : Tx.Bs} (h : zvHas xs nm = true) : zvAt xs nm ∈ xs := by
 unfold zvAt
 unfold zvHas at h
 rw [List.any_eq_true] at h
 obtain ⟨x, hx, hp⟩ := h
 cases hf : xs.find? (fun p => p.z.name == nm) with
 | none => rw [List.find?_eq_none] at hf; exact absurd hp (hf x hx)
 | some y => exact List.mem_of_find?_eq_some hf
theorem find_seq (E : Int) (nm : Tx.Bs) (zs : List Sx.Zn) (ls : List Sx.Lk) (xs : List ZV) (ra za la : Option Addr) (n1 rcap zcap lcap : Nat) (w : World) (h2 : RdZv w (.slice za xs.length zcap) zs xs) (h3 : RdLinks w (.slice la ls.length lcap) ls)
  (hE : E = 0 → xs.length ≤ 10000 ∧ ls.length ≤ 10000 ∧ ∀ p ∈ xs, p.z.eras.length ≤ 10000)
  (hC : ∀ W, Below w.heap.size w W → Calls Tryz.prog 14 #[.agg #[.slice ra n1 rcap, .slice za xs.length zcap, .slice la ls.length lcap]] W fun e w' => e = .returned (.int .i64 E) ∧ Below W.heap.size W w') :
  Calls Tryz.prog 16 #[.agg #[.slice ra n1 rcap, .slice za xs.length zcap, .slice la ls.length lcap], strV nm] w fun e w' =>
   ∃ v, e = .returned (.tuple #[.agg #[strV (findZ E xs ls nm).name, v], .int .i64 (findE E xs ls nm)]) ∧ OwnEras w' w.heap.size v (findZ E xs ls nm).eras ∧ Below w.heap.size w w' := by
 have HC := hid hC
 have H2 := hid h2
 have H3 := hid h3
 have HEE := hid hE
 obtain ⟨N, hN⟩ : ∃ N, w.heap.size = N := ⟨_, rfl⟩
 obtain ⟨V, hV⟩ : ∃ V, (w.alloc (.cells #[.slice ra n1 rcap, .slice za xs.length zcap, .slice la ls.length lcap] 26)).alloc (.cells #[.string ⟨#[]⟩, .slice none 0 0] 44) = V := ⟨_, rfl⟩
 have XS := ca_alloc (ca_new w [.slice ra n1 rcap, .slice za xs.length zcap, .slice la ls.length lcap] 26) (.cells #[.string ⟨#[]⟩, .slice none 0 0] 44)
 have XZ := ca_new (w.alloc (.cells #[.slice ra n1 rcap, .slice za xs.length zcap, .slice la ls.length lcap] 26)) [.string ⟨#[]⟩, .slice none 0 0] 44
 have BV : Hid (Below w.heap.size w V) := by show Below _ _ _; rw [← hV]; exact ((Below.refl _ w).alloc (Nat.le_refl _) _).alloc (by simp) _
 have e1 : (w.alloc (.cells [.slice ra n1 rcap, .slice za xs.length zcap, .slice la ls.length lcap].toArray 26)).alloc (.cells #[.string ⟨#[]⟩, .slice none 0 0] 44) = V := hV
 have e2 : (w.alloc (.cells #[.slice ra n1 rcap, .slice za xs.length zcap, .slice la ls.length lcap] 26)).alloc (.cells [.string ⟨#[]⟩, .slice none 0 0].toArray 44) = V := hV
 rw [e1, hN] at XS
 rw [e2] at XZ
 simp only [World.size_alloc, hN] at XZ
 have HXS := hid XS
 have HXZ := hid XZ
 have HNN := hid hN
 have CC := hid (hC V BV.out)
 obtain ⟨s0, _⟩ := ca_at XS 0 rfl
 obtain ⟨s1, _⟩ := ca_at XS 1 rfl
 obtain ⟨s2, _⟩ := ca_at XS 2 rfl
 have sx := XS.1
 clear XS XZ e1 e2 hC h2 h3 hE
 go_enter Tryz.func16, Tryz.ntmps16
 simp only [hN]
 go_wp2_with fail
 refine CC.out.mono ?_
 rintro e w1 ⟨rfl, hb⟩
 have X1 := hid (ca_below HXS.out hb)
 have Z1 := hid (ca_below HXZ.out hb)
 have B1 : Hid (Below w.heap.size w w1) := BV.out.trans (hb.mono BV.out.size)
 clear s0 s1 s2 sx hb CC
 obtain ⟨s0, _⟩ := ca_at X1.out 0 rfl
 obtain ⟨s1, _⟩ := ca_at X1.out 1 rfl
 obtain ⟨s2, _⟩ := ca_at X1.out 2 rfl
 obtain ⟨q0, k0⟩ := ca_at Z1.out 0 rfl
 obtain ⟨q1, k1⟩ := ca_at Z1.out 1 rfl
 have sx := X1.out.1
 have zx := Z1.out.1
 by_cases hq : E = 0
 case neg =>
  have hq2 : (E == 0) = false := by simp [hq]
  have F1 : findE E xs ls nm = E := by unfold findE; rw [if_pos hq]
  have F2 : findZ E xs ls nm = ⟨[], []⟩ := by unfold findZ; rw [F1, if_neg hq]
  have G1 := hid F1
  have G2 := hid F2
  clear F1 F2
  go_wp2
  have h1 : w.heap.size ≤ N + 1 := by rw [HNN.out]; omega
  refine bodyPost_ret (v := .tuple #[.agg #[.string ⟨#[]⟩, .slice none 0 0], .int .i64 E]) (by simp [results, Tryz.results16, go_sem, *]) rfl ⟨.slice none 0 0, by rw [G1.out, G2.out], by rw [G2.out]; exact World.ownsRow_nil _ _ _ _, ?_⟩
  have h2 := below_put (below_put B1.out h1 0 (.string ⟨#[]⟩)) h1 1 (.slice none 0 0)
  rw [HNN.out] at h2
  exact h2
 subst hq
 obtain ⟨hx, hl, hes⟩ := HEE.out rfl
 have CZ := hid (zoneOf_any nm zs ls xs ra za la n1 rcap zcap lcap w1 (rdZv_below H2.out B1.out) (rd_below H3.out B1.out) hx hl)
 have HES := hid hes
 clear HEE hx hl hes
 go_wp2_with fail
 refine CZ.out.mono ?_
 rintro e w2 ⟨rfl, hb⟩
 have B2 : Hid (Below w.heap.size w w2) := B1.out.trans (hb.mono B1.out.size)
 have Z2 : Hid (CellsAt w2 (N + 1) [.string ⟨#[]⟩, .slice none 0 0]) := ca_below Z1.out hb
 clear s0 s1 s2 sx q0 k0 q1 k1 zx CZ hb
 obtain ⟨q0, k0⟩ := ca_at Z2.out 0 rfl
 obtain ⟨q1, k1⟩ := ca_at Z2.out 1 rfl
 have zx := Z2.out.1
 obtain ⟨C, hC⟩ : ∃ C, zvHas xs (nameTo ls nm) = C := ⟨_, rfl⟩
 have HCC := hid hC
 rw [hC]
 clear hC
 have h1 := hid (show w.heap.size ≤ N + 1 by rw [HNN.out]; omega)
 cases C
 case false =>
  have F1 : findE 0 xs ls nm = 5 := by unfold findE; rw [if_neg (by simp), HCC.out]; rfl
  have F2 : findZ 0 xs ls nm = ⟨[], []⟩ := by unfold findZ; rw [F1]; rfl
  have G1 := hid F1
  have G2 := hid F2
  clear F1 F2
  go_wp2
  refine bodyPost_ret (v := .tuple #[.agg #[.string ⟨#[]⟩, .slice none 0 0], .int .i64 5]) (by simp [results, Tryz.results16, go_sem, *]) rfl ⟨.slice none 0 0, by rw [G1.out, G2.out], by rw [G2.out]; exact World.ownsRow_nil _ _ _ _, ?_⟩
  have h2 := below_put (below_put B2.out h1.out 0 (.string ⟨#[]⟩)) h1.out 1 (.slice none 0 0)
  rw [HNN.out] at h2
  exact h2.alloc (by have := h2.size; rw [HNN.out] at this; exact this) _
 have F1 : findE 0 xs ls nm = 0 := by unfold findE; rw [if_neg (by simp), HCC.out]; rfl
 have F2 : findZ 0 xs ls nm = (zvAt xs (nameTo ls nm)).z := by unfold findZ; rw [F1]; rfl
 have HM := zvAt_mem HCC.out
 have HL := hid (HES.out _ HM)
 have RE := hid (H2.out.eras _ HM)
 obtain ⟨y, hy⟩ : ∃ y, zvAt xs (nameTo ls nm) = y := ⟨_, rfl⟩
 rw [hy] at F2 HL RE ⊢
 have G1 := hid F1
 have G2 := hid F2
 clear F1 F2 HM hy
 obtain ⟨M, hM⟩ : ∃ M, w2.heap.size = M := ⟨_, rfl⟩
 obtain ⟨V3, hV3⟩ : ∃ V3, w2.alloc (.cells #[.string ⟨y.z.name.toArray⟩, .slice y.a y.z.eras.length y.c] 44) = V3 := ⟨_, rfl⟩
 have Y3 : Hid (CellsAt V3 M [strV y.z.name, .slice y.a y.z.eras.length y.c]) := by
  show CellsAt _ _ _
  rw [← hV3, ← hM]; exact ca_new w2 [strV y.z.name, .slice y.a y.z.eras.length y.c] 44
 have Z3 : Hid (CellsAt V3 (N + 1) [.string ⟨#[]⟩, .slice none 0 0]) := by show CellsAt _ _ _; rw [← hV3]; exact ca_alloc Z2.out _
 have B3 : Hid (Below w.heap.size w V3) := by show Below _ _ _; rw [← hV3]; exact B2.out.alloc B2.out.size _
 have UU : V3.cell? ⟨M, 0, none⟩ = some (strV y.z.name) ∧ V3.cell? ⟨M, 1, none⟩ = some (.slice y.a y.z.eras.length y.c) := ⟨(ca_at Y3.out 0 rfl).1, (ca_at Y3.out 1 rfl).1⟩
 have UUd : V3.drew.cell? ⟨M, 0, none⟩ = some (strV y.z.name) ∧ V3.drew.cell? ⟨M, 1, none⟩ = some (.slice y.a y.z.eras.length y.c) := UU
 have neM : ¬ M = N + 1 := by have := zx; omega
 have CL := hid (clone_any y.z.eras y.a y.c V3.drew (rd_below RE.out (B3.out.trans ((show Below V3.heap.size V3 V3.drew from ⟨rfl, rfl, rfl, Nat.le_refl _, fun _ _ => rfl⟩).mono B3.out.size))) HL.out)
 have CL2 := hid (clone_any y.z.eras y.a y.c V3 (rd_below RE.out B3.out) HL.out)
 have sY := Y3.out.1
 have after : Hid (∀ w6, Below V3.heap.size V3 w6 → (w6.cell? ⟨M, 0, none⟩ = some (strV y.z.name) ∧ w6.cell? ⟨M, 1, none⟩ = some (.slice y.a y.z.eras.length y.c)) ∧ CellsAt w6 (N + 1) [.string ⟨#[]⟩, .slice none 0 0] ∧ Below w.heap.size w w6) := by
  intro w6 hb
  have Y6 := ca_below Y3.out hb
  exact ⟨⟨(ca_at Y6 0 rfl).1, (ca_at Y6 1 rfl).1⟩, ca_below Z3.out hb, B3.out.trans (hb.mono B3.out.size)⟩
 have S3 := hid B3.out.size
 clear q0 k0 q1 k1 zx
 have HM3 := hid hM
 go_wp2_with fail
 have UUx := hid UU
 go_region_held3 (fun w' => w'.cell? ⟨M, 0, none⟩ = some (strV y.z.name) ∧ w'.cell? ⟨M, 1, none⟩ = some (.slice y.a y.z.eras.length y.c))
  (first | with_reducible exact UU | with_reducible exact UUd | with_reducible exact UU6 | with_reducible exact set2 neM (set2 neM UU6) | go_keep)
  (first | (go_at_call 55; (with_reducible refine CL.out.mono ?_); rintro e w6 ⟨cv, rfl, O6, hb6⟩; obtain ⟨UU6, Z6, B6⟩ := after.out w6 (below_drew1 hb6); obtain ⟨q0, k0⟩ := ca_at Z6 0 rfl; obtain ⟨q1, k1⟩ := ca_at Z6 1 rfl; have zx := Z6.1; have O7 := hid O6; have B7 := hid B6; obtain ⟨ca, ccap, rfl⟩ := owns_shape0 O6; clear O6 hb6 B6))
 all_goals
  go_wp2
  have o1 : OwnEras w6 w.heap.size (.slice ca y.z.eras.length ccap) y.z.eras := owns_base O7.out S3.out
  have ne : ∀ o, Value.ownBlock (.slice ca y.z.eras.length ccap) ≠ some (⟨N + 1, o, none⟩ : Addr).block := by
   intro o q
   have h8 := (O7.out.lt _ q).1
   have h9 : V3.drew.heap.size = V3.heap.size := rfl
   have h10 := Z3.out.1
   have h11 : V3.heap.size = M + 1 := by rw [← hV3, World.size_alloc, HM3.out]
   simp only at h8
   omega
  have h2 := below_put (below_put B7.out h1.out 0 (.string ⟨y.z.name.toArray⟩)) h1.out 1 (.slice ca y.z.eras.length ccap)
  rw [HNN.out] at h2 o1
  refine bodyPost_ret (v := .tuple #[.agg #[strV y.z.name, .slice ca y.z.eras.length ccap], .int .i64 0]) (by simp [results, Tryz.results16, go_sem, *]) rfl ⟨.slice ca y.z.eras.length ccap, by rw [G1.out, G2.out], ?_, h2⟩
  rw [G2.out]
  refine ownsRow_setCell_other ?_ (ne _) _
  refine ownsRow_setCell_other ?_ (ne _) _
  exact o1
end Go.Proofs.YtkhlkohlccndgaaGreat
namespace Go.Proofs.YtkhlkohlccndgaaGreat
open Go.RowKit Go.Shelf

/- the name that a format makes of a saving and its letter -/
def nameE (fmt : Tx.Bs) (sv : Int) (lt : Tx.Bs) : Tx.Bs :=
 if (Lib.cut fmt Sx.pct).2.2 = true then (Lib.cut fmt Sx.pct).1 ++ lt ++ (Lib.cut fmt Sx.pct).2.1
 else if (Lib.cut fmt Sx.slash).2.2 = true ∧ 0 < sv then (Lib.cut fmt Sx.slash).2.1 else (Lib.cut fmt Sx.slash).1
theorem ret_str {a b : ByteArray} (h : a = b) : Ending.returned (.string a) = .returned (.string b) := by rw [h]
theorem bytes_app (a b : Tx.Bs) : (⟨a.toArray⟩ : ByteArray) ++ ⟨b.toArray⟩ = ⟨(a ++ b).toArray⟩ := by
 apply ByteArray.ext; simp
theorem nameOf_any (fmt lt : Tx.Bs) (at_ sv m : Int) (w : World) (hf : fmt.length ≤ 1000000) (hl : lt.length ≤ 1000000) (hm : w.cell? ⟨0, 0, none⟩ = some (.int .i64 m)) (h0 : 0 < w.heap.size) :
  Calls Tryz.prog 111 #[strV fmt, .agg #[.int .i64 at_, .int .i64 sv, strV lt]] w fun e w' => e = .returned (.string ⟨(nameE fmt sv lt).toArray⟩) ∧ Below w.heap.size w w' := by
 obtain ⟨V, hV⟩ : ∃ V, w.alloc (.cells #[.int .i64 at_, .int .i64 sv, strV lt] 72) = V := ⟨_, rfl⟩
 have XV : CellsAt V w.heap.size [.int .i64 at_, .int .i64 sv, strV lt] := by rw [← hV]; exact ca_new w [.int .i64 at_, .int .i64 sv, strV lt] 72
 have BV : Hid (Below w.heap.size w V) := by show Below _ _ _; rw [← hV]; exact (Below.refl _ w).alloc (Nat.le_refl _) _
 have mV : V.cell? ⟨0, 0, none⟩ = some (.int .i64 m) := (BV.out.cell (p := ⟨0, 0, none⟩) h0).trans hm
 have C1 := hid (cut_any fmt Sx.pct m V (by omega) mV)
 have HX := hid XV
 have HF := hid hf
 have HM := hid mV
 obtain ⟨l1, l2⟩ := cut_len fmt Sx.pct
 obtain ⟨a, ha⟩ : ∃ a, (Lib.cut fmt Sx.pct).1 = a := ⟨_, rfl⟩
 obtain ⟨b, hb⟩ : ∃ b, (Lib.cut fmt Sx.pct).2.1 = b := ⟨_, rfl⟩
 obtain ⟨c, hc⟩ : ∃ c, (Lib.cut fmt Sx.pct).2.2 = c := ⟨_, rfl⟩
 rw [ha, hb, hc] at C1
 rw [ha] at l1
 rw [hb] at l2
 have HN : Hid (nameE fmt sv lt = if c = true then a ++ lt ++ b else if (Lib.cut fmt Sx.slash).2.2 = true ∧ 0 < sv then (Lib.cut fmt Sx.slash).2.1 else (Lib.cut fmt Sx.slash).1) := by
  show _ = _
  unfold nameE; rw [ha, hb, hc]
 clear ha hb hc XV mV hm h0
 go_enter Tryz.func111, Tryz.ntmps111
 go_wp2_with fail
 refine C1.out.mono ?_
 rintro e w1 ⟨rfl, n, rfl⟩
 obtain ⟨x0, _⟩ := ca_at HX.out 0 rfl
 obtain ⟨x1, _⟩ := ca_at HX.out 1 rfl
 obtain ⟨x2, _⟩ := ca_at HX.out 2 rfl
 have sx := HX.out.1
 cases c
 case true =>
  have EN : Hid (nameE fmt sv lt = a ++ lt ++ b) := by show _ = _; rw [HN.out]; rfl
  go_wp2
  go_ret
  exact ⟨ret_str (by rw [EN.out, ← bytes_app, ← bytes_app]), BV.out.trans ((belowN V n).mono BV.out.size)⟩
 case false =>
  have C2 := hid (cut_any fmt Sx.slash m (V.drewN n) (by omega) HM.out)
  obtain ⟨c, hc⟩ : ∃ c, (Lib.cut fmt Sx.slash).1 = c := ⟨_, rfl⟩
  obtain ⟨d, hd⟩ : ∃ d, (Lib.cut fmt Sx.slash).2.1 = d := ⟨_, rfl⟩
  obtain ⟨e, he⟩ : ∃ e, (Lib.cut fmt Sx.slash).2.2 = e := ⟨_, rfl⟩
  rw [hc, hd, he] at C2
  rw [hc, hd, he] at HN
  have BD := hid (BV.out.trans ((belowN V n).mono BV.out.size))
  clear hc hd he
  go_wp2_with fail
  refine C2.out.mono ?_
  rintro _ w2 ⟨rfl, n2, rfl⟩
  have BE := hid (fun k => BV.out.trans ((belowN V k).mono BV.out.size))
  cases e
  case false =>
   have EN : Hid (nameE fmt sv lt = c) := by show _ = _; rw [HN.out]; simp
   go_wp2
   go_ret
   exact ⟨ret_str (by rw [EN.out]), BE.out _⟩
  case true =>
   by_cases hs : 0 < sv
   ·have HS := hid hs
    have EN : Hid (nameE fmt sv lt = d) := by show _ = _; rw [HN.out]; simp [hs]
    have hs2 : decide (0 < sv) = true := by simp [hs]
    have hs3 : sv > 0 := hs
    go_wp2
    go_ret
    exact ⟨ret_str (by rw [EN.out]), BE.out _⟩
   ·have HS := hid hs
    have EN : Hid (nameE fmt sv lt = c) := by show _ = _; rw [HN.out]; simp [hs]
    have hs2 : decide (0 < sv) = false := by simp [hs]
    go_wp2
    go_ret
    exact ⟨ret_str (by rw [EN.out]), BE.out _⟩
theorem cells_e {b c : Nat} {u0 u1 v0 v1 v2 : Value} {w w' : World} (h : w.cell? ⟨b, 0, none⟩ = some u0 ∧ w.cell? ⟨b, 3, none⟩ = some u1 ∧ w.cell? ⟨c, 0, none⟩ = some v0 ∧ w.cell? ⟨c, 1, none⟩ = some v1 ∧ w.cell? ⟨c, 2, none⟩ = some v2) (hb : b < w.heap.size) (hc : c < w.heap.size) (hw : Below w.heap.size w w') :
  w'.cell? ⟨b, 0, none⟩ = some u0 ∧ w'.cell? ⟨b, 3, none⟩ = some u1 ∧ w'.cell? ⟨c, 0, none⟩ = some v0 ∧ w'.cell? ⟨c, 1, none⟩ = some v1 ∧ w'.cell? ⟨c, 2, none⟩ = some v2 :=
 ⟨(hw.cell (p := ⟨b, 0, none⟩) hb).trans h.1, (hw.cell (p := ⟨b, 3, none⟩) hb).trans h.2.1, (hw.cell (p := ⟨c, 0, none⟩) hc).trans h.2.2.1, (hw.cell (p := ⟨c, 1, none⟩) hc).trans h.2.2.2.1, (hw.cell (p := ⟨c, 2, none⟩) hc).trans h.2.2.2.2⟩
theorem cells_es {b c q o : Nat} {u u0 u1 v0 v1 v2 : Value} {w : World} (hb : ¬ b = q) (hc : ¬ c = q) (h : w.cell? ⟨b, 0, none⟩ = some u0 ∧ w.cell? ⟨b, 3, none⟩ = some u1 ∧ w.cell? ⟨c, 0, none⟩ = some v0 ∧ w.cell? ⟨c, 1, none⟩ = some v1 ∧ w.cell? ⟨c, 2, none⟩ = some v2) :
  (w.setCell ⟨q, o, none⟩ u).cell? ⟨b, 0, none⟩ = some u0 ∧ (w.setCell ⟨q, o, none⟩ u).cell? ⟨b, 3, none⟩ = some u1 ∧ (w.setCell ⟨q, o, none⟩ u).cell? ⟨c, 0, none⟩ = some v0 ∧ (w.setCell ⟨q, o, none⟩ u).cell? ⟨c, 1, none⟩ = some v1 ∧ (w.setCell ⟨q, o, none⟩ u).cell? ⟨c, 2, none⟩ = some v2 := by
 have e1 : ∀ k, (w.setCell ⟨q, o, none⟩ u).cell? ⟨b, k, none⟩ = w.cell? ⟨b, k, none⟩ := fun k => World.cell?_of_block (Below.heap_setCell _ _ _ _ hb)
 have e2 : ∀ k, (w.setCell ⟨q, o, none⟩ u).cell? ⟨c, k, none⟩ = w.cell? ⟨c, k, none⟩ := fun k => World.cell?_of_block (Below.heap_setCell _ _ _ _ hc)
 simp only [e1, e2]
 exact h
theorem local_any (x : Sx.Er) (t : Sx.Tm) (m : Int) (w : World) (hf : x.format.length ≤ 1000000) (hl : t.letter.length ≤ 1000000) (hm : w.cell? ⟨0, 0, none⟩ = some (.int .i64 m)) (h0 : 0 < w.heap.size)
  (b1 : -1000000000000 ≤ x.shift ∧ x.shift ≤ 1000000000000) (b2 : -1000000000000 ≤ t.save ∧ t.save ≤ 1000000000000) :
  Calls Tryz.prog 52 #[eraV x, timeV t] w fun e w' => e = .returned (lcV ⟨x.shift + t.save, t.save, nameE x.format t.save t.letter⟩) ∧ Below w.heap.size w w' := by
 obtain ⟨ta, ts, tl⟩ := t
 dsimp only at hl b2
 obtain ⟨N, hN⟩ : ∃ N, w.heap.size = N := ⟨_, rfl⟩
 obtain ⟨V, hV⟩ : ∃ V, ((w.alloc (.cells (eraCells x).toArray 67)).alloc (.cells #[.int .i64 ta, .int .i64 ts, strV tl] 72)).alloc (.cells #[.int .i64 0, .int .i64 0, .string ⟨#[]⟩] 31) = V := ⟨_, rfl⟩
 have XE := ca_alloc (ca_alloc (ca_new w (eraCells x) 67) (.cells #[.int .i64 ta, .int .i64 ts, strV tl] 72)) (.cells #[.int .i64 0, .int .i64 0, .string ⟨#[]⟩] 31)
 have XT := ca_alloc (ca_new (w.alloc (.cells (eraCells x).toArray 67)) [.int .i64 ta, .int .i64 ts, strV tl] 72) (.cells #[.int .i64 0, .int .i64 0, .string ⟨#[]⟩] 31)
 have XL := ca_new ((w.alloc (.cells (eraCells x).toArray 67)).alloc (.cells #[.int .i64 ta, .int .i64 ts, strV tl] 72)) [.int .i64 0, .int .i64 0, .string ⟨#[]⟩] 31
 have e2 : ((w.alloc (.cells (eraCells x).toArray 67)).alloc (.cells [.int .i64 ta, .int .i64 ts, strV tl].toArray 72)).alloc (.cells #[.int .i64 0, .int .i64 0, .string ⟨#[]⟩] 31) = V := hV
 have e3 : ((w.alloc (.cells (eraCells x).toArray 67)).alloc (.cells #[.int .i64 ta, .int .i64 ts, strV tl] 72)).alloc (.cells [.int .i64 0, .int .i64 0, .string ⟨#[]⟩].toArray 31) = V := hV
 rw [hV, hN] at XE
 rw [e2] at XT
 rw [e3] at XL
 simp only [World.size_alloc, hN] at XT XL
 have BV : Hid (Below N w V) := by show Below _ _ _; rw [← hV]; exact (((Below.refl N w).alloc (by omega) _).alloc (by simp; omega) _).alloc (by simp; omega) _
 have mV : V.cell? ⟨0, 0, none⟩ = some (.int .i64 m) := (BV.out.cell (p := ⟨0, 0, none⟩) (by show 0 < N; omega)).trans hm
 have sV := XL.1
 have EV := eraH_of XE
 have UU : V.cell? ⟨N, 0, none⟩ = some (.int .i64 x.shift) ∧ V.cell? ⟨N, 3, none⟩ = some (strV x.format) ∧ V.cell? ⟨N + 1, 0, none⟩ = some (.int .i64 ta) ∧ V.cell? ⟨N + 1, 1, none⟩ = some (.int .i64 ts) ∧ V.cell? ⟨N + 1, 2, none⟩ = some (strV tl) := ⟨EV.1, EV.2.2.2.1, (ca_at XT 0 rfl).1, (ca_at XT 1 rfl).1, (ca_at XT 2 rfl).1⟩
 have UUd : V.drew.cell? ⟨N, 0, none⟩ = some (.int .i64 x.shift) ∧ V.drew.cell? ⟨N, 3, none⟩ = some (strV x.format) ∧ V.drew.cell? ⟨N + 1, 0, none⟩ = some (.int .i64 ta) ∧ V.drew.cell? ⟨N + 1, 1, none⟩ = some (.int .i64 ts) ∧ V.drew.cell? ⟨N + 1, 2, none⟩ = some (strV tl) := UU
 have CN := hid (nameOf_any x.format tl ta ts m V.drew hf hl mV (by show 0 < V.heap.size; omega))
 have after : Hid (∀ w6, Below V.drew.heap.size V.drew w6 → (w6.cell? ⟨N, 0, none⟩ = some (.int .i64 x.shift) ∧ w6.cell? ⟨N, 3, none⟩ = some (strV x.format) ∧ w6.cell? ⟨N + 1, 0, none⟩ = some (.int .i64 ta) ∧ w6.cell? ⟨N + 1, 1, none⟩ = some (.int .i64 ts) ∧ w6.cell? ⟨N + 1, 2, none⟩ = some (strV tl)) ∧ CellsAt w6 (N + 1 + 1) [.int .i64 0, .int .i64 0, .string ⟨#[]⟩] ∧ Below N w w6) := by
  intro w6 hb
  have hb' := below_drew1 hb
  exact ⟨cells_e UU (by omega) (by omega) hb', ca_below XL hb', BV.out.trans (hb'.mono (by omega))⟩
 have ne1 : ¬ N = N + 1 + 1 := by omega
 have ne2 : ¬ N + 1 = N + 1 + 1 := by omega
 obtain ⟨nm, hnm⟩ : ∃ nm, nameE x.format ts tl = nm := ⟨_, rfl⟩
 rw [hnm] at CN
 have HNM := hid hnm
 have HNN := hid hN
 have HB1 := hid b1
 have HB2 := hid b2
 have B1 := b1.1
 have B1' := b1.2
 have B2 := b2.1
 have B2' := b2.2
 clear XE XT XL e2 e3 EV mV hm h0 hf hl hnm b1 b2
 go_enter Tryz.func52, Tryz.ntmps52
 simp only [hN]
 have hVx : ((w.alloc (.cells #[.int .i64 x.shift, strV x.rules, .int .i64 x.save, strV x.format, .bool x.opn, .int .i64 x.uy, .int .i64 x.um, .int .i64 x.ud, .int .i64 x.uat, .int .i64 x.uclock] 67)).alloc (.cells #[.int .i64 ta, .int .i64 ts, strV tl] 72)).alloc (.cells #[.int .i64 0, .int .i64 0, .string ⟨#[]⟩] 31) = V := hV
 go_wp2_with fail
 go_region_held3 (fun w' => w'.cell? ⟨N, 0, none⟩ = some (.int .i64 x.shift) ∧ w'.cell? ⟨N, 3, none⟩ = some (strV x.format) ∧ w'.cell? ⟨N + 1, 0, none⟩ = some (.int .i64 ta) ∧ w'.cell? ⟨N + 1, 1, none⟩ = some (.int .i64 ts) ∧ w'.cell? ⟨N + 1, 2, none⟩ = some (strV tl))
  (first | with_reducible exact UU | with_reducible exact UUd | with_reducible exact UU6 | with_reducible exact cells_es ne1 ne2 (cells_es ne1 ne2 (cells_es ne1 ne2 UU6)) | go_keep)
  (first | (go_at_call 111; (with_reducible refine CN.out.mono ?_); rintro e w6 ⟨rfl, hb6⟩; obtain ⟨UU6, L6, B6⟩ := after.out w6 hb6; obtain ⟨q0, k0⟩ := ca_at L6 0 rfl; obtain ⟨q1, k1⟩ := ca_at L6 1 rfl; obtain ⟨q2, k2⟩ := ca_at L6 2 rfl; have zx := L6.1; have B7 := hid B6; clear hb6 B6))
 all_goals
  have hw : IntKind.i64.wrap (x.shift + ts) = x.shift + ts := IntWalk.i64_in _ (by omega)
  rw [hw]
  have h1 : N ≤ N + 1 + 1 := by omega
  have h2 := below_put (below_put (below_put B7.out h1 0 (.int .i64 (x.shift + ts))) h1 1 (.int .i64 ts)) h1 2 (.string ⟨nm.toArray⟩)
  go_wp2
  refine bodyPost_ret (v := lcV ⟨x.shift + ts, ts, nm⟩) (by simp [results, Tryz.results52, go_sem, *]) rfl ⟨by rw [HNM.out], h2⟩
end Go.Proofs.YtkhlkohlccndgaaGreat
namespace Go.Proofs.YtkhlkohlccndgaaGreat
open Go.RowKit Go.Shelf
attribute [local go_sem] Oper.semAt_some

theorem savedAt1_any (x : Sx.Tm) (B : Nat) (at_ : Int) (w : World) (hB : B < w.heap.size) (h : w.cell? ⟨B, 0, none⟩ = some (.int .i64 at_)) :
  Calls Tryz.prog 114 #[timeV x, .pointer (some ⟨B, 0, none⟩)] w fun e w' => e = .returned (.bool (decide (x.at_ ≤ at_))) ∧ Below w.heap.size w w' := by
 have BV := hid ((Below.refl w.heap.size w).alloc (Nat.le_refl _) (.cells (timeC x).toArray 72))
 have XV := ca_new w (timeC x) 72
 obtain ⟨x0, _⟩ := ca_at XV 0 rfl
 have y0 := (BV.out.cell (p := ⟨B, 0, none⟩) hB).trans h
 have sx := XV.1
 have sB : B < (w.alloc (.cells (timeC x).toArray 72)).heap.size := Nat.lt_of_lt_of_le hB BV.out.size
 clear XV
 go_enter Tryz.func114, Tryz.ntmps114
 go_wp2
 go_ret
 exact ⟨rfl, BV.out⟩
/- what is saved at a time, and by what letter -/
def savedT (rs : List Sx.Rl) (x : Sx.Er) (at_ : Int) : Sx.Tm := if x.rules = [] then ⟨0, x.save, []⟩ else lastT (fun t => decide (t.at_ ≤ at_)) (Sx.times rs x.rules x.shift)
theorem savedAt_any (rs : List Sx.Rl) (rv : Value) (x : Sx.Er) (at_ : Int) (w : World) (h : RdRules w rv rs) (hs : ∀ r ∈ rs, r.name.length ≤ maxLen ∧ r.letter.length ≤ maxLen) (hT : (Sx.times rs x.rules x.shift).length ≤ 10000) :
  Calls Tryz.prog 53 #[rv, eraV x, .int .i64 at_] w fun e w' => e = .returned (timeV (savedT rs x at_)) ∧ Below w.heap.size w w' := by
 obtain ⟨ra, rcap, rfl⟩ := rd_shape h
 obtain ⟨N, hN⟩ : ∃ N, w.heap.size = N := ⟨_, rfl⟩
 obtain ⟨V, hV⟩ : ∃ V, ((w.alloc (.cells (eraCells x).toArray 67)).alloc (.cells #[.int .i64 at_] 3)).alloc (.cells #[.int .i64 0, .int .i64 0, .string ⟨#[]⟩] 72) = V := ⟨_, rfl⟩
 have XE := ca_alloc (ca_alloc (ca_new w (eraCells x) 67) (.cells #[.int .i64 at_] 3)) (.cells #[.int .i64 0, .int .i64 0, .string ⟨#[]⟩] 72)
 have XT := ca_alloc (ca_new (w.alloc (.cells (eraCells x).toArray 67)) [.int .i64 at_] 3) (.cells #[.int .i64 0, .int .i64 0, .string ⟨#[]⟩] 72)
 have XL := ca_new ((w.alloc (.cells (eraCells x).toArray 67)).alloc (.cells #[.int .i64 at_] 3)) [.int .i64 0, .int .i64 0, .string ⟨#[]⟩] 72
 have e2 : ((w.alloc (.cells (eraCells x).toArray 67)).alloc (.cells [.int .i64 at_].toArray 3)).alloc (.cells #[.int .i64 0, .int .i64 0, .string ⟨#[]⟩] 72) = V := hV
 have e3 : ((w.alloc (.cells (eraCells x).toArray 67)).alloc (.cells #[.int .i64 at_] 3)).alloc (.cells [.int .i64 0, .int .i64 0, .string ⟨#[]⟩].toArray 72) = V := hV
 rw [hV, hN] at XE
 rw [e2] at XT
 rw [e3] at XL
 simp only [World.size_alloc, hN] at XT XL
 have BV : Hid (Below N w V) := by show Below _ _ _; rw [← hV]; exact (((Below.refl N w).alloc (by omega) _).alloc (by simp; omega) _).alloc (by simp; omega) _
 have sV := XL.1
 obtain ⟨x0, x1, x2, x3, x4, x5, x6, x7, x8, x9⟩ := eraH_of XE
 obtain ⟨l0, g0⟩ := ca_at XL 0 rfl
 obtain ⟨l1, g1⟩ := ca_at XL 1 rfl
 obtain ⟨l2, g2⟩ := ca_at XL 2 rfl
 have sE := XE.1
 have HNN := hid hN
 have HXT := hid XT
 have HXL := hid XL
 have H := hid h
 have HS := hid hs
 have HT := hid hT
 have CT := hid (times_any rs (.slice ra rs.length rcap) x.rules x.shift V (rd_below h (by rw [hN]; exact BV.out)) hs)
 clear XE XT XL e2 e3 h hs hT
 go_enter Tryz.func53, Tryz.ntmps53
 simp only [hN]
 have hVx : ((w.alloc (.cells #[.int .i64 x.shift, strV x.rules, .int .i64 x.save, strV x.format, .bool x.opn, .int .i64 x.uy, .int .i64 x.um, .int .i64 x.ud, .int .i64 x.uat, .int .i64 x.uclock] 67)).alloc (.cells #[.int .i64 at_] 3)).alloc (.cells #[.int .i64 0, .int .i64 0, .string ⟨#[]⟩] 72) = V := hV
 have h1 := hid (show N ≤ N + 1 + 1 by omega)
 by_cases hr : x.rules = []
 ·have ES : Hid (savedT rs x at_ = ⟨0, x.save, []⟩) := by show _ = _; unfold savedT; rw [if_pos hr]
  have he : List.isEmpty x.rules = true := by rw [hr]; rfl
  clear CT hr
  go_wp2
  have h2 := below_put (below_put (below_put BV.out h1.out 0 (.int .i64 0)) h1.out 1 (.int .i64 x.save)) h1.out 2 (.string ⟨#[]⟩)
  refine bodyPost_ret (v := timeV ⟨0, x.save, []⟩) (by simp [results, Tryz.results53, go_sem, *]) rfl ⟨by rw [ES.out], h2⟩
 ·have ES : Hid (savedT rs x at_ = lastT (fun t => decide (t.at_ ≤ at_)) (Sx.times rs x.rules x.shift)) := by show _ = _; unfold savedT; rw [if_neg hr]
  have he : List.isEmpty x.rules = false := by cases q : x.rules <;> simp_all
  have e1 : ∀ args w, (callFunc 114 args).run Tryz.prog w = .ok (.enter 114 args) w := enters_of Tryz.func114 (by kernel_rfl) rfl
  have eT : ∀ args w, (callFunc 163 args).run Tryz.prog w = .ok (.enter 163 args) w := enters_of Tryz.func163 (by kernel_rfl) rfl
  have C1 := hid (fun (W : World) (xs : List Sx.Tm) (ta : Option Addr) (tcap : Nat) (hW : Below V.heap.size V W) (hR : RdTimes W (.slice ta xs.length tcap) xs) (hxs : xs.length ≤ 10000) =>
   let hWL : Below W.heap.size W (W.alloc (.cells #[.slice ta xs.length tcap] 68)) := (Below.refl W.heap.size W).alloc (Nat.le_refl _) _
   let hVL : Below V.heap.size V (W.alloc (.cells #[.slice ta xs.length tcap] 68)) := hW.trans (hWL.mono hW.size)
   lastT_any 163 114 #[.pointer (some ⟨W.heap.size, 0, none⟩)] #[.pointer (some ⟨N + 1, 0, none⟩)] (fun t => decide (t.at_ ≤ at_)) xs (W.alloc (.cells #[.slice ta xs.length tcap] 68)) eT e1
    (fun w1 hw1 => valsT_seq 3 W.heap.size (by omega) xs ta tcap (W.alloc (.cells #[.slice ta xs.length tcap] 68)) w1 (rd_below hR hWL) hxs ((hw1.cell (p := ⟨W.heap.size, 0, none⟩) (by simp)).trans (ca_at (ca_new W [.slice ta xs.length tcap] 68) 0 rfl).1) (Nat.lt_of_lt_of_le (by simp) hw1.size) hw1)
    (fun x _ W' hW' => by
     have hh := hVL.trans (hW'.mono hVL.size)
     exact savedAt1_any x (N + 1) at_ W' (Nat.lt_of_lt_of_le HXT.out.1 hh.size) ((hh.cell (p := ⟨N + 1, 0, none⟩) HXT.out.1).trans (ca_at HXT.out 0 rfl).1)))
  clear e1 eT
  go_wp2_with fail
  refine CT.out.mono ?_
  rintro e w1 ⟨tv, rfl, hO, hb⟩
  have HB1 := hid hb
  have RT := hid (ownTimes_rd hO)
  obtain ⟨ta, tcap, rfl⟩ := owns_shape0 hO
  obtain ⟨ts, hts⟩ : ∃ ts, Sx.times rs x.rules x.shift = ts := ⟨_, rfl⟩
  rw [hts] at RT ES HT ⊢
  obtain ⟨te, hte⟩ : ∃ te, Sx.timesE rs x.rules x.shift = te := ⟨_, rfl⟩
  rw [hte]
  clear CT hO hb hte hts x0 x1 x2 x3 x4 x5 x6 x7 x8 x9 l0 g0 l1 g1 l2 g2 sE sV
  go_wp2_with fail
  refine (valsT_any _ _ _ _).mono ?_
  rintro e w2 ⟨rfl, rfl⟩
  go_wp2_with fail
  refine (C1.out w1 ts ta tcap HB1.out RT.out HT.out).mono ?_
  rintro e w3 ⟨rfl, hb⟩
  have HB3 : Hid (Below V.heap.size V w3) := HB1.out.trans (((Below.refl w1.heap.size w1).alloc (Nat.le_refl _) (.cells #[.slice ta ts.length tcap] 68)).trans (hb.mono (by simp)) |>.mono HB1.out.size)
  have L3 := ca_below HXL.out HB3.out
  obtain ⟨l0, g0⟩ := ca_at L3 0 rfl
  obtain ⟨l1, g1⟩ := ca_at L3 1 rfl
  obtain ⟨l2, g2⟩ := ca_at L3 2 rfl
  have sL := L3.1
  obtain ⟨y, hy⟩ : ∃ y, lastT (fun t => decide (t.at_ ≤ at_)) ts = y := ⟨_, rfl⟩
  obtain ⟨A, hA⟩ : ∃ A, (ts.any fun t => decide (t.at_ ≤ at_)) = A := ⟨_, rfl⟩
  rw [hy, hA]
  rw [hy] at ES
  have B3 : Hid (Below N w w3) := BV.out.trans (HB3.out.mono (by have := HXL.out.1; omega))
  clear hb hy hA C1 L3
  go_wp2
  have h2 := (below_put (below_put (below_put B3.out h1.out 0 (.int .i64 y.at_)) h1.out 1 (.int .i64 y.save)) h1.out 2 (.string ⟨y.letter.toArray⟩)).alloc (by have := B3.out.size; rw [HNN.out] at this; simpa using this) (.cells #[.int .i64 y.at_, .int .i64 y.save, .string ⟨y.letter.toArray⟩] 72)
  refine bodyPost_ret (v := timeV y) (by simp [results, Tryz.results53, go_sem, *]) rfl ⟨by rw [ES.out], h2⟩
end Go.Proofs.YtkhlkohlccndgaaGreat
namespace Go.Proofs.YtkhlkohlccndgaaGreat
open Go.RowKit Go.Shelf
attribute [local go_sem] Oper.semAt_some

theorem at1_any (x : Sx.Er) (B : Nat) (at_ : Int) (w : World) (hB : B < w.heap.size) (h : w.cell? ⟨B, 0, none⟩ = some (.int .i64 at_)) (hok : x.opn = true ∨ EndOk x) :
  Calls Tryz.prog 50 #[eraV x, .pointer (some ⟨B, 0, none⟩)] w fun e w' => e = .returned (.bool (x.opn || decide (at_ < endAt x))) ∧ Below w.heap.size w w' := by
 obtain ⟨sh, rl, sv, fm, op, uy, um, ud, ua, uc⟩ := x
 cases op
 case' true => obtain ⟨x, hx⟩ : ∃ x, (⟨sh, rl, sv, fm, true, uy, um, ud, ua, uc⟩ : Sx.Er) = x := ⟨_, rfl⟩
 case' false => obtain ⟨x, hx⟩ : ∃ x, (⟨sh, rl, sv, fm, false, uy, um, ud, ua, uc⟩ : Sx.Er) = x := ⟨_, rfl⟩
 all_goals
  obtain ⟨N, hN⟩ : ∃ N, w.heap.size = N := ⟨_, rfl⟩
  obtain ⟨V, hV⟩ : ∃ V, w.alloc (.cells (eraCells x).toArray 67) = V := ⟨_, rfl⟩
  have XV := ca_new w (eraCells x) 67
  rw [hV, hN] at XV
  have BV : Hid (Below N w V) := by show Below _ _ _; rw [← hV]; exact (Below.refl N w).alloc (by omega) _
  have y0 := (BV.out.cell (p := ⟨B, 0, none⟩) (by show B < N; omega)).trans h
  have sx := XV.1
  have sB : B < V.heap.size := by omega
  have EX := hid (show EraH N x V ∧ V.cell? ⟨B, 0, none⟩ = some (.int .i64 at_) from ⟨eraH_of XV, y0⟩)
  subst hx
  have x4 := EX.out.1.2.2.2.2.1
  dsimp only at x4
  clear XV y0 h
 case true =>
  clear hok
  go_enter Tryz.func50, Tryz.ntmps50
  simp only [hN]
  have hVx : w.alloc (.cells #[.int .i64 sh, strV rl, .int .i64 sv, strV fm, .bool true, .int .i64 uy, .int .i64 um, .int .i64 ud, .int .i64 ua, .int .i64 uc] 67) = V := hV
  go_wp2_with fail
  refine wp_region_held_drew (S := fun w' => EraH N ⟨sh, rl, sv, fm, true, uy, um, ud, ua, uc⟩ w' ∧ w'.cell? ⟨B, 0, none⟩ = some (.int .i64 at_)) (by kernel_rfl) EX.out (fun hHeld => ?_)
  refine tkH 0 ?vz1 rfl ?z1 ?_
  case z1 => (intro w hSw; (obtain ⟨⟨s0, s1, s2, s3, s4, s5, s6, s7, s8, s9⟩, sb⟩ := hSw); (try dsimp only at s0 s1 s2 s3 s4 s5 s6 s7 s8 s9); go_simp; try with_reducible rfl)
  try simp only [Act.put, jP, jO, jS, jG, jH, jI]
  refine tkH 1 ?vz2 rfl ?z2 ?_
  case z2 => (intro w hSw; (obtain ⟨⟨s0, s1, s2, s3, s4, s5, s6, s7, s8, s9⟩, sb⟩ := hSw); (try dsimp only at s0 s1 s2 s3 s4 s5 s6 s7 s8 s9); go_simp; try with_reducible rfl)
  try simp only [Act.put, jP, jO, jS, jG, jH, jI]
  refine tkH 2 ?vz3 rfl ?z3 ?_
  case z3 => (intro w hSw; (obtain ⟨⟨s0, s1, s2, s3, s4, s5, s6, s7, s8, s9⟩, sb⟩ := hSw); (try dsimp only at s0 s1 s2 s3 s4 s5 s6 s7 s8 s9); go_simp; try with_reducible rfl)
  try simp only [Act.put, jP, jO, jS, jG, jH, jI]
  refine tkU 3 rfl ?_
  try simp only [Act.put, jP, jO, jS, jG, jH, jI]
  refine tkU 4 rfl ?_
  try simp only [Act.put, jP, jO, jS, jG, jH, jI]
  refine tkU 5 rfl ?_
  try simp only [Act.put, jP, jO, jS, jG, jH, jI]
  refine tkU 6 rfl ?_
  try simp only [Act.put, jP, jO, jS, jG, jH, jI]
  refine tkH 7 ?vz4 rfl ?z4 ?_
  case z4 => (intro w hSw; (obtain ⟨⟨s0, s1, s2, s3, s4, s5, s6, s7, s8, s9⟩, sb⟩ := hSw); (try dsimp only at s0 s1 s2 s3 s4 s5 s6 s7 s8 s9); go_simp; try with_reducible rfl)
  try simp only [Act.put, jP, jO, jS, jG, jH, jI]
  refine tkH 8 ?vz5 rfl ?z5 ?_
  case z5 => (intro w hSw; (obtain ⟨⟨s0, s1, s2, s3, s4, s5, s6, s7, s8, s9⟩, sb⟩ := hSw); (try dsimp only at s0 s1 s2 s3 s4 s5 s6 s7 s8 s9); go_simp; try with_reducible rfl)
  try simp only [Act.put, jP, jO, jS, jG, jH, jI]
  refine wpAnyH_done (by kernel_rfl) ?_ _
  go_wp2
  go_ret
  exact ⟨rfl, ⟨BV.out.os, BV.out.tape, BV.out.output, BV.out.size, BV.out.block⟩⟩
 case false =>
  have HOE : Hid (EndOk ⟨sh, rl, sv, fm, false, uy, um, ud, ua, uc⟩) := hok.resolve_left (by simp)
  have HC := hid (endOf_any _ V.drew HOE.out)
  obtain ⟨en, hen⟩ : ∃ en, endAt ⟨sh, rl, sv, fm, false, uy, um, ud, ua, uc⟩ = en := ⟨_, rfl⟩
  have ebd := endAt_bd HOE.out
  rw [hen] at HC ebd
  have HEN := hid hen
  clear hok hen HOE
  have hVx : w.alloc (.cells #[.int .i64 sh, strV rl, .int .i64 sv, strV fm, .bool false, .int .i64 uy, .int .i64 um, .int .i64 ud, .int .i64 ua, .int .i64 uc] 67) = V := hV
  go_enter Tryz.func50, Tryz.ntmps50
  simp only [hN]
  go_wp2_with fail
  refine wp_region_held_drew (S := fun w' => EraH N ⟨sh, rl, sv, fm, false, uy, um, ud, ua, uc⟩ w' ∧ w'.cell? ⟨B, 0, none⟩ = some (.int .i64 at_)) (by kernel_rfl) EX.out (fun hHeld => ?_)
  refine tkH 0 ?vz6 rfl ?z6 ?_
  case z6 => (intro w hSw; (obtain ⟨⟨s0, s1, s2, s3, s4, s5, s6, s7, s8, s9⟩, sb⟩ := hSw); (try dsimp only at s0 s1 s2 s3 s4 s5 s6 s7 s8 s9); go_simp; try with_reducible rfl)
  try simp only [Act.put, jP, jO, jS, jG, jH, jI]
  refine tkH 1 ?vz7 rfl ?z7 ?_
  case z7 => (intro w hSw; (obtain ⟨⟨s0, s1, s2, s3, s4, s5, s6, s7, s8, s9⟩, sb⟩ := hSw); (try dsimp only at s0 s1 s2 s3 s4 s5 s6 s7 s8 s9); go_simp; try with_reducible rfl)
  try simp only [Act.put, jP, jO, jS, jG, jH, jI]
  refine tkH 2 ?vz8 rfl ?z8 ?_
  case z8 => (intro w hSw; (obtain ⟨⟨s0, s1, s2, s3, s4, s5, s6, s7, s8, s9⟩, sb⟩ := hSw); (try dsimp only at s0 s1 s2 s3 s4 s5 s6 s7 s8 s9); go_simp; try with_reducible rfl)
  try simp only [Act.put, jP, jO, jS, jG, jH, jI]
  refine tkH 3 ?vz9 rfl ?z9 ?_
  case z9 => (intro w hSw; (obtain ⟨⟨s0, s1, s2, s3, s4, s5, s6, s7, s8, s9⟩, sb⟩ := hSw); (try dsimp only at s0 s1 s2 s3 s4 s5 s6 s7 s8 s9); go_simp; try with_reducible rfl)
  try simp only [Act.put, jP, jO, jS, jG, jH, jI]
  refine tkH 5 ?vz10 rfl ?z10 ?_
  case z10 => (intro w hSw; (obtain ⟨⟨s0, s1, s2, s3, s4, s5, s6, s7, s8, s9⟩, sb⟩ := hSw); (try dsimp only at s0 s1 s2 s3 s4 s5 s6 s7 s8 s9); go_simp; try with_reducible rfl)
  try simp only [Act.put, jP, jO, jS, jG, jH, jI]
  refine rdH 4 rfl fun K hK => ?_
  go_simp
  refine HC.out.mono ?_
  rintro e w7 ⟨rfl, hb7⟩
  have S7 : EraH N ⟨sh, rl, sv, fm, false, uy, um, ud, ua, uc⟩ w7 ∧ w7.cell? ⟨B, 0, none⟩ = some (.int .i64 at_) := ⟨eraH_below EX.out.1 (below_drew1 hb7) sx, ((below_drew1 hb7).cell (p := ⟨B, 0, none⟩) sB).trans EX.out.2⟩
  have B7 := hid (BV.out.trans ((below_drew1 hb7).mono (Nat.le_of_lt sx)))
  refine hK.out _ _ ?_ (fun hHeld => ?_)
  ·exact S7
  clear hK K
  try simp only [Act.put, jP, jO, jS, jG, jH, jI]
  refine tkH 6 ?vz11 rfl ?z11 ?_
  case z11 => (intro w hSw; (obtain ⟨⟨s0, s1, s2, s3, s4, s5, s6, s7, s8, s9⟩, sb⟩ := hSw); (try dsimp only at s0 s1 s2 s3 s4 s5 s6 s7 s8 s9); go_simp; try with_reducible rfl)
  try simp only [Act.put, jP, jO, jS, jG, jH, jI]
  refine tkH 7 ?vz12 rfl ?z12 ?_
  case z12 => (intro w hSw; (obtain ⟨⟨s0, s1, s2, s3, s4, s5, s6, s7, s8, s9⟩, sb⟩ := hSw); (try dsimp only at s0 s1 s2 s3 s4 s5 s6 s7 s8 s9); go_simp; try with_reducible rfl)
  try simp only [Act.put, jP, jO, jS, jG, jH, jI]
  refine tkH 8 ?vz13 rfl ?z13 ?_
  case z13 => (intro w hSw; (obtain ⟨⟨s0, s1, s2, s3, s4, s5, s6, s7, s8, s9⟩, sb⟩ := hSw); (try dsimp only at s0 s1 s2 s3 s4 s5 s6 s7 s8 s9); go_simp; try with_reducible rfl)
  try simp only [Act.put, jP, jO, jS, jG, jH, jI]
  refine wpAnyH_done (by kernel_rfl) ?_ _
  go_wp2
  go_ret
  exact ⟨ret_bool (by rw [HEN.out]; rfl), B7.out⟩
end Go.Proofs.YtkhlkohlccndgaaGreat
namespace Go.Proofs.YtkhlkohlccndgaaGreat
open Go.RowKit Go.Shelf
attribute [local go_sem] Oper.semAt_some

/- what Find answers, whatever world comes behind w -/
def FindAt (src : Value) (nm : Tx.Bs) (F : Int) (z : Sx.Zn) (w : World) : Prop :=
 ∀ W, Below w.heap.size w W → Calls Tryz.prog 16 #[src, strV nm] W fun e w' => ∃ v, e = .returned (.tuple #[.agg #[strV z.name, v], .int .i64 F]) ∧ OwnEras w' W.heap.size v z.eras ∧ Below W.heap.size W w'
theorem rdEras_own {w : World} {B : Nat} {v : Value} {l : List Sx.Er} (h : OwnEras w B v l) : RdEras w v l := own_rd eraCells_len h
theorem ownEras_cap {w : World} {B : Nat} {a : Option Addr} {n c : Nat} {l : List Sx.Er} (h : OwnEras w B (.slice a n c) l) : n ≤ c := by
 rcases h.2 with h' | h'
 ·obtain ⟨e, _⟩ := h'; simp at e; omega
 ·obtain ⟨b, cap, cur, e, _, _, q, _⟩ := h'; simp at e; omega
theorem ends_seq (nm : Tx.Bs) (z : Sx.Zn) (F : Int) (ra za la : Option Addr) (n1 n2 n3 rcap zcap lcap : Nat) (w : World) (hF : FindAt (.agg #[.slice ra n1 rcap, .slice za n2 zcap, .slice la n3 lcap]) nm F z w)
  (hz : F = 0 → z.eras.length ≤ 1000 ∧ ∀ e ∈ z.eras, e.opn = true ∨ EndOk e) :
  Calls Tryz.prog 17 #[.agg #[.slice ra n1 rcap, .slice za n2 zcap, .slice la n3 lcap], strV nm] w fun e w' => ∃ v, e = .returned (.tuple #[v, .int .i64 F]) ∧ OwnEnds w' w.heap.size v (if F = 0 then endsE z.eras else []) ∧ Below w.heap.size w w' := by
 have HZ := hid hz
 obtain ⟨V, hV⟩ : ∃ V, w.alloc (.cells #[.slice ra n1 rcap, .slice za n2 zcap, .slice la n3 lcap] 26) = V := ⟨_, rfl⟩
 have BV : Hid (Below w.heap.size w V) := by show Below _ _ _; rw [← hV]; exact (Below.refl _ w).alloc (Nat.le_refl _) _
 have XV : CellsAt V w.heap.size [.slice ra n1 rcap, .slice za n2 zcap, .slice la n3 lcap] := by rw [← hV]; exact ca_new w [.slice ra n1 rcap, .slice za n2 zcap, .slice la n3 lcap] 26
 have CF := hid (hF V BV.out)
 obtain ⟨s0, _⟩ := ca_at XV 0 rfl
 obtain ⟨s1, _⟩ := ca_at XV 1 rfl
 obtain ⟨s2, _⟩ := ca_at XV 2 rfl
 have sx := XV.1
 clear hF hz XV
 go_enter Tryz.func17, Tryz.ntmps17
 go_wp2_with fail
 refine CF.out.mono ?_
 rintro e w1 ⟨v, rfl, hO, hb⟩
 have R1 := hid (rdEras_own hO)
 obtain ⟨ca, cc, rfl⟩ := owns_shape0 hO
 have CAP := hid (ownEras_cap hO)
 have B1 : Hid (Below w.heap.size w w1) := BV.out.trans (hb.mono BV.out.size)
 clear hO hb CF s0 s1 s2 sx
 by_cases hq : F = 0
 case neg =>
  have hq2 : (F == 0) = false := by simp [hq]
  have E1 : Hid ((if F = 0 then endsE z.eras else []) = []) := by show _ = _; rw [if_neg hq]
  go_wp2
  refine bodyPost_ret (v := .tuple #[.slice none 0 0, .int .i64 F]) (by simp [results, Tryz.results17, go_sem]) rfl ⟨_, rfl, World.ownsRow_nil _ _ _ _, B1.out.alloc B1.out.size _⟩
 subst hq
 obtain ⟨hl, hok⟩ := HZ.out rfl
 have CE := hid (fun W hW => ends_any ⟨z, ca, cc⟩ W (rd_below R1.out hW) hl CAP.out hok)
 have E1 : Hid ((if (0 : Int) = 0 then endsE z.eras else []) = endsE z.eras) := by show _ = _; rw [if_pos rfl]
 clear HZ hl hok
 go_wp2_with fail
 refine (CE.out _ ((Below.refl w1.heap.size w1).alloc (Nat.le_refl _) _)).mono ?_
 rintro e w2 ⟨v2, rfl, hO2, hb2⟩
 have HO2 := hid hO2
 have B2 : Hid (Below w.heap.size w w2) := B1.out.trans ((((Below.refl w1.heap.size w1).alloc (Nat.le_refl _) _).trans (hb2.mono (by simp))).mono B1.out.size)
 have S2 := hid B1.out.size
 clear hO2 hb2 CE
 go_wp2
 refine bodyPost_ret (v := .tuple #[v2, .int .i64 0]) (by simp [results, Tryz.results17, go_sem]) rfl ⟨v2, rfl, owns_base HO2.out (by have := S2.out; simp; omega), B2.out⟩
end Go.Proofs.YtkhlkohlccndgaaGreat
namespace Go.Proofs.YtkhlkohlccndgaaGreat
open Go.RowKit

theorem rPlain_any (s : ByteArray) (w : World) (hs : s.size ≤ maxLen) :
  Calls Tryz.prog 138 #[.string s] w fun e w' => e = .returned (.bool (Sx.plainB s.data.toList)) ∧ w' = w := by
 unfold maxLen at hs
 have HG : Hid (Sx.plainB s.data.toList = s.data.toList.all Sx.plainC) := rfl
 go_enter Tryz.func138, Tryz.ntmps138
 go_wp2_with fail
 go_loop [3] (fun a => ∃ k : Nat, k ≤ s.size ∧ a = .int .i64 k ∧ Hid ((s.data.toList.take k).all Sx.plainC = true)) (fun a => s.size - (intOf a).toNat)
 case atStart => exact ⟨0, by omega, rfl, by show _ = _; simp⟩
 case round =>
  obtain ⟨k, hk, rfl, HA⟩ := hrel
  by_cases hlt : k < s.size
  ·obtain ⟨c, hc⟩ : ∃ c, s[k] = c := ⟨_, rfl⟩
   have HN : Hid (Sx.plainC c = (Sx.letB c || Sx.digB c || c == 43 || c == 45)) := rfl
   have HC := hid hc
   cases h1 : Sx.letB c
   case true =>
    have H1 := hid h1
    clear h1
    go_wp2_with (go_at_call 165; refine (rLetter_is _ _ H1.out).mono ?_; rintro e w1 ⟨rfl, rfl⟩)
    go_round
    case rel => exact ⟨k + 1, by omega, by go_num, all_snoc s _ k hlt HA.out (by rw [HC.out, HN.out, H1.out]; rfl)⟩
    case measure => simp [intOf]; omega
   case false =>
    have H1 := hid h1
    clear h1
    cases h2 : Sx.digB c
    case true =>
     have H2 := hid h2
     clear h2
     go_wp2_with (first | (go_at_call 165; refine (rLetter_is _ _ H1.out).mono ?_; rintro e w1 ⟨rfl, rfl⟩) | (go_at_call 166; refine (rDigit_is _ _ H2.out).mono ?_; rintro e w1 ⟨rfl, rfl⟩))
     go_round
     case rel => exact ⟨k + 1, by omega, by go_num, all_snoc s _ k hlt HA.out (by rw [HC.out, HN.out, H1.out, H2.out]; rfl)⟩
     case measure => simp [intOf]; omega
    case false =>
     have H2 := hid h2
     clear h2
     cases h3 : (c == 43)
     case true =>
      have e3 : ((c.toNat : Int) != 43) = false := ne_u8 h3
      have H3 := hid h3
      clear h3
      go_wp2_with (first | (go_at_call 165; refine (rLetter_is _ _ H1.out).mono ?_; rintro e w1 ⟨rfl, rfl⟩) | (go_at_call 166; refine (rDigit_is _ _ H2.out).mono ?_; rintro e w1 ⟨rfl, rfl⟩))
      go_round
      case rel => exact ⟨k + 1, by omega, by go_num, all_snoc s _ k hlt HA.out (by rw [HC.out, HN.out, H1.out, H2.out, H3.out]; rfl)⟩
      case measure => simp [intOf]; omega
     case false =>
      have e3 : ((c.toNat : Int) != 43) = true := ne_u8 h3
      have H3 := hid h3
      clear h3
      cases h4 : (c == 45)
      case true =>
       have e4 : ((c.toNat : Int) != 45) = false := ne_u8 h4
       have H4 := hid h4
       clear h4
       go_wp2_with (first | (go_at_call 165; refine (rLetter_is _ _ H1.out).mono ?_; rintro e w1 ⟨rfl, rfl⟩) | (go_at_call 166; refine (rDigit_is _ _ H2.out).mono ?_; rintro e w1 ⟨rfl, rfl⟩))
       go_round
       case rel => exact ⟨k + 1, by omega, by go_num, all_snoc s _ k hlt HA.out (by rw [HC.out, HN.out, H1.out, H2.out, H3.out, H4.out]; rfl)⟩
       case measure => simp [intOf]; omega
      case false =>
       have e4 : ((c.toNat : Int) != 45) = true := ne_u8 h4
       have H4 := hid h4
       clear h4
       go_wp2_with (first | (go_at_call 165; refine (rLetter_is _ _ H1.out).mono ?_; rintro e w1 ⟨rfl, rfl⟩) | (go_at_call 166; refine (rDigit_is _ _ H2.out).mono ?_; rintro e w1 ⟨rfl, rfl⟩))
       go_ret
       exact ⟨ret_bool (by rw [HG.out, all_no s _ k hlt (by rw [HC.out, HN.out, H1.out, H2.out, H3.out, H4.out]; rfl)]), rfl⟩
  ·go_wp2
   go_ret
   exact ⟨ret_bool (by rw [HG.out, all_end s _ k (by omega) HA.out]), rfl⟩
theorem rPlain_is (s : ByteArray) (w : World) (hs : s.size ≤ maxLen) {b : Bool} (h : Sx.plainB s.data.toList = b) :
  Calls Tryz.prog 138 #[.string s] w fun e w' => e = .returned (.bool b) ∧ w' = w := by subst h; exact rPlain_any s w hs
end Go.Proofs.YtkhlkohlccndgaaGreat
namespace Go.Proofs.YtkhlkohlccndgaaGreat
open Go.RowKit

theorem least_any (w : World) : Calls Tryz.prog 23 #[] w fun e w' => e = .returned (.int .i64 (-62135596800)) ∧ Below w.heap.size w w' := by
 go_enter Tryz.func23, Tryz.ntmps23
 go_wp2_with fail
 refine (first_any _).mono ?_
 rintro e w1 ⟨rfl, hb⟩
 go_wp2
 go_ret
 exact ⟨rfl, hb⟩
theorem most_any (w : World) : Calls Tryz.prog 24 #[] w fun e w' => e = .returned (.int .i64 253402300799) ∧ Below w.heap.size w w' := by
 go_enter Tryz.func24, Tryz.ntmps24
 go_wp2_with fail
 refine (last_any _).mono ?_
 rintro e w1 ⟨rfl, hb⟩
 go_wp2
 go_ret
 exact ⟨rfl, hb⟩
theorem checkLocal_any (l : Tb.Lc) (w : World) (hl : l.name.length ≤ maxLen) :
  Calls Tryz.prog 76 #[lcV l] w fun e w' => e = .returned (.int .i64 (Tb.localE l)) ∧ Below w.heap.size w w' := by
 obtain ⟨shift, save, name⟩ := l
 obtain ⟨E, hE⟩ : ∃ E, Tb.localE ⟨shift, save, name⟩ = E := ⟨_, rfl⟩
 rw [hE]
 have HE : Hid (E = if (Sx.inB shift (-75600) 75600 && Sx.inB save 0 10800) = false then 3 else if (!name.isEmpty && decide (name.length ≤ 24) && Sx.plainB name) = false then 1 else 0) := by show _ = _; rw [← hE]; rfl
 have hb : Below w.heap.size w (w.alloc (.cells #[.int .i64 shift, .int .i64 save, strV name] 31)) := (Below.refl _ _).alloc (Nat.le_refl _) _
 have HB := hid hb
 clear hE hb
 have hn : (⟨name.toArray⟩ : ByteArray).size ≤ maxLen := by simpa [ByteArray.size] using hl
 have HN := hid hn
 clear hn hl
 have G1 : ∀ b, decide ((-75600 : Int) ≤ shift ∧ shift ≤ 75600) = b → Sx.inB shift (-75600) 75600 = b := fun b h => h
 have G2 : ∀ b, decide ((0 : Int) ≤ save ∧ save ≤ 10800) = b → Sx.inB save 0 10800 = b := fun b h => h
 have HG1 := hid G1
 have HG2 := hid G2
 clear G1 G2
 by_cases h1 : (-75600 : Int) ≤ shift ∧ shift ≤ 75600
 case neg =>
  go_enter Tryz.func76, Tryz.ntmps76
  go_wp2_with (go_at_call 77; refine (between_any _ _ _ _).mono ?_; rintro e w1 ⟨rfl, rfl⟩; simp only [h1])
  go_ret
  exact ⟨ret_int (by rw [HE.out, HG1.out false (by simp [h1])]; rfl), HB.out⟩
 by_cases h2 : (0 : Int) ≤ save ∧ save ≤ 10800
 case neg =>
  go_enter Tryz.func76, Tryz.ntmps76
  go_wp2_with (go_at_call 77; refine (between_any _ _ _ _).mono ?_; rintro e w1 ⟨rfl, rfl⟩; simp only [h1, h2])
  go_ret
  exact ⟨ret_int (by rw [HE.out, HG1.out true (by simp [h1]), HG2.out false (by simp [h2])]; rfl), HB.out⟩
 have HE2 : Hid (E = if (!name.isEmpty && decide (name.length ≤ 24) && Sx.plainB name) = false then 1 else 0) := by show _ = _; rw [HE.out, HG1.out true (by simp [h1]), HG2.out true (by simp [h2])]; rfl
 clear HE HG1 HG2
 cases h3 : name.isEmpty
 case true =>
  have H3 : Hid (E = 1) := by show _ = _; rw [HE2.out, h3]; rfl
  go_enter Tryz.func76, Tryz.ntmps76
  go_wp2_with (go_at_call 77; refine (between_any _ _ _ _).mono ?_; rintro e w1 ⟨rfl, rfl⟩; simp only [h1, h2])
  go_ret
  exact ⟨ret_int (by rw [H3.out]), HB.out⟩
 case false =>
  by_cases h4 : 24 < name.length
  ·have H3 : Hid (E = 1) := by show _ = _; rw [HE2.out, h3]; simp; omega
   have h4' : 24 < (⟨name.toArray⟩ : ByteArray).size := by simpa [ByteArray.size] using h4
   go_enter Tryz.func76, Tryz.ntmps76
   go_wp2_with (go_at_call 77; refine (between_any _ _ _ _).mono ?_; rintro e w1 ⟨rfl, rfl⟩; simp only [h1, h2])
   go_ret
   exact ⟨ret_int (by rw [H3.out]), HB.out⟩
  ·have h4' : ¬ 24 < (⟨name.toArray⟩ : ByteArray).size := by simpa [ByteArray.size] using h4
   have HE3 : Hid (E = if Sx.plainB name = false then 1 else 0) := by show _ = _; rw [HE2.out, h3]; simp [show name.length ≤ 24 by omega]
   clear HE2
   obtain ⟨b, h5⟩ : ∃ b, Sx.plainB name = b := ⟨_, rfl⟩
   have H5 : Hid (Sx.plainB (⟨name.toArray⟩ : ByteArray).data.toList = b) := by show _ = _; rw [← h5]
   have HE4 : Hid (E = if b = false then 1 else 0) := by show _ = _; rw [HE3.out, h5]
   clear h5 HE3
   go_enter Tryz.func76, Tryz.ntmps76
   cases b
   all_goals
    go_wp2_with (first | (go_at_call 77; refine (between_any _ _ _ _).mono ?_; rintro e w1 ⟨rfl, rfl⟩; simp only [h1, h2]) | (go_at_call 138; refine (rPlain_is _ _ HN.out H5.out).mono ?_; rintro e w1 ⟨rfl, rfl⟩))
    go_ret
    exact ⟨ret_int (by rw [HE4.out]; rfl), HB.out⟩
end Go.Proofs.YtkhlkohlccndgaaGreat

namespace Go.Proofs.YtkhlkohlccndgaaGreat
open Go.RowKit

def nameB (l : Tx.Bs) : Bool := !l.isEmpty && decide (l.length ≤ 24) && Sx.plainB l
theorem nameOfTime_is (l : Tx.Bs) (w : World) (hs : l.length ≤ maxLen) {b : Bool} (h : nameB l = b) :
  Calls Tryz.prog 134 #[strV l] w fun e w' => e = .returned (.bool b) ∧ w' = w := by
 have hn : (⟨l.toArray⟩ : ByteArray).size ≤ maxLen := by simpa [ByteArray.size] using hs
 have HS : Hid (∀ r, (decide (l.length ≤ 24) && Sx.plainB l) = r → Calls Tryz.prog 178 #[strV l] w fun e w' => e = .returned (.bool r) ∧ w' = w) := fun r hr => pPlain_is ⟨l.toArray⟩ w hn (by simpa [ByteArray.size] using hr)
 clear hn hs
 cases h1 : l.isEmpty
 case true =>
  have HB : Hid (b = false) := by show _ = _; rw [← h, nameB, h1]; rfl
  clear h
  go_enter Tryz.func134, Tryz.ntmps134
  go_wp2_with fail
  go_ret
  exact ⟨ret_bool (by rw [HB.out]), rfl⟩
 case false =>
  have HB : Hid ((decide (l.length ≤ 24) && Sx.plainB l) = b) := by show _ = _; rw [← h, nameB, h1]; simp
  clear h
  have HC := hid (HS.out b HB.out)
  clear HS HB
  go_enter Tryz.func134, Tryz.ntmps134
  go_wp2_with (go_at_call 178; refine HC.out.mono ?_; rintro e w1 ⟨rfl, rfl⟩)
  go_ret
  exact ⟨ret_bool rfl, rfl⟩
theorem pCheckLocal_any (l : Tb.Lc) (w : World) (hl : l.name.length ≤ maxLen) :
  Calls Tryz.prog 73 #[lcV l] w fun e w' => e = .returned (.int .i64 (Tb.localE l)) ∧ Below w.heap.size w w' := by
 obtain ⟨shift, save, name⟩ := l
 obtain ⟨E, hE⟩ : ∃ E, Tb.localE ⟨shift, save, name⟩ = E := ⟨_, rfl⟩
 rw [hE]
 have HE : Hid (E = if (Sx.inB shift (-75600) 75600 && Sx.inB save 0 10800) = false then 3 else if nameB name = false then 1 else 0) := by show _ = _; rw [← hE]; rfl
 have hb : Below w.heap.size w (w.alloc (.cells #[.int .i64 shift, .int .i64 save, strV name] 31)) := (Below.refl _ _).alloc (Nat.le_refl _) _
 have HB := hid hb
 have HL := hid hl
 clear hE hb hl
 have h5 : shift < -75600 ∨ (-75600 ≤ shift ∧ 75600 < shift) ∨ (-75600 ≤ shift ∧ shift ≤ 75600 ∧ save < 0) ∨ (-75600 ≤ shift ∧ shift ≤ 75600 ∧ 0 ≤ save ∧ 10800 < save) ∨ (-75600 ≤ shift ∧ shift ≤ 75600 ∧ 0 ≤ save ∧ save ≤ 10800) := by omega
 have HX : Hid ((¬ ((-75600 : Int) ≤ shift ∧ shift ≤ 75600 ∧ 0 ≤ save ∧ save ≤ 10800)) → E = 3) := by
  intro q
  rw [HE.out, if_pos]
  by_cases q1 : (-75600 : Int) ≤ shift ∧ shift ≤ 75600
  ·have q2 : ¬ (0 ≤ save ∧ save ≤ 10800) := by omega
   simp [Sx.inB, q2]
  ·simp [Sx.inB, q1]
 rcases h5 with h1 | ⟨h1, h2⟩ | ⟨h1, h2, h3⟩ | ⟨h1, h2, h3, h4⟩ | ⟨h1, h2, h3, h4⟩
 case inr.inr.inr.inr =>
  obtain ⟨b, h5⟩ : ∃ b, nameB name = b := ⟨_, rfl⟩
  have HY : Hid (E = if b = false then 1 else 0) := by show _ = _; rw [HE.out, if_neg (by simp [Sx.inB, h1, h2, h3, h4]), h5]
  have H5 := hid h5
  clear HE HX h5
  cases b
  all_goals
   go_enter Tryz.func73, Tryz.ntmps73
   go_wp2_with (go_at_call 134; refine (nameOfTime_is _ _ HL.out H5.out).mono ?_; rintro e w1 ⟨rfl, rfl⟩)
   go_ret
   exact ⟨ret_int (by rw [HY.out]; rfl), HB.out⟩
 all_goals
  have H3 : Hid (E = 3) := HX.out (by omega)
  clear HE HX
  go_enter Tryz.func73, Tryz.ntmps73
  go_wp2_with fail
  go_ret
  exact ⟨ret_int (by rw [H3.out]), HB.out⟩
theorem pInYears_is (n : Int) (w : World) {b : Bool} (h : Tb.inYears n = b) :
  Calls Tryz.prog 47 #[.int .i64 n] w fun e w' => e = .returned (.bool b) ∧ w' = w := by
 have H : Hid (b = decide ((-62135596800 : Int) ≤ n ∧ n ≤ 253402300799)) := h.symm
 clear h
 have h5 : n < -62135596800 ∨ (-62135596800 ≤ n ∧ n ≤ 253402300799) ∨ (-62135596800 ≤ n ∧ 253402300799 < n) := by omega
 rcases h5 with h1 | ⟨h1, h2⟩ | ⟨h1, h2⟩
 all_goals
  go_enter Tryz.func47, Tryz.ntmps47
  go_wp2
  go_ret
  exact ⟨ret_bool (by rw [H.out, Bool.eq_iff_iff]; simp only [Bool.or_eq_true, Bool.and_eq_true, decide_eq_true_eq, Bool.false_eq_true, iff_false, false_iff, iff_true, true_iff]; omega), rfl⟩
end Go.Proofs.YtkhlkohlccndgaaGreat
namespace Go.Proofs.YtkhlkohlccndgaaGreat
open Go.RowKit Go.Shelf
attribute [local go_sem] Oper.semAt_some
attribute [local go_sem ↓] Go.wp_at_zero Go.wp_at_succ

/- the era at a time, and what stands there -/
def eraAt (z : Sx.Zn) (at_ : Int) : Sx.Er := (z.eras.find? fun x => x.opn || decide (at_ < endAt x)).getD zeroE
def localE (rs : List Sx.Rl) (z : Sx.Zn) (at_ : Int) : Tb.Lc := ⟨(eraAt z at_).shift + (savedT rs (eraAt z at_) at_).save, (savedT rs (eraAt z at_) at_).save, nameE (eraAt z at_).format (savedT rs (eraAt z at_) at_).save (savedT rs (eraAt z at_) at_).letter⟩
def atE (F at_ : Int) : Int := if F ≠ 0 then F else if Tb.inYears at_ = true then 0 else 3
def atL (F at_ : Int) (rs : List Sx.Rl) (z : Sx.Zn) : Tb.Lc := if atE F at_ = 0 then localE rs z at_ else lc0
/- what At leans on in a zone that is found -/
structure AtOk (rs : List Sx.Rl) (z : Sx.Zn) (at_ : Int) : Prop where
 few : z.eras.length ≤ 10000
 ok : ∀ e ∈ z.eras, e.opn = true ∨ EndOk e
 times : (Sx.times rs (eraAt z at_).rules (eraAt z at_).shift).length ≤ 10000
 fmt : (eraAt z at_).format.length ≤ 1000000
 let_ : (savedT rs (eraAt z at_) at_).letter.length ≤ 1000000
 sh : -1000000000000 ≤ (eraAt z at_).shift ∧ (eraAt z at_).shift ≤ 1000000000000
 sv : -1000000000000 ≤ (savedT rs (eraAt z at_) at_).save ∧ (savedT rs (eraAt z at_) at_).save ≤ 1000000000000
theorem at_keep {M N k : Nat} {y : Sx.Er} {r a v : Value} {W : World} (h : EraH M y W ∧ W.cell? ⟨N, 0, none⟩ = some r ∧ W.cell? ⟨N + 1, 0, none⟩ = some a) (hn : ¬ M = N + 1 + 1) :
  EraH M y (W.setCell ⟨N + 1 + 1, k, none⟩ v) ∧ (W.setCell ⟨N + 1 + 1, k, none⟩ v).cell? ⟨N, 0, none⟩ = some r ∧ (W.setCell ⟨N + 1 + 1, k, none⟩ v).cell? ⟨N + 1, 0, none⟩ = some a := by
 have e : ∀ b j, ¬ b = N + 1 + 1 → (W.setCell ⟨N + 1 + 1, k, none⟩ v).cell? ⟨b, j, none⟩ = W.cell? ⟨b, j, none⟩ := fun b j hb => World.cell?_of_block (Below.heap_setCell _ _ _ _ hb)
 obtain ⟨⟨b0, b1, b2, b3, b4, b5, b6, b7, b8, b9⟩, hr, ha⟩ := h
 exact ⟨⟨(e M 0 hn).trans b0, (e M 1 hn).trans b1, (e M 2 hn).trans b2, (e M 3 hn).trans b3, (e M 4 hn).trans b4, (e M 5 hn).trans b5, (e M 6 hn).trans b6, (e M 7 hn).trans b7, (e M 8 hn).trans b8, (e M 9 hn).trans b9⟩, (e N 0 (by omega)).trans hr, (e (N + 1) 0 (by omega)).trans ha⟩
theorem at_seq (nm : Tx.Bs) (at_ m : Int) (rs : List Sx.Rl) (z : Sx.Zn) (F : Int) (ra za la : Option Addr) (n2 n3 rcap zcap lcap : Nat) (w : World) (h1 : RdRules w (.slice ra rs.length rcap) rs) (hs : ∀ r ∈ rs, r.name.length ≤ maxLen ∧ r.letter.length ≤ maxLen)
  (hm : w.cell? ⟨0, 0, none⟩ = some (.int .i64 m)) (h0 : 0 < w.heap.size) (hF : FindAt (.agg #[.slice ra rs.length rcap, .slice za n2 zcap, .slice la n3 lcap]) nm F z w) (hz : F = 0 → Tb.inYears at_ = true → AtOk rs z at_) :
  Calls Tryz.prog 15 #[.agg #[.slice ra rs.length rcap, .slice za n2 zcap, .slice la n3 lcap], strV nm, .int .i64 at_] w fun e w' => e = .returned (.tuple #[lcV (atL F at_ rs z), .int .i64 (atE F at_)]) ∧ Below w.heap.size w w' := by
 have HZ := hid hz
 have H1 := hid h1
 have HS := hid hs
 have HM := hid hm
 have H0 := hid h0
 obtain ⟨N, hN⟩ : ∃ N, w.heap.size = N := ⟨_, rfl⟩
 obtain ⟨V, hV⟩ : ∃ V, ((w.alloc (.cells #[.slice ra rs.length rcap, .slice za n2 zcap, .slice la n3 lcap] 26)).alloc (.cells #[.int .i64 at_] 3)).alloc (.cells #[.int .i64 0, .int .i64 0, .string ⟨#[]⟩] 31) = V := ⟨_, rfl⟩
 have XS := ca_alloc (ca_alloc (ca_new w [.slice ra rs.length rcap, .slice za n2 zcap, .slice la n3 lcap] 26) (.cells #[.int .i64 at_] 3)) (.cells #[.int .i64 0, .int .i64 0, .string ⟨#[]⟩] 31)
 have XT := ca_alloc (ca_new (w.alloc (.cells #[.slice ra rs.length rcap, .slice za n2 zcap, .slice la n3 lcap] 26)) [.int .i64 at_] 3) (.cells #[.int .i64 0, .int .i64 0, .string ⟨#[]⟩] 31)
 have XL := ca_new ((w.alloc (.cells #[.slice ra rs.length rcap, .slice za n2 zcap, .slice la n3 lcap] 26)).alloc (.cells #[.int .i64 at_] 3)) [.int .i64 0, .int .i64 0, .string ⟨#[]⟩] 31
 have e1 : ((w.alloc (.cells [.slice ra rs.length rcap, .slice za n2 zcap, .slice la n3 lcap].toArray 26)).alloc (.cells #[.int .i64 at_] 3)).alloc (.cells #[.int .i64 0, .int .i64 0, .string ⟨#[]⟩] 31) = V := hV
 have e2 : ((w.alloc (.cells #[.slice ra rs.length rcap, .slice za n2 zcap, .slice la n3 lcap] 26)).alloc (.cells [.int .i64 at_].toArray 3)).alloc (.cells #[.int .i64 0, .int .i64 0, .string ⟨#[]⟩] 31) = V := hV
 have e3 : ((w.alloc (.cells #[.slice ra rs.length rcap, .slice za n2 zcap, .slice la n3 lcap] 26)).alloc (.cells #[.int .i64 at_] 3)).alloc (.cells [.int .i64 0, .int .i64 0, .string ⟨#[]⟩].toArray 31) = V := hV
 rw [e1, hN] at XS
 rw [e2] at XT
 rw [e3] at XL
 simp only [World.size_alloc, hN] at XT XL
 have BV : Hid (Below N w V) := by show Below _ _ _; rw [← hV]; exact (((Below.refl N w).alloc (by omega) _).alloc (by simp; omega) _).alloc (by simp; omega) _
 have sV := XL.1
 obtain ⟨s0, _⟩ := ca_at XS 0 rfl
 obtain ⟨s1, _⟩ := ca_at XS 1 rfl
 obtain ⟨s2, _⟩ := ca_at XS 2 rfl
 have HXS := hid XS
 have HXT := hid XT
 have HXL := hid XL
 have HNN := hid hN
 have CF := hid (hF V (by rw [hN]; exact BV.out))
 clear XS XT XL e1 e2 e3 h1 hs hm h0 hF hz
 go_enter Tryz.func15, Tryz.ntmps15
 simp only [hN]
 go_wp2_with fail
 refine CF.out.mono ?_
 rintro e w1 ⟨v, rfl, hO, hb⟩
 have R1 := hid (rdEras_own hO)
 obtain ⟨ca, cc, rfl⟩ := owns_shape0 hO
 have CAP := hid (ownEras_cap hO)
 have B1 : Hid (Below N w w1) := BV.out.trans (hb.mono (by omega))
 have S1 := hid (ca_below HXS.out hb)
 have T1 := hid (ca_below HXT.out hb)
 have L1 := hid (ca_below HXL.out hb)
 have h1 := hid (show N ≤ N + 1 + 1 by omega)
 clear hO hb CF s0 s1 s2 sV BV HXS HXT HXL
 obtain ⟨M0, hM0⟩ : ∃ M0, w1.heap.size = M0 := ⟨_, rfl⟩
 obtain ⟨V1, hV1⟩ : ∃ V1, w1.alloc (.cells #[.string ⟨z.name.toArray⟩, .slice ca z.eras.length cc] 44) = V1 := ⟨_, rfl⟩
 have Y1 : Hid (CellsAt V1 M0 [strV z.name, .slice ca z.eras.length cc]) := by show CellsAt _ _ _; rw [← hV1, ← hM0]; exact ca_new w1 [strV z.name, .slice ca z.eras.length cc] 44
 have BV1 : Hid (Below w1.heap.size w1 V1) := by show Below _ _ _; rw [← hV1]; exact (Below.refl w1.heap.size w1).alloc (Nat.le_refl _) _
 have HM0 := hid hM0
 have LV := hid (ca_below L1.out BV1.out)
 have TV := hid (ca_below T1.out BV1.out)
 have SV1 := hid (ca_below S1.out BV1.out)
 have BN : Hid (Below N w V1) := B1.out.trans (BV1.out.mono (by have := B1.out.size; rw [HNN.out] at this; exact this))
 obtain ⟨l0, g0⟩ := ca_at LV.out 0 rfl
 obtain ⟨l1, g1⟩ := ca_at LV.out 1 rfl
 obtain ⟨l2, g2⟩ := ca_at LV.out 2 rfl
 have sL := LV.out.1
 by_cases hq : F = 0
 case neg =>
  have hq2 : (F == 0) = false := by simp [hq]
  have E1 : Hid (atE F at_ = F) := by show _ = _; unfold atE; rw [if_pos hq]
  have E2 : Hid (atL F at_ rs z = lc0) := by show _ = _; unfold atL; rw [E1.out, if_neg hq]
  have HQ := hid hq
  have h2 := hid (below_put (below_put (below_put BN.out h1.out 0 (.int .i64 0)) h1.out 1 (.int .i64 0)) h1.out 2 (.string ⟨#[]⟩))
  go_wp2
  refine bodyPost_ret (v := .tuple #[lcV lc0, .int .i64 F]) (by simp [results, Tryz.results15, go_sem, lc0, *]) rfl ⟨by rw [E1.out, E2.out], h2.out⟩
 subst hq
 obtain ⟨q, hq⟩ : ∃ q, Tb.inYears at_ = q := ⟨_, rfl⟩
 have HQ := hid hq
 cases q
 case false =>
  have E1 : Hid (atE 0 at_ = 3) := by show _ = _; unfold atE; rw [hq]; rfl
  have E2 : Hid (atL 0 at_ rs z = lc0) := by show _ = _; unfold atL; rw [E1.out]; rfl
  clear hq
  have CY := hid (pInYears_is at_ V1 HQ.out)
  obtain ⟨t0, _⟩ := ca_at TV.out 0 rfl
  have sT := TV.out.1
  have h2 := hid (below_put (below_put (below_put BN.out h1.out 0 (.int .i64 0)) h1.out 1 (.int .i64 0)) h1.out 2 (.string ⟨#[]⟩))
  go_wp2_with fail
  refine CY.out.mono ?_
  rintro e w2 ⟨rfl, rfl⟩
  clear CY
  go_wp2
  refine bodyPost_ret (v := .tuple #[lcV lc0, .int .i64 3]) (by simp [results, Tryz.results15, go_sem, lc0, *]) rfl ⟨by rw [E1.out, E2.out], h2.out⟩
 have AO := hid (HZ.out rfl hq)
 have E1 : Hid (atE 0 at_ = 0) := by show _ = _; unfold atE; rw [hq]; rfl
 have E2 : Hid (atL 0 at_ rs z = localE rs z at_) := by show _ = _; unfold atL; rw [E1.out]; rfl
 have CY := hid (pInYears_is at_ V1 HQ.out)
 clear HZ hq
 obtain ⟨t0, _⟩ := ca_at TV.out 0 rfl
 have sT := TV.out.1
 obtain ⟨z0, _⟩ := ca_at Y1.out 0 rfl
 obtain ⟨z1, _⟩ := ca_at Y1.out 1 rfl
 have sZ := Y1.out.1
 go_wp2_with fail
 refine CY.out.mono ?_
 rintro e w2 ⟨rfl, rfl⟩
 clear CY
 obtain ⟨K0, hK0⟩ : ∃ K0, w2.heap.size = K0 := ⟨_, rfl⟩
 obtain ⟨U2, hU2⟩ : ∃ U2, (w2.alloc (.cells #[strV z.name, .slice ca z.eras.length cc] 44)).alloc (.cells #[.slice (some ⟨K0, 0, none⟩) 1 1] 23) = U2 := ⟨_, rfl⟩
 have uS : U2.heap.size = K0 + 2 := by rw [← hU2]; simp [hK0]
 have CAz := ca_alloc (ca_new w2 [strV z.name, .slice ca z.eras.length cc] 44) (.cells #[.slice (some ⟨K0, 0, none⟩) 1 1] 23)
 have CAs := ca_new (w2.alloc (.cells #[strV z.name, .slice ca z.eras.length cc] 44)) [.slice (some ⟨K0, 0, none⟩) 1 1] 23
 have eu1 : (w2.alloc (.cells [strV z.name, .slice ca z.eras.length cc].toArray 44)).alloc (.cells #[.slice (some ⟨K0, 0, none⟩) 1 1] 23) = U2 := hU2
 have eu2 : (w2.alloc (.cells #[strV z.name, .slice ca z.eras.length cc] 44)).alloc (.cells [.slice (some ⟨K0, 0, none⟩) 1 1].toArray 23) = U2 := hU2
 rw [eu1, hK0] at CAz
 rw [eu2] at CAs
 simp only [World.size_alloc, hK0] at CAs
 have BU : Hid (Below w2.heap.size w2 U2) := by show Below _ _ _; rw [← hU2]; exact ((Below.refl _ w2).alloc (Nat.le_refl _) _).alloc (by simp) _
 have RZ : RdZv U2 (.slice (some ⟨K0, 0, none⟩) [(⟨z, ca, cc⟩ : ZV)].length 1) [z] [⟨z, ca, cc⟩] := by
  refine ⟨rfl, ⟨some ⟨K0, 0, none⟩, 1, rfl, fun _ => ⟨K0, 0, rfl, CAz.1, ?_⟩⟩, ?_, ?_⟩
  ·intro i y hy k u hu
   match i, hy with
   | 0, hy =>
     simp at hy; subst hy
     have := (ca_at CAz k hu).1
     simpa using this
  ·intro p hp
   simp at hp; subst hp
   exact rd_below R1.out (BV1.out.trans (BU.out.mono BV1.out.size))
  ·intro p hp
   simp at hp; subst hp
   exact CAP.out
 have eA : ∀ args w, (callFunc 50 args).run Tryz.prog w = .ok (.enter 50 args) w := enters_of Tryz.func50 (by kernel_rfl) rfl
 have eE : ∀ args w, (callFunc 110 args).run Tryz.prog w = .ok (.enter 110 args) w := enters_of Tryz.func110 (by kernel_rfl) rfl
 have TU := ca_below TV.out BU.out
 have CE := hid (firstE_any 110 50 #[.pointer (some ⟨K0 + 1, 0, none⟩)] #[.pointer (some ⟨N + 1, 0, none⟩)] (fun x => x.opn || decide (at_ < endAt x)) (erasOf [⟨z, ca, cc⟩]) U2 eE eA
  (fun w1 hw1 => eras_seq 3 (K0 + 1) (by omega) [⟨z, ca, cc⟩] [z] (some ⟨K0, 0, none⟩) 1 U2 w1 RZ (by simp) (fun p hp => by simp at hp; subst hp; exact AO.out.few) ((hw1.cell (p := ⟨K0 + 1, 0, none⟩) CAs.1).trans (ca_at CAs 0 rfl).1) (Nat.lt_of_lt_of_le CAs.1 hw1.size) hw1)
  (fun x hx W' hW' => at1_any x (N + 1) at_ W' (Nat.lt_of_lt_of_le TU.1 hW'.size) ((hW'.cell (p := ⟨N + 1, 0, none⟩) TU.1).trans (ca_at TU 0 rfl).1) (AO.out.ok x (by simpa [erasOf] using hx))))
 have hU3 : (w2.alloc (.cells #[.string ⟨z.name.toArray⟩, .slice ca z.eras.length cc] 44)).alloc (.cells #[.slice (some ⟨K0, 0, none⟩) 1 1] 23) = U2 := hU2
 have HK0 := hid hK0
 clear eA eE RZ CAz CAs eu1 eu2 TU
 go_wp2_with fail
 refine (eras_any _ _ _ _).mono ?_
 rintro e w3 ⟨rfl, rfl⟩
 go_wp2_with fail
 refine CE.out.mono ?_
 rintro e w4 ⟨rfl, hb⟩
 have HB4 : Hid (Below w2.heap.size w2 w4) := BU.out.trans (hb.mono BU.out.size)
 have ey : eraAt z at_ = ((erasOf [⟨z, ca, cc⟩]).find? fun x => x.opn || decide (at_ < endAt x)).getD zeroE := by simp [eraAt, erasOf]
 rw [← ey]
 obtain ⟨A, hA⟩ : ∃ A, ((erasOf [⟨z, ca, cc⟩]).any fun x => x.opn || decide (at_ < endAt x)) = A := ⟨_, rfl⟩
 rw [hA]
 obtain ⟨y, hy⟩ : ∃ y, eraAt z at_ = y := ⟨_, rfl⟩
 obtain ⟨T, hT⟩ : ∃ T, savedT rs y at_ = T := ⟨_, rfl⟩
 obtain ⟨a1, a2, a3, a4, a5, a6, a7⟩ := AO.out
 have EL : Hid (localE rs z at_ = ⟨y.shift + T.save, T.save, nameE y.format T.save T.letter⟩) := by show _ = _; unfold localE; rw [hy, hT]
 rw [hy] at a3 a4 a5 a6 a7 ⊢
 rw [hT] at a5 a7
 obtain ⟨M, hM⟩ : ∃ M, w4.heap.size = M := ⟨_, rfl⟩
 obtain ⟨V3, hV3⟩ : ∃ V3, w4.alloc (.cells (eraCells y).toArray 67) = V3 := ⟨_, rfl⟩
 have XE := ca_new w4 (eraCells y) 67
 rw [hV3, hM] at XE
 have B34 : Below w4.heap.size w4 V3 := by rw [← hV3]; exact (Below.refl w4.heap.size w4).alloc (Nat.le_refl _) _
 have B3 : Hid (Below w2.heap.size w2 V3) := HB4.out.trans (B34.mono HB4.out.size)
 have BN3 : Hid (Below N w V3) := BN.out.trans (B3.out.mono (by have := SV1.out.1; omega))
 have S3 := ca_below SV1.out B3.out
 have T3 := ca_below TV.out B3.out
 have HL3 := hid (ca_below LV.out B3.out)
 have sl3 := HL3.out.1
 have sm3 := XE.1
 have sM : w2.heap.size ≤ M := by have := HB4.out.size; omega
 have sL2 := LV.out.1
 have SX := hid (show EraH M y V3 ∧ V3.cell? ⟨N, 0, none⟩ = some (.slice ra rs.length rcap) ∧ V3.cell? ⟨N + 1, 0, none⟩ = some (.int .i64 at_) from ⟨eraH_of XE, (ca_at S3 0 rfl).1, (ca_at T3 0 rfl).1⟩)
 have KS : Hid (∀ w7, Below V3.heap.size V3 w7 → EraH M y w7 ∧ w7.cell? ⟨N, 0, none⟩ = some (.slice ra rs.length rcap) ∧ w7.cell? ⟨N + 1, 0, none⟩ = some (.int .i64 at_)) := fun w7 hb => ⟨eraH_below SX.out.1 hb sm3, (hb.cell (p := ⟨N, 0, none⟩) (by show N < V3.heap.size; omega)).trans SX.out.2.1, (hb.cell (p := ⟨N + 1, 0, none⟩) (by show N + 1 < V3.heap.size; omega)).trans SX.out.2.2⟩
 have KP : Hid (∀ w8, (EraH M y w8 ∧ w8.cell? ⟨N, 0, none⟩ = some (.slice ra rs.length rcap) ∧ w8.cell? ⟨N + 1, 0, none⟩ = some (.int .i64 at_)) → ∀ v0 v1 v2, (fun w' => EraH M y w' ∧ w'.cell? ⟨N, 0, none⟩ = some (.slice ra rs.length rcap) ∧ w'.cell? ⟨N + 1, 0, none⟩ = some (.int .i64 at_)) (((w8.setCell ⟨N + 1 + 1, 0, none⟩ v0).setCell ⟨N + 1 + 1, 1, none⟩ v1).setCell ⟨N + 1 + 1, 2, none⟩ v2)) := by
  intro w8 h8 v0 v1 v2
  have nM : ¬ M = N + 1 + 1 := by omega
  exact at_keep (at_keep (at_keep h8 nM) nM) nM
 have CS0 := savedAt_any rs (.slice ra rs.length rcap) y at_ V3.drew (rd_below H1.out (by rw [HNN.out]; exact ⟨BN3.out.os, BN3.out.tape, BN3.out.output, BN3.out.size, BN3.out.block⟩)) HS.out a3
 rw [hT] at CS0
 have CS := hid CS0
 have CL := hid (fun (w7 : World) (hb : Below V3.heap.size V3 w7) => local_any y T m w7 a4 a5 ((hb.cell (p := ⟨0, 0, none⟩) (by show 0 < V3.heap.size; omega)).trans ((BN3.out.cell (p := ⟨0, 0, none⟩) (by show 0 < N; have := H0.out; omega)).trans HM.out)) (Nat.lt_of_lt_of_le (by omega) hb.size) a6 a7)
 have hV3x : w4.alloc (.cells #[.int .i64 y.shift, strV y.rules, .int .i64 y.save, strV y.format, .bool y.opn, .int .i64 y.uy, .int .i64 y.um, .int .i64 y.ud, .int .i64 y.uat, .int .i64 y.uclock] 67) = V3 := hV3
 have sz3 := hid (show N ≤ V3.heap.size by omega)
 clear CE hb HB4 B34 hA hy hT ey AO CS0 XE S3 T3 BU hU2 hU3 a1 a2 a3 a4 a5 a6 a7 l0 g0 l1 g1 l2 g2 sL sL2 z0 z1 sZ t0 sT
 have xx := SX.out
 obtain ⟨⟨x0, x1, x2, x3, x4, x5, x6, x7, x8, x9⟩, xr, xa⟩ := xx
 go_wp2_with fail
 refine wp_region_held_drew (S := fun w' => EraH M y w' ∧ w'.cell? ⟨N, 0, none⟩ = some (.slice ra rs.length rcap) ∧ w'.cell? ⟨N + 1, 0, none⟩ = some (.int .i64 at_)) (by kernel_rfl) SX.out (fun hHeld => ?_)
 refine tkH 0 ?vz1 rfl ?z1 ?_
 case z1 => (intro w hSw; (obtain ⟨⟨s0, s1, s2, s3, s4, s5, s6, s7, s8, s9⟩, sr, sa⟩ := hSw); go_simp; try with_reducible rfl)
 try simp only [Act.put, jP, jO, jS, jG, jH, jI]
 refine tkH 1 ?vz2 rfl ?z2 ?_
 case z2 => (intro w hSw; (obtain ⟨⟨s0, s1, s2, s3, s4, s5, s6, s7, s8, s9⟩, sr, sa⟩ := hSw); go_simp; try with_reducible rfl)
 try simp only [Act.put, jP, jO, jS, jG, jH, jI]
 refine tkH 2 ?vz3 rfl ?z3 ?_
 case z3 => (intro w hSw; (obtain ⟨⟨s0, s1, s2, s3, s4, s5, s6, s7, s8, s9⟩, sr, sa⟩ := hSw); go_simp; try with_reducible rfl)
 try simp only [Act.put, jP, jO, jS, jG, jH, jI]
 refine tkH 3 ?vz4 rfl ?z4 ?_
 case z4 => (intro w hSw; (obtain ⟨⟨s0, s1, s2, s3, s4, s5, s6, s7, s8, s9⟩, sr, sa⟩ := hSw); go_simp; try with_reducible rfl)
 try simp only [Act.put, jP, jO, jS, jG, jH, jI]
 refine tkH 4 ?vz5 rfl ?z5 ?_
 case z5 => (intro w hSw; (obtain ⟨⟨s0, s1, s2, s3, s4, s5, s6, s7, s8, s9⟩, sr, sa⟩ := hSw); go_simp; try with_reducible rfl)
 try simp only [Act.put, jP, jO, jS, jG, jH, jI]
 refine rdH 5 rfl fun K hK => ?_
 go_simp
 refine CS.out.mono ?_
 rintro e w7 ⟨rfl, hb7⟩
 have hb7' := below_drew1 hb7
 have S7 := KS.out w7 hb7'
 have CL7 := hid (CL.out w7 hb7')
 refine hK.out _ _ ?_ (fun hHeld => ?_)
 ·exact S7
 clear hK K
 try simp only [Act.put, jP, jO, jS, jG, jH, jI]
 refine rdH 6 rfl fun K hK => ?_
 go_simp
 refine CL7.out.mono ?_
 rintro e w8 ⟨rfl, hb8⟩
 have hb78 := hb7'.trans (hb8.mono hb7'.size)
 have S8 := KS.out w8 hb78
 have L8 := ca_below HL3.out hb78
 obtain ⟨l0, g0⟩ := ca_at L8 0 rfl
 obtain ⟨l1, g1⟩ := ca_at L8 1 rfl
 obtain ⟨l2, g2⟩ := ca_at L8 2 rfl
 have sL := L8.1
 refine hK.out _ _ ?_ (fun hHeld => ?_)
 ·exact S8
 clear hK K
 try simp only [Act.put, jP, jO, jS, jG, jH, jI]
 refine rdH 7 rfl fun K hK => ?_
 go_simp
 have S9 := KP.out w8 S8 (.int .i64 (y.shift + T.save)) (.int .i64 T.save) (.string ⟨(nameE y.format T.save T.letter).toArray⟩)
 refine hK.out _ _ ?_ (fun hHeld => ?_)
 ·exact S9
 clear hK K
 try simp only [Act.put, jP, jO, jS, jG, jH, jI]
 refine tkH 8 ?vz6 rfl ?z6 ?_
 case z6 => (intro w hSw; (obtain ⟨⟨s0, s1, s2, s3, s4, s5, s6, s7, s8, s9⟩, sr, sa⟩ := hSw); go_simp; try with_reducible rfl)
 try simp only [Act.put, jP, jO, jS, jG, jH, jI]
 refine wpAnyH_done (by kernel_rfl) ?_ _
 have b8 : Below N w w8 := BN3.out.trans (hb78.mono sz3.out)
 have h2 := hid (below_put (below_put (below_put b8 h1.out 0 (.int .i64 (y.shift + T.save))) h1.out 1 (.int .i64 T.save)) h1.out 2 (.string ⟨(nameE y.format T.save T.letter).toArray⟩))
 clear hb78 hb8 hb7 hb7' S7 S8 S9 b8
 go_wp2
 refine bodyPost_ret (v := .tuple #[lcV ⟨y.shift + T.save, T.save, nameE y.format T.save T.letter⟩, .int .i64 0]) (by simp [results, Tryz.results15, go_sem, *]) rfl ⟨by rw [E1.out, E2.out, EL.out], h2.out⟩
end Go.Proofs.YtkhlkohlccndgaaGreat
namespace Go.Proofs.YtkhlkohlccndgaaGreat.Sx
theorem timesFrom_mem {sh : Int} : ∀ {l : List Tn} {s : Int} {x : Tm}, x ∈ timesFrom sh s l → ∃ t ∈ l, x.letter = t.letter ∧ x.save = t.save
 | [], _, _, h => by cases h
 | t :: r, s, x, h => by
   rcases List.mem_cons.1 h with rfl | h
   ·exact ⟨t, by simp, rfl, rfl⟩
   ·obtain ⟨u, hu, q⟩ := timesFrom_mem h
    exact ⟨u, List.mem_cons_of_mem _ hu, q⟩
theorem turnsOf_memZ {rs : List Rl} {nm : Tx.Bs} {t : Tn} (h : t ∈ turnsOf rs nm) : ∃ r ∈ rs, t.letter = r.letter ∧ t.save = r.save := by
 unfold turnsOf at h
 obtain ⟨r, hr, q⟩ := List.mem_flatMap.1 h
 obtain ⟨k, _, rfl⟩ := List.mem_map.1 q
 exact ⟨r, (List.mem_filter.1 hr).1, rfl, rfl⟩
theorem times_fewZ (rs : List Rl) (nm : Tx.Bs) (sh : Int) : (times rs nm sh).length ≤ 1000 := by
 unfold times
 split
 ·rename_i h
  rw [timesFrom_len, (isort_perm _).length_eq]
  by_cases q : 1000 < (turnsOf rs nm).length
  ·exfalso
   unfold timesE at h
   rw [if_pos q] at h
   split at h
   ·rename_i h2; exact h2 h
   ·split at h
    ·omega
    ·split at h
     ·omega
     ·split at h <;> omega
  ·omega
 ·simp
theorem times_memZ {rs : List Rl} {nm : Tx.Bs} {sh : Int} {x : Tm} (h : x ∈ times rs nm sh) : ∃ r ∈ rs, x.letter = r.letter ∧ x.save = r.save := by
 unfold times at h
 split at h
 ·obtain ⟨t, ht, e1, e2⟩ := timesFrom_mem h
  obtain ⟨r, hr, e3, e4⟩ := turnsOf_memZ ((isort_perm _).mem_iff.1 ht)
  exact ⟨r, hr, e1.trans e3, e2.trans e4⟩
 ·cases h
end Go.Proofs.YtkhlkohlccndgaaGreat.Sx
namespace Go.Proofs.YtkhlkohlccndgaaGreat
open Go.RowKit Go.Shelf
theorem lastT_mem (p : Sx.Tm → Bool) (l : List Sx.Tm) : lastT p l = zeroT ∨ lastT p l ∈ l := by
 have aux : ∀ (l : List Sx.Tm) (a : Sx.Tm), l.foldl (fun a x => if p x = true then x else a) a = a ∨ l.foldl (fun a x => if p x = true then x else a) a ∈ l := by
  intro l
  induction l with
  | nil => intro a; exact .inl rfl
  | cons x r ih =>
    intro a
    rw [List.foldl_cons]
    rcases ih (if p x = true then x else a) with q | q
    ·rw [q]
     split
     ·exact .inr (by simp)
     ·exact .inl rfl
    ·exact .inr (List.mem_cons_of_mem _ q)
 exact aux l zeroT
theorem errs_zero {c : Nat → Int} (h : errsOf c = 0) : ∀ i < 5, c i = 0 := by
 unfold errsOf at h
 split at h
 ·rename_i q; exact absurd h q
 rename_i q0
 split at h
 ·rename_i q; exact absurd h q
 rename_i q1
 split at h
 ·rename_i q; exact absurd h q
 rename_i q2
 split at h
 ·rename_i q; exact absurd h q
 rename_i q3
 simp at q0 q1 q2 q3
 intro i hi
 rcases (show i = 0 ∨ i = 1 ∨ i = 2 ∨ i = 3 ∨ i = 4 by omega) with rfl | rfl | rfl | rfl | rfl <;> assumption
def zoneF (s : Sx.Sr) (xs : List ZV) (nm : Tx.Bs) : Int := findE (zoneErr s xs) xs s.links nm
def zoneZ (s : Sx.Sr) (xs : List ZV) (nm : Tx.Bs) : Sx.Zn := findZ (zoneErr s xs) xs s.links nm
theorem zoneF_src {s : Sx.Sr} {xs : List ZV} {nm : Tx.Bs} (h : zoneF s xs nm = 0) : zoneErr s xs = 0 ∧ zvHas xs (nameTo s.links nm) = true := by
 unfold zoneF findE at h
 split at h
 ·rename_i q; exact absurd h q
 ·rename_i q
  simp at q
  split at h
  ·rename_i q2; exact ⟨q, q2⟩
  ·cases h
theorem zFind_any (s : Sx.Sr) (xs : List ZV) (ra za la : Option Addr) (rcap zcap lcap : Nat) (m : Int) (nm : Tx.Bs) (w : World) (h : SrcIn s xs ra za la rcap zcap lcap m w) :
  FindAt (.agg #[.slice ra s.rules.length rcap, .slice za xs.length zcap, .slice la s.links.length lcap]) nm (zoneF s xs nm) (zoneZ s xs nm) w := by
 intro W hW
 have g := srcIn_below h hW
 refine find_seq (zoneErr s xs) nm s.zones s.links xs ra za la s.rules.length rcap zcap lcap W g.zv g.links ?_ (fun W' hW' => zCheck_any s xs ra za la rcap zcap lcap m W' (srcIn_below g hW'))
 intro hE
 have ok := Sx.src_okZ (errs_zero hE 0 (by omega))
 obtain ⟨f1, f2, f3, f4⟩ := many_few ok.many
 have hl := rdZv_len h.zv
 exact ⟨by omega, by omega, fun p hp => by have := f4 p.z (zv_mem h.zv hp); omega⟩
/- what a zone that is found is -/
theorem zoneZ_ok {s : Sx.Sr} {xs : List ZV} {v : Value} {w : World} {nm : Tx.Bs} (hz : RdZv w v s.zones xs) (h : zoneF s xs nm = 0) : Sx.SrcOk s ∧ zoneZ s xs nm ∈ s.zones ∧ (zoneZ s xs nm).eras.length ≤ 8 ∧ ∀ e ∈ (zoneZ s xs nm).eras, Sx.EraOk e := by
 obtain ⟨h1, h2⟩ := zoneF_src h
 have ok := Sx.src_okZ (errs_zero h1 0 (by omega))
 obtain ⟨f1, f2, f3, f4⟩ := many_few ok.many
 have e : zoneZ s xs nm = (zvAt xs (nameTo s.links nm)).z := by unfold zoneZ findZ; rw [show findE (zoneErr s xs) xs s.links nm = 0 from h]; rfl
 have hm : zoneZ s xs nm ∈ s.zones := by rw [e]; exact zv_mem hz (zvAt_mem h2)
 exact ⟨ok, hm, f4 _ hm, Sx.zone_eras (ok.zone _ hm)⟩
theorem zEnds_any (s : Sx.Sr) (xs : List ZV) (ra za la : Option Addr) (rcap zcap lcap : Nat) (m : Int) (nm : Tx.Bs) (w : World) (h : SrcIn s xs ra za la rcap zcap lcap m w) :
  Calls Tryz.prog 17 #[.agg #[.slice ra s.rules.length rcap, .slice za xs.length zcap, .slice la s.links.length lcap], strV nm] w fun e w' => ∃ v, e = .returned (.tuple #[v, .int .i64 (zoneF s xs nm)]) ∧ OwnEnds w' w.heap.size v (if zoneF s xs nm = 0 then endsE (zoneZ s xs nm).eras else []) ∧ Below w.heap.size w w' := by
 refine ends_seq nm (zoneZ s xs nm) (zoneF s xs nm) ra za la _ _ _ rcap zcap lcap w (zFind_any s xs ra za la rcap zcap lcap m nm w h) ?_
 intro hF
 obtain ⟨_, _, h3, h4⟩ := zoneZ_ok h.zv hF
 exact ⟨by omega, fun e he => (h4 e he).till⟩
theorem eraAt_in (z : Sx.Zn) (at_ : Int) : eraAt z at_ = zeroE ∨ eraAt z at_ ∈ z.eras := by
 unfold eraAt
 cases hf : z.eras.find? (fun x => x.opn || decide (at_ < endAt x)) with
 | none => exact .inl rfl
 | some y => exact .inr (List.mem_of_find?_eq_some hf)
theorem atOk_of {s : Sx.Sr} {z : Sx.Zn} {at_ : Int} (ok : Sx.SrcOk s) (h8 : z.eras.length ≤ 8) (he : ∀ e ∈ z.eras, Sx.EraOk e) : AtOk s.rules z at_ := by
 have hx : (eraAt z at_).format.length ≤ 24 ∧ (-64800 ≤ (eraAt z at_).shift ∧ (eraAt z at_).shift ≤ 64800) ∧ (0 ≤ (eraAt z at_).save ∧ (eraAt z at_).save ≤ 10800) := by
  rcases eraAt_in z at_ with q | q
  ·rw [q]; simp [zeroE]
  ·have o := he _ q
   have f := o.fmt
   unfold Sx.formatB at f
   simp at f
   exact ⟨f.1.2, ⟨o.sh0, o.sh1⟩, ⟨o.sv0, o.sv1⟩⟩
 have ht : (savedT s.rules (eraAt z at_) at_).letter.length ≤ 24 ∧ (0 ≤ (savedT s.rules (eraAt z at_) at_).save ∧ (savedT s.rules (eraAt z at_) at_).save ≤ 10800) := by
  unfold savedT
  split
  ·exact ⟨by simp, hx.2.2⟩
  ·rcases lastT_mem (fun t => decide (t.at_ ≤ at_)) (Sx.times s.rules (eraAt z at_).rules (eraAt z at_).shift) with q | q
   ·rw [q]; simp [zeroT]
   ·obtain ⟨r, hr, e1, e2⟩ := Sx.times_memZ q
    have hr0 := ok.rule r hr
    have ro := Sx.rule_ok hr0
    rw [e1, e2]
    refine ⟨?_, ro.save⟩
    unfold Sx.ruleE at hr0
    split at hr0
    ·cases hr0
    ·rename_i g
     simp [Sx.lettersB] at g
     exact g.2.2
 have h1 := Sx.times_fewZ s.rules (eraAt z at_).rules (eraAt z at_).shift
 exact ⟨by omega, fun e q => (he e q).till, by omega, by omega, by omega, by omega, by omega⟩
theorem zAt_any (s : Sx.Sr) (xs : List ZV) (ra za la : Option Addr) (rcap zcap lcap : Nat) (m at_ : Int) (nm : Tx.Bs) (w : World) (h : SrcIn s xs ra za la rcap zcap lcap m w) :
  Calls Tryz.prog 15 #[.agg #[.slice ra s.rules.length rcap, .slice za xs.length zcap, .slice la s.links.length lcap], strV nm, .int .i64 at_] w fun e w' => e = .returned (.tuple #[lcV (atL (zoneF s xs nm) at_ s.rules (zoneZ s xs nm)), .int .i64 (atE (zoneF s xs nm) at_)]) ∧ Below w.heap.size w w' := by
 refine at_seq nm at_ m s.rules (zoneZ s xs nm) (zoneF s xs nm) ra za la _ _ rcap zcap lcap w h.rules h.size.rules h.max h.pos (zFind_any s xs ra za la rcap zcap lcap m nm w h) ?_
 intro hF _
 obtain ⟨h1, _, h3, h4⟩ := zoneZ_ok h.zv hF
 exact atOk_of h1 h3 h4
end Go.Proofs.YtkhlkohlccndgaaGreat
namespace Go.Proofs.YtkhlkohlccndgaaGreat
open Go.RowKit
theorem named_new (w : World) (a : Array Value) (t : TypeId) : ∃ y, w.alloc (.cells a t) = y ∧ CellsAt y w.heap.size a.toList ∧ Below w.heap.size w y ∧ y.heap.size = w.heap.size + 1 :=
 ⟨_, rfl, by have := ca_new w a.toList t; simpa using this, (Below.refl _ w).alloc (Nat.le_refl _) _, by simp⟩
theorem below_on {N : Nat} {w a b : World} (h : Below N w a) (hN : N ≤ a.heap.size) (hb : Below a.heap.size a b) : Below N w b := h.trans (hb.mono hN)
end Go.Proofs.YtkhlkohlccndgaaGreat
namespace Go.Proofs.YtkhlkohlccndgaaGreat
open Go.RowKit Go.Shelf

/- what is told last -/
def lastL (f : Tb.Lc) (ch : List Tb.Cg) : Tb.Lc := ((ch.getLast?).map Tb.Cg.lc).getD f
/- a maker's state, and what it is behind one more thing put -/
structure Ms where
 f : Tb.Lc
 ch : List Tb.Cg
def putM (at_ : Int) (l : Tb.Lc) (s : Ms) : Ms := if at_ = -62135596800 then ⟨l, s.ch⟩ else if l = lastL s.f s.ch then s else ⟨s.f, s.ch ++ [⟨at_, l⟩]⟩
theorem putM_len (at_ : Int) (l : Tb.Lc) (s : Ms) : (putM at_ l s).ch.length ≤ s.ch.length + 1 := by
 unfold putM
 split
 ·simp
 ·split <;> simp
theorem lastL_snoc (f : Tb.Lc) (l : List Tb.Cg) (c : Tb.Cg) : lastL f (l ++ [c]) = c.lc := by simp [lastL]
/- blocks of a type -/
def IsT (w : World) (b : Nat) (t : TypeId) : Prop := ∃ cs z, w.heap[b]? = some (.cells cs t z)
theorem isT_lt {w : World} {b : Nat} {t : TypeId} (h : IsT w b t) : b < w.heap.size := by
 obtain ⟨cs, z, h⟩ := h
 exact (Array.getElem?_eq_some_iff.1 h).1
theorem isT_same {w w' : World} {b : Nat} {t : TypeId} (h : IsT w b t) (e : w'.heap[b]? = w.heap[b]?) : IsT w' b t := by
 obtain ⟨cs, z, h⟩ := h
 exact ⟨cs, z, e.trans h⟩
theorem isT_set {w : World} {b q k : Nat} {t : TypeId} (u : Value) (h : IsT w b t) : IsT (w.setCell ⟨q, k, none⟩ u) b t := by
 by_cases e : b = q
 ·subst e
  obtain ⟨cs, z, h⟩ := h
  refine ⟨cs.setIfInBounds k u, z, ?_⟩
  simp [World.setCell, Array.getElem?_modify, h]
 ·exact isT_same h (Below.heap_setCell _ _ _ _ e)
theorem isT_new (w : World) (cs : Array Value) (t : TypeId) : IsT (w.alloc (.cells cs t)) w.heap.size t := ⟨cs, _, World.alloc_heap_new w _⟩
theorem isT_below {w w' : World} {b : Nat} {t : TypeId} (h : IsT w b t) (hb : Below w.heap.size w w') : IsT w' b t := isT_same h (hb.block b (isT_lt h))
theorem isT_alloc {w : World} {b : Nat} {t : TypeId} (h : IsT w b t) (o : Obj) : IsT (w.alloc o) b t := isT_same h (Below.heap_alloc _ _ _ (isT_lt h))
/- what a maker leaves as it was: all below B but its own block M; all that is no change of a table -/
structure MkF (B M : Nat) (w w' : World) : Prop where
 os : w'.os = w.os
 tape : w'.tape = w.tape
 output : w'.output = w.output
 size : w.heap.size ≤ w'.heap.size
 low : ∀ k, k < B → k ≠ M → w'.heap[k]? = w.heap[k]?
 typ : ∀ k t, IsT w k t → t ≠ 86 → k ≠ M → w'.heap[k]? = w.heap[k]?
theorem mkF_refl (B M : Nat) (w : World) : MkF B M w w := ⟨rfl, rfl, rfl, Nat.le_refl _, fun _ _ _ => rfl, fun _ _ _ _ _ => rfl⟩
theorem mkF_trans {B M : Nat} {a b c : World} (h : MkF B M a b) (k : MkF B M b c) : MkF B M a c :=
 ⟨k.os.trans h.os, k.tape.trans h.tape, k.output.trans h.output, Nat.le_trans h.size k.size, fun i h1 h2 => (k.low i h1 h2).trans (h.low i h1 h2), fun i t h1 h2 h3 => (k.typ i t (isT_same h1 (h.typ i t h1 h2 h3)) h2 h3).trans (h.typ i t h1 h2 h3)⟩
theorem mkF_below {B M : Nat} {w w' : World} (h : Below w.heap.size w w') (hB : B ≤ w.heap.size) : MkF B M w w' :=
 ⟨h.os, h.tape, h.output, h.size, fun k h1 _ => h.block k (Nat.lt_of_lt_of_le h1 hB), fun k t h1 _ _ => h.block k (isT_lt h1)⟩
theorem mkF_set {B M k : Nat} {w : World} (u : Value) : MkF B M w (w.setCell ⟨M, k, none⟩ u) :=
 ⟨rfl, rfl, rfl, by simp, fun i _ h => Below.heap_setCell _ _ _ _ h, fun i t _ _ h => Below.heap_setCell _ _ _ _ h⟩
theorem mkF_grown {B M : Nat} {w w' : World} {v : Value} {xs : List Value} {n : Nat} (hr : w.ownsRow B 86 4 v n xs) (hB : B ≤ w.heap.size) (h : w.grownBy w' v.ownBlock) : MkF B M w w' := by
 have key : ∀ k, some k = v.ownBlock → B ≤ k ∧ IsT w k 86 := by
  intro k e
  rcases hr.2 with ⟨rfl, _⟩ | ⟨g, cap, cur, rfl, hb, hg, _⟩
  ·simp [Value.ownBlock] at e
  ·simp [Value.ownBlock] at e
   subst e
   exact ⟨hb, _, _, hg⟩
 refine ⟨h.os, h.tape, h.output, h.size, fun k h1 _ => h.block k (Nat.lt_of_lt_of_le h1 hB) fun e => ?_, fun k t h1 h2 _ => h.block k (isT_lt h1) fun e => ?_⟩
 ·have := (key k e).1; omega
 ·obtain ⟨cs, z, q⟩ := (key k e).2
  obtain ⟨cs', z', q'⟩ := h1
  rw [q] at q'
  simp at q'
  exact h2 q'.2.1.symm
/- a maker in memory -/
structure Mk (B M : Nat) (s : Ms) (cv rv : Value) (w : World) : Prop where
 box : CellsAt w M [.int .i64 s.f.shift, .int .i64 s.f.save, .string ⟨s.f.name.toArray⟩, cv, rv]
 ty : IsT w M 127
 own : OwnCh w B cv s.ch
 mB : M < B
 bS : B ≤ w.heap.size
theorem mk_below {B M : Nat} {s : Ms} {cv rv : Value} {w w' : World} (h : Mk B M s cv rv w) (hb : Below w.heap.size w w') : Mk B M s cv rv w' :=
 ⟨ca_below h.box hb, isT_below h.ty hb, owns_below h.own hb, h.mB, Nat.le_trans h.bS hb.size⟩
/- what else is carried over a maker's turn -/
theorem ca_mkF {B M X : Nat} {w w' : World} {vs : List Value} {t : TypeId} (h : CellsAt w X vs) (ht : IsT w X t) (hn : t ≠ 86) (hX : X ≠ M) (hf : MkF B M w w') : CellsAt w' X vs :=
 ca_block h (Nat.lt_of_lt_of_le h.1 hf.size) (hf.typ X t ht hn hX)
theorem isT_mkF {B M X : Nat} {w w' : World} {t : TypeId} (ht : IsT w X t) (hn : t ≠ 86) (hX : X ≠ M) (hf : MkF B M w w') : IsT w' X t := isT_same ht (hf.typ X t ht hn hX)
theorem owns_mkF {B M B' : Nat} {e : TypeId} {z : Nat} {w w' : World} {v : Value} {n : Nat} {xs : List Value} (h : w.ownsRow B' e z v n xs) (hn : e ≠ 86) (hM : IsT w M 127) (he : e ≠ 127) (hf : MkF B M w w') : w'.ownsRow B' e z v n xs := by
 refine ⟨h.1, ?_⟩
 rcases h.2 with q | ⟨g, cap, cur, rfl, hb, hg, rest⟩
 ·exact .inl q
 ·refine .inr ⟨g, cap, cur, rfl, hb, ?_, rest⟩
  refine (hf.typ g e ⟨_, _, hg⟩ hn ?_).trans hg
  rintro rfl
  obtain ⟨cs, z', q⟩ := hM
  rw [hg] at q
  simp at q
  exact he q.2.1
theorem low_below {B M N : Nat} {a w w' : World} (h : Below N a w) (hN : N ≤ M) (hB : N ≤ B) (hf : MkF B M w w') : Below N a w' :=
 ⟨hf.os.trans h.os, hf.tape.trans h.tape, hf.output.trans h.output, Nat.le_trans h.size hf.size, fun k hk => (hf.low k (by omega) (by omega)).trans (h.block k hk)⟩
end Go.Proofs.YtkhlkohlccndgaaGreat
namespace Go.Proofs.YtkhlkohlccndgaaGreat
open Go.RowKit Go.Shelf
attribute [local go_sem] Oper.semAt_some
attribute [local go_sem ↓] Go.wp_at_zero Go.wp_at_succ

theorem keep4 {w : World} {M g n q : Nat} {v0 v1 v2 v3 : Value} (h1 : M ≠ q) (h2 : g ≠ q) (h : w.cell? ⟨M, 3, none⟩ = some v0 ∧ w.cell? ⟨g, n * 4 + 1, none⟩ = some v1 ∧ w.cell? ⟨g, n * 4 + 2, none⟩ = some v2 ∧ w.cell? ⟨g, n * 4 + 3, none⟩ = some v3) (a : Nat) (x : Value) (b : Nat) (y : Value) (c : Nat) (z : Value) :
  let w' := ((w.setCell ⟨q, a, none⟩ x).setCell ⟨q, b, none⟩ y).setCell ⟨q, c, none⟩ z
  w'.cell? ⟨M, 3, none⟩ = some v0 ∧ w'.cell? ⟨g, n * 4 + 1, none⟩ = some v1 ∧ w'.cell? ⟨g, n * 4 + 2, none⟩ = some v2 ∧ w'.cell? ⟨g, n * 4 + 3, none⟩ = some v3 := by
 have e : ∀ b' k, b' ≠ q → (((w.setCell ⟨q, a, none⟩ x).setCell ⟨q, b, none⟩ y).setCell ⟨q, c, none⟩ z).cell? ⟨b', k, none⟩ = w.cell? ⟨b', k, none⟩ := fun b' k hb => by
  rw [World.cell?_of_block (Below.heap_setCell _ _ _ _ hb), World.cell?_of_block (Below.heap_setCell _ _ _ _ hb), World.cell?_of_block (Below.heap_setCell _ _ _ _ hb)]
 exact ⟨(e _ _ h1).trans h.1, (e _ _ h2).trans h.2.1, (e _ _ h2).trans h.2.2.1, (e _ _ h2).trans h.2.2.2⟩
theorem keepX {w w' : World} {X : Nat} {v1 v2 v3 : Value} (hb : Below w.heap.size w w') (hX : X < w.heap.size) (h : w.cell? ⟨X, 0, none⟩ = some v1 ∧ w.cell? ⟨X, 1, none⟩ = some v2 ∧ w.cell? ⟨X, 2, none⟩ = some v3) :
  w'.cell? ⟨X, 0, none⟩ = some v1 ∧ w'.cell? ⟨X, 1, none⟩ = some v2 ∧ w'.cell? ⟨X, 2, none⟩ = some v3 :=
 ⟨(hb.cell (p := ⟨X, 0, none⟩) hX).trans h.1, (hb.cell (p := ⟨X, 1, none⟩) hX).trans h.2.1, (hb.cell (p := ⟨X, 2, none⟩) hX).trans h.2.2⟩
theorem setX {w : World} {M X : Nat} {v1 v2 v3 : Value} (hMX : ¬ M = X) (h : w.cell? ⟨X, 0, none⟩ = some v1 ∧ w.cell? ⟨X, 1, none⟩ = some v2 ∧ w.cell? ⟨X, 2, none⟩ = some v3) (k : Nat) (u : Value) :
  (w.setCell ⟨M, k, none⟩ u).cell? ⟨X, 0, none⟩ = some v1 ∧ (w.setCell ⟨M, k, none⟩ u).cell? ⟨X, 1, none⟩ = some v2 ∧ (w.setCell ⟨M, k, none⟩ u).cell? ⟨X, 2, none⟩ = some v3 := by
 have e : ∀ j, (w.setCell ⟨M, k, none⟩ u).cell? ⟨X, j, none⟩ = w.cell? ⟨X, j, none⟩ := fun j => World.cell?_of_block (Below.heap_setCell _ _ _ _ fun q => hMX q.symm)
 exact ⟨(e 0).trans h.1, (e 1).trans h.2.1, (e 2).trans h.2.2⟩
theorem cg_one (c : Tb.Cg) : ∀ u ∈ cgCells c, u.oneCell' = true := by
 intro u hu; simp only [cgCells, List.mem_cons, List.not_mem_nil, or_false] at hu; rcases hu with rfl | rfl | rfl | rfl <;> rfl
/- one change more -/
theorem mk_app {B M X : Nat} {f : Tb.Lc} {ch : List Tb.Cg} {cv rv v' : Value} {w w9 : World} {o : Obj} {c : Tb.Cg} {t : TypeId} (h : Mk B M ⟨f, ch⟩ cv rv w) (hX : IsT w X t) (ht : t ≠ 86) (hMX : ¬ M = X)
  (hown : w9.ownsRow B 86 4 v' (ch.length + 1) (ch.flatMap cgCells ++ cgCells c)) (hg : (w.alloc o).grownBy w9 cv.ownBlock) :
  Mk B M ⟨f, ch ++ [c]⟩ v' rv (w9.setCell ⟨M, 3, none⟩ v') ∧ MkF B M w (w9.setCell ⟨M, 3, none⟩ v') ∧
  (∀ {v1 v2 v3 : Value}, w.cell? ⟨X, 0, none⟩ = some v1 ∧ w.cell? ⟨X, 1, none⟩ = some v2 ∧ w.cell? ⟨X, 2, none⟩ = some v3 → w9.cell? ⟨X, 0, none⟩ = some v1 ∧ w9.cell? ⟨X, 1, none⟩ = some v2 ∧ w9.cell? ⟨X, 2, none⟩ = some v3) ∧
  (w9.cell? ⟨M, 3, none⟩ = some cv ∧ w9.frozen? ⟨M, 3, none⟩ = false ∧ M < w9.heap.size) := by
 have ha : Below w.heap.size w (w.alloc o) := (Below.refl _ w).alloc (Nat.le_refl _) o
 have h8 := mk_below h ha
 have hM := h8.box.1
 have F89 : MkF B M (w.alloc o) w9 := mkF_grown h8.own h8.bS hg
 have key : ∀ k, some k = cv.ownBlock → B ≤ k ∧ IsT (w.alloc o) k 86 := by
  intro k e
  rcases h8.own.2 with ⟨rfl, _⟩ | ⟨g, cap, cur, rfl, hb, hg, _⟩
  ·simp [Value.ownBlock] at e
  ·simp [Value.ownBlock] at e
   subst e
   exact ⟨hb, _, _, hg⟩
 have eM : w9.heap[M]? = (w.alloc o).heap[M]? := hg.block M hM fun e => by have := (key M e).1; have := h.mB; omega
 have hX8 := isT_alloc hX o
 have eX : w9.heap[X]? = (w.alloc o).heap[X]? := hg.block X (isT_lt hX8) fun e => by
  obtain ⟨cs, z, q⟩ := (key X e).2
  obtain ⟨cs', z', q'⟩ := hX8
  rw [q] at q'
  simp at q'
  exact ht q'.2.1.symm
 have b9 : CellsAt w9 M _ := ca_block h8.box (Nat.lt_of_lt_of_le hM hg.size) eM
 have b10 := ca_put b9 3 v' (by simp)
 simp only [List.set_cons_zero, List.set_cons_succ] at b10
 have t9 := isT_same h8.ty eM
 refine ⟨⟨b10, isT_set _ t9, ?_, h.mB, by have := h8.bS; have := hg.size; simp; omega⟩, mkF_trans (mkF_trans (mkF_below ha h.bS) F89) (mkF_set _), ?_, ⟨(ca_at b9 3 rfl).1, (ca_at b9 3 rfl).2, b9.1⟩⟩
 ·have q := ownsRow_setCell_below hown (a := ⟨M, 3, none⟩) h.mB v'
  unfold OwnCh
  simpa using q
 ·rintro v1 v2 v3 ⟨a1, a2, a3⟩
  have fX : ∀ k, w9.cell? ⟨X, k, none⟩ = w.cell? ⟨X, k, none⟩ := fun k => (World.cell?_of_block eX).trans (ha.cell (p := ⟨X, k, none⟩) (isT_lt hX))
  exact ⟨(fX 0).trans a1, (fX 1).trans a2, (fX 2).trans a3⟩
theorem mk_first {B M : Nat} {s : Ms} {cv rv : Value} {w : World} (h : Mk B M s cv rv w) (n : Tb.Lc) :
  Mk B M ⟨n, s.ch⟩ cv rv (((w.setCell ⟨M, 0, none⟩ (.int .i64 n.shift)).setCell ⟨M, 1, none⟩ (.int .i64 n.save)).setCell ⟨M, 2, none⟩ (.string ⟨n.name.toArray⟩)) := by
 have b1 := ca_put (ca_put (ca_put h.box 0 (.int .i64 n.shift) (by simp)) 1 (.int .i64 n.save) (by simp)) 2 (.string ⟨n.name.toArray⟩) (by simp)
 simp only [List.set_cons_zero, List.set_cons_succ] at b1
 have e : ∀ (w : World) (k : Nat) (u : Value), w.ownsRow B 86 4 cv s.ch.length (s.ch.flatMap cgCells) → (w.setCell ⟨M, k, none⟩ u).ownsRow B 86 4 cv s.ch.length (s.ch.flatMap cgCells) := fun w k u q => ownsRow_setCell_below q (a := ⟨M, k, none⟩) h.mB u
 exact ⟨b1, isT_set _ (isT_set _ (isT_set _ h.ty)), e _ _ _ (e _ _ _ (e _ _ _ h.own)), h.mB, by simpa using h.bS⟩
theorem mkLast_any {B M : Nat} {s : Ms} {cv rv : Value} {w : World} (h : Mk B M s cv rv w) (hl : s.ch.length ≤ 1000000) :
  Calls Tryz.prog 203 #[.pointer (some ⟨M, 0, none⟩)] w fun e w' => e = .returned (lcV (lastL s.f s.ch)) ∧ Below w.heap.size w w' := by
 obtain ⟨f, ch⟩ := s
 obtain ⟨a, cap, rfl⟩ := owns_shape0 h.own
 obtain ⟨V, gV, L0, hb, sz⟩ := named_new w #[.int .i64 0, .int .i64 0, .string ⟨#[]⟩] 31
 have LV : CellsAt V w.heap.size [.int .i64 0, .int .i64 0, .string ⟨#[]⟩] := L0
 have hV := mk_below h hb
 have HMk := hid hV
 have HB := hid hb
 have hM : M < w.heap.size := h.box.1
 have hn1 : M ≠ w.heap.size := by omega
 obtain ⟨m0, _⟩ := ca_at hV.box 0 rfl
 obtain ⟨m1, _⟩ := ca_at hV.box 1 rfl
 obtain ⟨m2, _⟩ := ca_at hV.box 2 rfl
 obtain ⟨m3, _⟩ := ca_at hV.box 3 rfl
 have sm := hV.box.1
 obtain ⟨l0, k0⟩ := ca_at LV 0 rfl
 obtain ⟨l1, k1⟩ := ca_at LV 1 rfl
 obtain ⟨l2, k2⟩ := ca_at LV 2 rfl
 have sl := LV.1
 have h1 := hid (Nat.le_refl w.heap.size)
 rcases List.eq_nil_or_concat ch with rfl | ⟨l, c, rfl⟩
 ·have e0 : lastL f [] = f := rfl
  rw [e0]
  clear h hV hb sz L0 LV
  go_enter Tryz.func203, Tryz.ntmps203
  go_wp2
  have h2 := below_put (below_put (below_put HB.out h1.out 0 (.int .i64 f.shift)) h1.out 1 (.int .i64 f.save)) h1.out 2 (.string ⟨f.name.toArray⟩)
  refine bodyPost_ret (v := lcV f) (by simp [results, Tryz.results203, go_sem, *]) rfl ⟨rfl, h2⟩
 ·rw [List.concat_eq_append] at *
  rw [lastL_snoc]
  have hR := ownCh_rd hV.own
  have hx : (l ++ [c])[l.length]? = some c := by simp
  obtain ⟨g, o, e, hg, hc⟩ := rd_elem hR hx
  have ho : o = 0 := by
   rcases hV.own.2 with ⟨q, _⟩ | ⟨g', cap', cur, q, _⟩
   ·rw [e] at q; simp at q
   ·rw [e] at q; simp at q; exact q.1.2
  subst ho
  subst e
  have hn2 : g ≠ w.heap.size := by
   intro q
   have hr := h.own
   obtain ⟨_, _, _, h4, _⟩ := owns_cell (g := 0) hr
   simp at h4; omega
  have g1 : V.cell? ⟨g, l.length * 4 + 1, none⟩ = some (.int .i64 c.lc.shift) := by have := hc 1 _ rfl; simpa using this
  have g2 : V.cell? ⟨g, l.length * 4 + 2, none⟩ = some (.int .i64 c.lc.save) := by have := hc 2 _ rfl; simpa using this
  have g3 : V.cell? ⟨g, l.length * 4 + 3, none⟩ = some (strV c.lc.name) := by have := hc 3 _ rfl; simpa using this
  have hlen : (l ++ [c]).length = l.length + 1 := by simp
  simp only [hlen] at m3 hl
  have hl2 : l.length ≤ 1000000 := by omega
  have hw : IntKind.i64.wrap (l.length : Int) = (l.length : Int) := IntWalk.i64_in _ (by omega)
  have hlt : (l.length : Int) < (l.length : Int) + 1 := by omega
  have HS1 : Hid (V.cell? ⟨M, 3, none⟩ = some (.slice (some ⟨g, 0, none⟩) (l.length + 1) cap) ∧ V.cell? ⟨g, l.length * 4 + 1, none⟩ = some (.int .i64 c.lc.shift) ∧ V.cell? ⟨g, l.length * 4 + 2, none⟩ = some (.int .i64 c.lc.save) ∧ V.cell? ⟨g, l.length * 4 + 3, none⟩ = some (strV c.lc.name)) := ⟨m3, g1, g2, g3⟩
  clear h hV hb sz L0 LV hR hx hc hlen hl
  go_enter Tryz.func203, Tryz.ntmps203
  go_upto_region 3 with fail
  refine wp_region_held_drew (S := fun w' => w'.cell? ⟨M, 3, none⟩ = some (.slice (some ⟨g, 0, none⟩) (l.length + 1) cap) ∧ w'.cell? ⟨g, l.length * 4 + 1, none⟩ = some (.int .i64 c.lc.shift) ∧ w'.cell? ⟨g, l.length * 4 + 2, none⟩ = some (.int .i64 c.lc.save) ∧ w'.cell? ⟨g, l.length * 4 + 3, none⟩ = some (strV c.lc.name)) (by kernel_rfl) HS1.out (fun hHeld => ?_)
  refine tkH 0 ?vz1 rfl ?z1 ?_
  case z1 => (intro w hSw; (obtain ⟨m3, g1, g2, g3⟩ := hSw); go_simp; try with_reducible rfl)
  try simp only [Act.put, jP, jO, jS, jG, jH, jI]
  refine tkH 1 ?vz2 rfl ?z2 ?_
  case z2 => (intro w hSw; (obtain ⟨m3, g1, g2, g3⟩ := hSw); go_simp; try with_reducible rfl)
  try simp only [Act.put, jP, jO, jS, jG, jH, jI]
  refine tkH 2 ?vz3 rfl ?z3 ?_
  case z3 => (intro w hSw; (obtain ⟨m3, g1, g2, g3⟩ := hSw); go_simp; try with_reducible rfl)
  try simp only [Act.put, jP, jO, jS, jG, jH, jI]
  refine tkH 3 ?vz4 rfl ?z4 ?_
  case z4 => (intro w hSw; (obtain ⟨m3, g1, g2, g3⟩ := hSw); go_simp; try with_reducible rfl)
  try simp only [Act.put, jP, jO, jS, jG, jH, jI]
  refine tkH 4 ?vz5 rfl ?z5 ?_
  case z5 => (intro w hSw; (obtain ⟨m3, g1, g2, g3⟩ := hSw); go_simp; try with_reducible rfl)
  try simp only [Act.put, jP, jO, jS, jG, jH, jI]
  refine tkH 5 ?vz6 rfl ?z6 ?_
  case z6 => (intro w hSw; (obtain ⟨m3, g1, g2, g3⟩ := hSw); go_simp; try with_reducible rfl)
  try simp only [Act.put, jP, jO, jS, jG, jH, jI]
  refine tkH 6 ?vz7 rfl ?z7 ?_
  case z7 => (intro w hSw; (obtain ⟨m3, g1, g2, g3⟩ := hSw); go_simp; try with_reducible rfl)
  try simp only [Act.put, jP, jO, jS, jG, jH, jI]
  refine tkH 7 ?vz8 rfl ?z8 ?_
  case z8 => (intro w hSw; (obtain ⟨m3, g1, g2, g3⟩ := hSw); go_simp; try with_reducible rfl)
  try simp only [Act.put, jP, jO, jS, jG, jH, jI]
  refine tkH 8 ?vz9 rfl ?z9 ?_
  case z9 => (intro w hSw; (obtain ⟨m3, g1, g2, g3⟩ := hSw); go_simp; try with_reducible rfl)
  try simp only [Act.put, jP, jO, jS, jG, jH, jI]
  refine tkH 9 ?vz10 rfl ?z10 ?_
  case z10 => (intro w hSw; (obtain ⟨m3, g1, g2, g3⟩ := hSw); go_simp; try with_reducible rfl)
  try simp only [Act.put, jP, jO, jS, jG, jH, jI]
  refine tkH 10 ?vz11 rfl ?z11 ?_
  case z11 => (intro w hSw; (obtain ⟨m3, g1, g2, g3⟩ := hSw); go_simp; try with_reducible rfl)
  try simp only [Act.put, jP, jO, jS, jG, jH, jI]
  refine tkH 11 ?vz12 rfl ?z12 ?_
  case z12 => (intro w hSw; (obtain ⟨m3, g1, g2, g3⟩ := hSw); go_simp; try with_reducible rfl)
  try simp only [Act.put, jP, jO, jS, jG, jH, jI]
  refine tkH 12 ?vz13 rfl ?z13 ?_
  case z13 => (intro w hSw; (obtain ⟨m3, g1, g2, g3⟩ := hSw); go_simp; try with_reducible rfl)
  try simp only [Act.put, jP, jO, jS, jG, jH, jI]
  refine tkH 13 ?vz14 rfl ?z14 ?_
  case z14 => (intro w hSw; (obtain ⟨m3, g1, g2, g3⟩ := hSw); go_simp; try with_reducible rfl)
  try simp only [Act.put, jP, jO, jS, jG, jH, jI]
  refine tkH 14 ?vz15 rfl ?z15 ?_
  case z15 => (intro w hSw; (obtain ⟨m3, g1, g2, g3⟩ := hSw); go_simp; try with_reducible rfl)
  try simp only [Act.put, jP, jO, jS, jG, jH, jI]
  refine rdH 15 rfl fun K hK => ?_
  go_simp
  have S9 := keep4 (q := w.heap.size) hn1 hn2 HS1.out 0 (.int .i64 c.lc.shift) 1 (.int .i64 c.lc.save) 2 (.string ⟨c.lc.name.toArray⟩)
  refine hK.out _ _ ?_ (fun hHeld => ?_)
  ·exact S9
  clear hK K
  try simp only [Act.put, jP, jO, jS, jG, jH, jI]
  refine wpAnyH_done (by kernel_rfl) ?_ _
  go_wp2_with fail
  have h2 := below_put (below_put (below_put (HB.out.drew) h1.out 0 (.int .i64 c.lc.shift)) h1.out 1 (.int .i64 c.lc.save)) h1.out 2 (.string ⟨c.lc.name.toArray⟩)
  refine bodyPost_ret (v := lcV c.lc) (by simp [results, Tryz.results203, go_sem, *]) rfl ⟨rfl, h2⟩
theorem mkPut_any {B M : Nat} {s : Ms} {cv rv : Value} {w : World} (h : Mk B M s cv rv w) (hl : s.ch.length ≤ 900000) (at_ : Int) (n : Tb.Lc) :
  Calls Tryz.prog 177 #[.pointer (some ⟨M, 0, none⟩), .int .i64 at_, lcV n] w fun e w' => ∃ cv', e = .returned (.tuple #[]) ∧ Mk B M (putM at_ n s) cv' rv w' ∧ MkF B M w w' := by
 obtain ⟨f, ch⟩ := s
 obtain ⟨V, gV, L0, hb, sz⟩ := named_new w #[.int .i64 n.shift, .int .i64 n.save, .string ⟨n.name.toArray⟩] 31
 obtain ⟨X, hX⟩ : ∃ X, w.heap.size = X := ⟨_, rfl⟩
 have hV := mk_below h hb
 have LV : CellsAt V X [.int .i64 n.shift, .int .i64 n.save, .string ⟨n.name.toArray⟩] := hX ▸ L0
 have HMk := hid hV
 have HF : Hid (MkF B M w V) := mkF_below hb h.bS
 have hM : M < w.heap.size := h.box.1
 obtain ⟨m0, k0⟩ := ca_at hV.box 0 rfl
 obtain ⟨m1, k1⟩ := ca_at hV.box 1 rfl
 obtain ⟨m2, k2⟩ := ca_at hV.box 2 rfl
 obtain ⟨m3, k3⟩ := ca_at hV.box 3 rfl
 have sm := hV.box.1
 obtain ⟨l0, _⟩ := ca_at LV 0 rfl
 obtain ⟨l1, _⟩ := ca_at LV 1 rfl
 obtain ⟨l2, _⟩ := ca_at LV 2 rfl
 have sl := LV.1
 have HLV := hid LV
 have hMX : ¬ M = X := by omega
 by_cases h0 : at_ = -62135596800
 case pos =>
  have e0 : putM at_ n ⟨f, ch⟩ = ⟨n, ch⟩ := by unfold putM; rw [if_pos h0]
  rw [e0]
  subst h0
  have FIN := hid (mk_first hV n)
  have FF : Hid (MkF B M w (((V.setCell ⟨M, 0, none⟩ (.int .i64 n.shift)).setCell ⟨M, 1, none⟩ (.int .i64 n.save)).setCell ⟨M, 2, none⟩ (.string ⟨n.name.toArray⟩))) := mkF_trans (mkF_trans (mkF_trans HF.out (mkF_set _)) (mkF_set _)) (mkF_set _)
  clear h hV hb sz L0 LV e0
  go_enter Tryz.func177, Tryz.ntmps177
  go_wp2
  go_end0
  exact ⟨rfl, ⟨cv, FIN.out⟩, FF.out⟩
 have hLT : Hid (IsT V X 31) := by show IsT _ _ _; rw [← gV, ← hX]; exact isT_new w _ _
 have hl2 : ch.length ≤ 1000000 := by simp only at hl; omega
 have HL := hid (fun W (hW : Below V.heap.size V W) => mkLast_any (mk_below hV hW) hl2)
 have hl3 : Hid (ch.length ≤ 900000) := hl
 obtain ⟨q, hq⟩ : ∃ q, lastL f ch = q := ⟨_, rfl⟩
 simp only [hq] at HL
 have e1 : Hid (putM at_ n ⟨f, ch⟩ = if n = q then ⟨f, ch⟩ else ⟨f, ch ++ [⟨at_, n⟩]⟩) := by show _ = _; unfold putM; rw [if_neg h0, hq]
 have hn0 : (at_ == -62135596800) = false := by simp [h0]
 have SS : Hid (V.cell? ⟨X, 0, none⟩ = some (.int .i64 n.shift) ∧ V.cell? ⟨X, 1, none⟩ = some (.int .i64 n.save) ∧ V.cell? ⟨X, 2, none⟩ = some (.string ⟨n.name.toArray⟩)) := ⟨l0, l1, l2⟩
 have KS : Hid (∀ w7, Below V.heap.size V w7 → w7.cell? ⟨X, 0, none⟩ = some (.int .i64 n.shift) ∧ w7.cell? ⟨X, 1, none⟩ = some (.int .i64 n.save) ∧ w7.cell? ⟨X, 2, none⟩ = some (.string ⟨n.name.toArray⟩)) := fun w7 hb => ⟨(hb.cell (p := ⟨X, 0, none⟩) sl).trans l0, (hb.cell (p := ⟨X, 1, none⟩) sl).trans l1, (hb.cell (p := ⟨X, 2, none⟩) sl).trans l2⟩
 obtain ⟨oa, ocap, hcv⟩ := owns_shape0 h.own
 subst hcv
 clear h hV hb sz L0 LV hl hl2 hq
 go_enter Tryz.func177, Tryz.ntmps177
 go_upto_region 3 with fail
 go_cut [16] from 8 to 16 (fun s16 wc => s16 = .bool (!decide (n = q)) ∧ Hid (Below V.heap.size V wc))
 case first =>
  have fork : n = q ∨ ¬ n.shift = q.shift ∨ (n.shift = q.shift ∧ ¬ n.save = q.save) ∨ (n.shift = q.shift ∧ n.save = q.save ∧ ¬ n.name = q.name) := by
   obtain ⟨n1, n2, n3⟩ := n
   obtain ⟨q1, q2, q3⟩ := q
   by_cases c1 : n1 = q1 <;> by_cases c2 : n2 = q2 <;> by_cases c3 : n3 = q3 <;> simp_all
  have HN : Hid (∀ b, (b = true ↔ n = q) → decide (n = q) = b) := fun b hb => by rw [← Bool.coe_iff_coe]; simp [hb]
  refine wp_region_held_drew (S := fun w' => w'.cell? ⟨X, 0, none⟩ = some (.int .i64 n.shift) ∧ w'.cell? ⟨X, 1, none⟩ = some (.int .i64 n.save) ∧ w'.cell? ⟨X, 2, none⟩ = some (.string ⟨n.name.toArray⟩)) (by kernel_rfl) SS.out (fun hHeld => ?_)
  refine tkH 0 ?vz16 rfl ?z16 ?_
  case z16 => (intro w hSw; (obtain ⟨l0, l1, l2⟩ := hSw); go_simp; try with_reducible rfl)
  try simp only [Act.put, jP, jO, jS, jG, jH, jI]
  refine tkH 1 ?vz17 rfl ?z17 ?_
  case z17 => (intro w hSw; (obtain ⟨l0, l1, l2⟩ := hSw); go_simp; try with_reducible rfl)
  try simp only [Act.put, jP, jO, jS, jG, jH, jI]
  refine rdH 2 rfl fun K hK => ?_
  go_simp
  refine (HL.out _ (show Below V.heap.size V V.drew from ⟨rfl, rfl, rfl, Nat.le_refl _, fun _ _ => rfl⟩)).mono ?_
  rintro e w7 ⟨rfl, hb7⟩
  have hb := below_drew1 hb7
  have S7 := KS.out w7 hb
  refine hK.out _ _ ?_ (fun hHeld => ?_)
  ·exact S7
  clear hK K
  try simp only [Act.put, jP, jO, jS, jG, jH, jI]
  refine wpAnyH_take (i := 3) (v := .bool (!decide (n = q))) rfl (by kernel_rfl) (by kernel_rfl) (by kernel_rfl) (fun _ _ _ h => h) (Or.inl ⟨by rfl, ?hyq⟩) (by assumption) ?_
  case hyq =>
   clear HL HMk HF hLT SS KS HN hHeld e1 m0 k0 m1 k1 m2 k2 m3 k3 sm l0 l1 l2 sl hMX hX hM h0 hn0 hl3 hb7 hb S7
   intro w hSw
   clear hSw
   rcases fork with e | e | ⟨e1, e⟩ | ⟨e1, e2, e⟩
   ·subst e
    go_simp
   ·have hd : decide (n = q) = false := by simp; rintro rfl; exact e rfl
    rw [hd]
    go_simp
   ·have hd : decide (n = q) = false := by simp; rintro rfl; exact e rfl
    rw [hd]
    go_simp
   ·have hd : decide (n = q) = false := by simp; rintro rfl; exact e rfl
    rw [hd]
    go_simp
  try simp only [Act.put, jP, jO, jS, jG, jH, jI]
  refine wpAnyH_done (by kernel_rfl) ?_ _
  go_wp2_with fail
  go_meet
  exact ⟨rfl, hb⟩
 case rest =>
 obtain ⟨rfl, hb⟩ := hcut
 have MW := hid (mk_below HMk.out hb.out)
 have FW : Hid (MkF B M w wc) := mkF_trans HF.out (mkF_below hb.out HMk.out.bS)
 have LTW := hid (isT_below hLT.out hb.out)
 clear m0 k0 m1 k1 m2 k2 m3 k3 HMk HF hLT
 obtain ⟨m0, k0⟩ := ca_at MW.out.box 0 rfl
 obtain ⟨m1, k1⟩ := ca_at MW.out.box 1 rfl
 obtain ⟨m2, k2⟩ := ca_at MW.out.box 2 rfl
 obtain ⟨m3, k3⟩ := ca_at MW.out.box 3 rfl
 dsimp only at m0 m1 m2 m3
 have smw := MW.out.box.1
 obtain ⟨x0, x1, x2⟩ := KS.out wc hb.out
 have sx := isT_lt LTW.out
 clear l0 l1 l2 sl SS KS
 by_cases hnq : n = q
 case pos =>
  have e2 : decide (n = q) = true := by simp [hnq]
  have e3 : putM at_ n ⟨f, ch⟩ = ⟨f, ch⟩ := by rw [e1.out, if_pos hnq]
  have E3 := hid e3
  rw [e2]
  clear e2 e3 hnq e1
  go_wp2_with fail
  go_end0
  exact ⟨rfl, ⟨_, by rw [E3.out]; exact MW.out⟩, FW.out⟩
 have e2 : decide (n = q) = false := by simp [hnq]
 have e3 : putM at_ n ⟨f, ch⟩ = ⟨f, ch ++ [⟨at_, n⟩]⟩ := by rw [e1.out, if_neg hnq]
 have E3 := hid e3
 rw [e2]
 clear e1 e2 e3 hnq h0 HL
 have OW := MW.out.own
 have SS : Hid (wc.cell? ⟨X, 0, none⟩ = some (.int .i64 n.shift) ∧ wc.cell? ⟨X, 1, none⟩ = some (.int .i64 n.save) ∧ wc.cell? ⟨X, 2, none⟩ = some (.string ⟨n.name.toArray⟩)) := ⟨x0, x1, x2⟩
 obtain ⟨i0, hi, hz0, hz1, hz2⟩ := info_parts Tryz.infoCg
 have B8 : Below wc.heap.size wc ((wc.alloc (.cells #[.int .i64 at_, .int .i64 n.shift, .int .i64 n.save, .string ⟨n.name.toArray⟩] 86)).drew) := ((Below.refl wc.heap.size wc).alloc (Nat.le_refl _) _).drew
 have m8 := (B8.cell (p := ⟨M, 3, none⟩) smw).trans m3
 have S8 := keepX B8 sx SS.out
 go_upto_region 4 with fail
 refine wp_region_held_drew (S := fun w' => w'.cell? ⟨X, 0, none⟩ = some (.int .i64 n.shift) ∧ w'.cell? ⟨X, 1, none⟩ = some (.int .i64 n.save) ∧ w'.cell? ⟨X, 2, none⟩ = some (.string ⟨n.name.toArray⟩)) (by kernel_rfl) SS.out (fun hHeld => ?_)
 refine tkH 0 ?vz18 rfl ?z18 ?_
 case z18 => (intro w hSw; (obtain ⟨x0, x1, x2⟩ := hSw); go_simp; try with_reducible rfl)
 try simp only [Act.put, jP, jO, jS, jG, jH, jI]
 refine tkH 1 ?vz19 rfl ?z19 ?_
 case z19 => (intro w hSw; (obtain ⟨x0, x1, x2⟩ := hSw); go_simp; try with_reducible rfl)
 try simp only [Act.put, jP, jO, jS, jG, jH, jI]
 refine tkH 2 ?vz20 rfl ?z20 ?_
 case z20 => (intro w hSw; (obtain ⟨x0, x1, x2⟩ := hSw); go_simp; try with_reducible rfl)
 try simp only [Act.put, jP, jO, jS, jG, jH, jI]
 refine tkH 3 ?vz21 rfl ?z21 ?_
 case z21 => (intro w hSw; (obtain ⟨x0, x1, x2⟩ := hSw); go_simp; try with_reducible rfl)
 try simp only [Act.put, jP, jO, jS, jG, jH, jI]
 refine tkH 4 ?vz22 rfl ?z22 ?_
 case z22 => (intro w hSw; (obtain ⟨x0, x1, x2⟩ := hSw); go_simp; try with_reducible rfl)
 try simp only [Act.put, jP, jO, jS, jG, jH, jI]
 refine tkH 6 ?vz23 rfl ?z23 ?_
 case z23 => (intro w hSw; (obtain ⟨x0, x1, x2⟩ := hSw); go_simp; try with_reducible rfl)
 try simp only [Act.put, jP, jO, jS, jG, jH, jI]
 refine tkH 7 ?vz24 rfl ?z24 ?_
 case z24 => (intro w hSw; (obtain ⟨x0, x1, x2⟩ := hSw); go_simp; try with_reducible rfl)
 try simp only [Act.put, jP, jO, jS, jG, jH, jI]
 refine tkH 8 ?vz25 rfl ?z25 ?_
 case z25 => (intro w hSw; (obtain ⟨x0, x1, x2⟩ := hSw); go_simp; try with_reducible rfl)
 try simp only [Act.put, jP, jO, jS, jG, jH, jI]
 refine wpAnyH_ready (rs := [5, 9]) (by kernel_rfl) (by simp) ?_
 refine AllReadyH.cons rfl (fun K hK => ?_) ?_
 ·go_simp
  refine hK.out _ _ SS.out (fun hHeld2 => ?_)
  clear hK K
  try simp only [Act.put, jP, jO, jS, jG, jH, jI]
  refine rdH 9 rfl fun K hK => ?_
  go_simp
  refine hK.out _ _ S8 (fun hHeld2 => ?_)
  clear hK K
  try simp only [Act.put, jP, jO, jS, jG, jH, jI]
  refine rdH 10 rfl fun K hK => ?_
  refine step_append_own rfl _ _ 74 rfl B 86 i0 (.agg #[.int .i64 0, .int .i64 0, .int .i64 0, .string ⟨#[]⟩]) 4 40 Tryz.underlying74 hi hz0 hz1 hz2 rfl (by decide) (.slice oa ch.length ocap) _ _ rfl (OW.alloc _) ⟨wc.heap.size, 0, none⟩ 1 1 (cgCells ⟨at_, n⟩) rfl rfl (new_cells wc (cgCells ⟨at_, n⟩)) (cg_one _) (by have := hl3.out; unfold maxLen; dsimp only; omega) (by have := hl3.out; dsimp only; omega) (by have := MW.out.bS; simp; omega) ?_
  intro v' w9 hown9 hgrow9
  obtain ⟨q1, q2, q3, q4⟩ := mk_app MW.out LTW.out (by decide) (hMX) hown9 ⟨hgrow9.os, hgrow9.tape, hgrow9.output, hgrow9.size, hgrow9.block⟩
  obtain ⟨g9, cap9, rfl⟩ := owns_shape hown9
  have S9 := q3 SS.out
  have Q1 := hid q1
  have Q2 := hid q2
  clear q1 q2 q3
  refine hK.out _ _ S9 (fun hHeld3 => ?_)
  clear hK K
  try simp only [Act.put, jP, jO, jS, jG, jH, jI]
  refine tkH 11 ?vz26 rfl ?z26 ?_
  case z26 => (intro w hSw; (obtain ⟨x0, x1, x2⟩ := hSw); go_simp; try with_reducible rfl)
  try simp only [Act.put, jP, jO, jS, jG, jH, jI]
  refine tkH 12 ?vz27 rfl ?z27 ?_
  case z27 => (intro w hSw; (obtain ⟨x0, x1, x2⟩ := hSw); go_simp; try with_reducible rfl)
  try simp only [Act.put, jP, jO, jS, jG, jH, jI]
  refine tkH 13 ?vz28 rfl ?z28 ?_
  case z28 => (intro w hSw; (obtain ⟨x0, x1, x2⟩ := hSw); go_simp; try with_reducible rfl)
  try simp only [Act.put, jP, jO, jS, jG, jH, jI]
  refine rdH 14 rfl fun K hK => ?_
  have k9 := q4.1
  have l9 := q4.2
  go_simp
  have S10 := setX hMX S9 3 (.slice (some ⟨g9, 0, none⟩) (ch.length + 1) cap9)
  refine hK.out _ _ S10 (fun hHeld4 => ?_)
  clear hK K
  try simp only [Act.put, jP, jO, jS, jG, jH, jI]
  refine wpAnyH_done (by kernel_rfl) ?_ _
  go_wp2_with fail
  go_end0
  exact ⟨rfl, ⟨_, by rw [E3.out]; exact Q1.out⟩, mkF_trans FW.out Q2.out⟩
 refine AllReadyH.cons rfl (fun K hK => ?_) AllReadyH.nil
 go_simp
 refine hK.out _ _ S8 (fun hHeld2 => ?_)
 clear hK K
 try simp only [Act.put, jP, jO, jS, jG, jH, jI]
 refine rdH 5 rfl fun K hK => ?_
 go_simp
 refine hK.out _ _ S8 (fun hHeld2 => ?_)
 clear hK K
 try simp only [Act.put, jP, jO, jS, jG, jH, jI]
 refine rdH 10 rfl fun K hK => ?_
 refine step_append_own rfl _ _ 74 rfl B 86 i0 (.agg #[.int .i64 0, .int .i64 0, .int .i64 0, .string ⟨#[]⟩]) 4 40 Tryz.underlying74 hi hz0 hz1 hz2 rfl (by decide) (.slice oa ch.length ocap) _ _ rfl (OW.alloc _) ⟨wc.heap.size, 0, none⟩ 1 1 (cgCells ⟨at_, n⟩) rfl rfl (new_cells wc (cgCells ⟨at_, n⟩)) (cg_one _) (by have := hl3.out; unfold maxLen; dsimp only; omega) (by have := hl3.out; dsimp only; omega) (by have := MW.out.bS; simp; omega) ?_
 intro v' w9 hown9 hgrow9
 obtain ⟨q1, q2, q3, q4⟩ := mk_app MW.out LTW.out (by decide) (hMX) hown9 ⟨hgrow9.os, hgrow9.tape, hgrow9.output, hgrow9.size, hgrow9.block⟩
 obtain ⟨g9, cap9, rfl⟩ := owns_shape hown9
 have S9 := q3 SS.out
 have Q1 := hid q1
 have Q2 := hid q2
 clear q1 q2 q3
 refine hK.out _ _ S9 (fun hHeld3 => ?_)
 clear hK K
 try simp only [Act.put, jP, jO, jS, jG, jH, jI]
 refine tkH 11 ?vz29 rfl ?z29 ?_
 case z29 => (intro w hSw; (obtain ⟨x0, x1, x2⟩ := hSw); go_simp; try with_reducible rfl)
 try simp only [Act.put, jP, jO, jS, jG, jH, jI]
 refine tkH 12 ?vz30 rfl ?z30 ?_
 case z30 => (intro w hSw; (obtain ⟨x0, x1, x2⟩ := hSw); go_simp; try with_reducible rfl)
 try simp only [Act.put, jP, jO, jS, jG, jH, jI]
 refine tkH 13 ?vz31 rfl ?z31 ?_
 case z31 => (intro w hSw; (obtain ⟨x0, x1, x2⟩ := hSw); go_simp; try with_reducible rfl)
 try simp only [Act.put, jP, jO, jS, jG, jH, jI]
 refine rdH 14 rfl fun K hK => ?_
 have k9 := q4.1
 have l9 := q4.2
 go_simp
 have S10 := setX hMX S9 3 (.slice (some ⟨g9, 0, none⟩) (ch.length + 1) cap9)
 refine hK.out _ _ S10 (fun hHeld4 => ?_)
 clear hK K
 try simp only [Act.put, jP, jO, jS, jG, jH, jI]
 refine wpAnyH_done (by kernel_rfl) ?_ _
 go_wp2_with fail
 go_end0
 exact ⟨rfl, ⟨_, by rw [E3.out]; exact Q1.out⟩, mkF_trans FW.out Q2.out⟩
end Go.Proofs.YtkhlkohlccndgaaGreat
namespace Go.Proofs.YtkhlkohlccndgaaGreat
open Go.RowKit Go.Shelf
attribute [local go_sem] Oper.semAt_some
attribute [local go_sem ↓] Go.wp_at_zero Go.wp_at_succ

/- times at which something else is saved by an era's clocks -/
def eraT (rs : List Sx.Rl) (x : Sx.Er) : List Sx.Tm := ⟨-62135596800, x.save, []⟩ :: (if x.rules = [] then [] else Sx.times rs x.rules x.shift)
theorem eraT_len (rs : List Sx.Rl) (x : Sx.Er) : (eraT rs x).length ≤ 1001 := by
 unfold eraT
 have := Sx.times_fewZ rs x.rules x.shift
 split <;> simp <;> omega
theorem time_len (l : List Sx.Tm) : (l.flatMap timeC).length = l.length * 3 := by
 induction l with
 | nil => rfl
 | cons a r ih => rw [List.flatMap_cons, List.length_append, ih, List.length_cons]; simp [timeC]; omega
theorem time_ones (l : List Sx.Tm) : ∀ u ∈ l.flatMap timeC, u.oneCell' = true := by
 intro u hu
 obtain ⟨x, _, h⟩ := List.mem_flatMap.1 hu
 exact time_one x u h
theorem flat_len {α : Type} {z : Nat} (cells : α → List Value) (hz : ∀ x, (cells x).length = z) : ∀ xs : List α, (xs.flatMap cells).length = xs.length * z
 | [] => by simp
 | a :: r => by rw [List.flatMap_cons, List.length_append, flat_len cells hz r, hz, List.length_cons, Nat.add_mul]; omega
theorem rd_news {α : Type} {z : Nat} {cells : α → List Value} {w : World} {a : Option Addr} {n cap : Nat} {xs : List α} (hz : ∀ x, (cells x).length = z) (hz0 : 0 < z) (h : Rd z cells w (.slice a n cap) xs) :
  (∀ ad, a = some ad → ∀ j u, (xs.flatMap cells)[j]? = some u → w.cell? (ad.add j) = some u) ∧ (a = none → xs.length = 0) := by
 obtain ⟨a', cap', h1, h2⟩ := h
 simp at h1
 obtain ⟨rfl, _, _⟩ := h1
 constructor
 ·intro ad had j u hj
  have hne : xs ≠ [] := by rintro rfl; simp at hj
  obtain ⟨b, o, e, hb, hc⟩ := h2 hne
  rw [had] at e
  simp at e
  subst e
  have hl := flat_len cells hz xs
  have hjl : j < xs.length * z := by rw [← hl]; exact (List.getElem?_eq_some_iff.1 hj).1
  have hi : j / z < xs.length := Nat.div_lt_of_lt_mul (by rw [Nat.mul_comm]; exact hjl)
  have hk : j % z < z := Nat.mod_lt _ hz0
  obtain ⟨y, hx⟩ : ∃ y, xs[j / z]? = some y := ⟨_, List.getElem?_eq_getElem hi⟩
  obtain ⟨v, hv⟩ : ∃ v, (cells y)[j % z]? = some v := ⟨_, List.getElem?_eq_getElem (by rw [hz]; exact hk)⟩
  have f := flat_get cells hz xs (j / z) _ hx (j % z) v hv
  have e2 : j / z * z + j % z = j := by rw [Nat.mul_comm]; exact Nat.div_add_mod j z
  rw [e2, hj] at f
  simp at f
  subst f
  have := hc (j / z) _ hx (j % z) u hv
  rw [show o + j / z * z + j % z = o + j by rw [Nat.add_assoc, e2]] at this
  cases j with
  | zero => simpa [Addr.add] using this
  | succ j => simpa [Addr.add] using this
 ·intro ha
  by_cases hne : xs = []
  ·simp [hne]
  ·obtain ⟨b, o, e, _⟩ := h2 hne
   rw [ha] at e; cases e
theorem time_news {w : World} {a : Option Addr} {n cap : Nat} {xs : List Sx.Tm} (h : RdTimes w (.slice a n cap) xs) :
  (∀ ad, a = some ad → ∀ j u, (xs.flatMap timeC)[j]? = some u → w.cell? (ad.add j) = some u) ∧ (a = none → xs.length = 0) := rd_news (fun _ => rfl) (by decide) h
theorem below_own {N : Nat} {w a b : World} {e : TypeId} {z n : Nat} {v : Value} {xs : List Value} (h : Below N w a) (ho : a.ownsRow N e z v n xs) (hs : N ≤ a.heap.size) (hg : a.grownBy b v.ownBlock) : Below N w b :=
 h.grown hg hs (fun k hk => (ho.lt k hk).1)
theorem mkTimes_any (rs : List Sx.Rl) (x : Sx.Er) (M : Nat) (ra : Option Addr) (rcap : Nat) (w : World) (h4 : w.cell? ⟨M, 4, none⟩ = some (.slice ra rs.length rcap)) (hM : M < w.heap.size) (h : RdRules w (.slice ra rs.length rcap) rs) (hs : ∀ r ∈ rs, r.name.length ≤ maxLen ∧ r.letter.length ≤ maxLen) :
  Calls Tryz.prog 176 #[.pointer (some ⟨M, 0, none⟩), eraV x] w fun e w' => ∃ v, e = .returned v ∧ OwnTimes w' w.heap.size v (eraT rs x) ∧ Below w.heap.size w w' := by
 obtain ⟨N, hN⟩ : ∃ N, w.heap.size = N := ⟨_, rfl⟩
 obtain ⟨V, gV, L0, hb, sz⟩ := named_new w #[.int .i64 x.shift, strV x.rules, .int .i64 x.save, strV x.format, .bool x.opn, .int .i64 x.uy, .int .i64 x.um, .int .i64 x.ud, .int .i64 x.uat, .int .i64 x.uclock] 67
 obtain ⟨V1, gV1, hV1, hb1, sz1⟩ := named_new V #[.int .i64 (-62135596800), .int .i64 x.save, .string ⟨#[]⟩] 72
 have OW : OwnTimes V1 N (.slice (some ⟨V.heap.size, 0, none⟩) 1 1) [⟨-62135596800, x.save, []⟩] := by
  have := World.ownsRow_lit (e := 72) (size := 3) (base := N) V #[.int .i64 (-62135596800), .int .i64 x.save, .string ⟨#[]⟩] 1 (by rw [sz, hN]; omega) (by decide) rfl
  rw [gV1] at this
  exact this
 have LV : CellsAt V1 N [.int .i64 x.shift, strV x.rules, .int .i64 x.save, strV x.format, .bool x.opn, .int .i64 x.uy, .int .i64 x.um, .int .i64 x.ud, .int .i64 x.uat, .int .i64 x.uclock] := ca_below (hN ▸ L0) hb1
 have LV0 : CellsAt V N [.int .i64 x.shift, strV x.rules, .int .i64 x.save, strV x.format, .bool x.opn, .int .i64 x.uy, .int .i64 x.um, .int .i64 x.ud, .int .i64 x.uat, .int .i64 x.uclock] := hN ▸ L0
 have BV : Below N w V1 := by rw [← hN]; exact hb.trans (hb1.mono (by omega))
 have m4 : V1.cell? ⟨M, 4, none⟩ = some (.slice ra rs.length rcap) := (BV.cell (p := ⟨M, 4, none⟩) (by show M < N; omega)).trans h4
 have sM : M < V1.heap.size := by omega
 have sN : N < V1.heap.size := by omega
 have HT := hid (fun W (hW : Below V1.heap.size V1 W) => times_any rs (.slice ra rs.length rcap) x.rules x.shift W (rd_below (rd_below h (hN ▸ BV)) hW) hs)
 obtain ⟨y2, _⟩ := ca_at LV0 2 rfl
 have sy := LV0.1
 obtain ⟨x0, _⟩ := ca_at LV 0 rfl
 obtain ⟨x1, _⟩ := ca_at LV 1 rfl
 have SS : Hid (V1.cell? ⟨M, 4, none⟩ = some (.slice ra rs.length rcap) ∧ V1.cell? ⟨N, 1, none⟩ = some (strV x.rules) ∧ V1.cell? ⟨N, 0, none⟩ = some (.int .i64 x.shift)) := ⟨m4, x1, x0⟩
 have KS : Hid (∀ w7, Below V1.heap.size V1 w7 → w7.cell? ⟨M, 4, none⟩ = some (.slice ra rs.length rcap) ∧ w7.cell? ⟨N, 1, none⟩ = some (strV x.rules) ∧ w7.cell? ⟨N, 0, none⟩ = some (.int .i64 x.shift)) := fun w7 hb => ⟨(hb.cell (p := ⟨M, 4, none⟩) sM).trans m4, (hb.cell (p := ⟨N, 1, none⟩) sN).trans x1, (hb.cell (p := ⟨N, 0, none⟩) sN).trans x0⟩
 obtain ⟨G, hG⟩ : ∃ G, V.heap.size = G := ⟨_, rfl⟩
 rw [hG] at OW
 have HOW := hid OW
 have HBV := hid BV
 have hGN : N + 1 = G := by omega
 clear h4 h L0 hb hb1 sz sz1 hV1 LV LV0 OW BV
 cases hr : x.rules.isEmpty
 case true =>
  have hr0 : x.rules = [] := by simpa using hr
  have ET : Hid (eraT rs x = [⟨-62135596800, x.save, []⟩]) := by show _ = _; unfold eraT; rw [if_pos hr0]
  clear HT KS SS hr0
  go_enter Tryz.func176, Tryz.ntmps176
  go_wp2
  go_ret
  exact ⟨_, rfl, by rw [hN, ET.out]; exact HOW.out, hN ▸ HBV.out⟩
 have hr0 : x.rules ≠ [] := by intro q; rw [q] at hr; cases hr
 have ET : Hid (eraT rs x = ⟨-62135596800, x.save, []⟩ :: Sx.times rs x.rules x.shift) := by show _ = _; unfold eraT; rw [if_neg hr0]
 clear hr0
 go_enter Tryz.func176, Tryz.ntmps176
 go_upto_region 4 with fail
 refine wp_region_held_drew (S := fun w' => w'.cell? ⟨M, 4, none⟩ = some (.slice ra rs.length rcap) ∧ w'.cell? ⟨N, 1, none⟩ = some (strV x.rules) ∧ w'.cell? ⟨N, 0, none⟩ = some (.int .i64 x.shift)) (by kernel_rfl) SS.out (fun hHeld => ?_)
 refine tkH 0 ?vz1 rfl ?z1 ?_
 case z1 => (intro w hSw; (obtain ⟨m4, x1, x0⟩ := hSw); go_simp; try with_reducible rfl)
 try simp only [Act.put, jP, jO, jS, jG, jH, jI]
 refine tkH 1 ?vz2 rfl ?z2 ?_
 case z2 => (intro w hSw; (obtain ⟨m4, x1, x0⟩ := hSw); go_simp; try with_reducible rfl)
 try simp only [Act.put, jP, jO, jS, jG, jH, jI]
 refine tkH 2 ?vz3 rfl ?z3 ?_
 case z3 => (intro w hSw; (obtain ⟨m4, x1, x0⟩ := hSw); go_simp; try with_reducible rfl)
 try simp only [Act.put, jP, jO, jS, jG, jH, jI]
 refine tkH 3 ?vz4 rfl ?z4 ?_
 case z4 => (intro w hSw; (obtain ⟨m4, x1, x0⟩ := hSw); go_simp; try with_reducible rfl)
 try simp only [Act.put, jP, jO, jS, jG, jH, jI]
 refine tkH 4 ?vz5 rfl ?z5 ?_
 case z5 => (intro w hSw; (obtain ⟨m4, x1, x0⟩ := hSw); go_simp; try with_reducible rfl)
 try simp only [Act.put, jP, jO, jS, jG, jH, jI]
 refine tkH 5 ?vz6 rfl ?z6 ?_
 case z6 => (intro w hSw; (obtain ⟨m4, x1, x0⟩ := hSw); go_simp; try with_reducible rfl)
 try simp only [Act.put, jP, jO, jS, jG, jH, jI]
 refine tkH 6 ?vz7 rfl ?z7 ?_
 case z7 => (intro w hSw; (obtain ⟨m4, x1, x0⟩ := hSw); go_simp; try with_reducible rfl)
 try simp only [Act.put, jP, jO, jS, jG, jH, jI]
 refine tkH 7 ?vz8 rfl ?z8 ?_
 case z8 => (intro w hSw; (obtain ⟨m4, x1, x0⟩ := hSw); go_simp; try with_reducible rfl)
 try simp only [Act.put, jP, jO, jS, jG, jH, jI]
 refine rdH 8 rfl fun K hK => ?_
 go_simp
 refine (HT.out _ (show Below V1.heap.size V1 V1.drew from ⟨rfl, rfl, rfl, Nat.le_refl _, fun _ _ => rfl⟩)).mono ?_
 rintro e w7 ⟨tv, rfl, hO, hb7⟩
 have hb := below_drew1 hb7
 have S7 := KS.out w7 hb
 refine hK.out _ _ ?_ (fun hHeld => ?_)
 ·exact S7
 clear hK K
 try simp only [Act.put, jP, jO, jS, jG, jH, jI]
 refine tkH 9 ?vz9 rfl ?z9 ?_
 case z9 => (intro w hSw; (obtain ⟨m4, x1, x0⟩ := hSw); go_simp; try with_reducible rfl)
 try simp only [Act.put, jP, jO, jS, jG, jH, jI]
 refine tkH 10 ?vz10 rfl ?z10 ?_
 case z10 => (intro w hSw; (obtain ⟨m4, x1, x0⟩ := hSw); go_simp; try with_reducible rfl)
 try simp only [Act.put, jP, jO, jS, jG, jH, jI]
 refine tkH 11 ?vz11 rfl ?z11 ?_
 case z11 => (intro w hSw; (obtain ⟨m4, x1, x0⟩ := hSw); go_simp; try with_reducible rfl)
 try simp only [Act.put, jP, jO, jS, jG, jH, jI]
 refine tkH 12 ?vz12 rfl ?z12 ?_
 case z12 => (intro w hSw; (obtain ⟨m4, x1, x0⟩ := hSw); go_simp; try with_reducible rfl)
 try simp only [Act.put, jP, jO, jS, jG, jH, jI]
 refine tkH 13 ?vz13 rfl ?z13 ?_
 case z13 => (intro w hSw; (obtain ⟨m4, x1, x0⟩ := hSw); go_simp; try with_reducible rfl)
 try simp only [Act.put, jP, jO, jS, jG, jH, jI]
 refine wpAnyH_done (by kernel_rfl) ?_ _
 have HO := hid (ownTimes_rd hO)
 obtain ⟨ta, tc, rfl⟩ := owns_shape0 hO
 obtain ⟨T, hT⟩ : ∃ T, Sx.times rs x.rules x.shift = T := ⟨_, rfl⟩
 have hT1 : T.length ≤ 1000 := by rw [← hT]; exact Sx.times_fewZ _ _ _
 obtain ⟨E, hE⟩ : ∃ E, Sx.timesE rs x.rules x.shift = E := ⟨_, rfl⟩
 rw [hT] at HO ET ⊢
 rw [hE]
 have B7 : Hid (Below N w w7) := HBV.out.trans (hb.mono (by omega))
 have O7 := hid (owns_below HOW.out hb)
 have s7 : N ≤ w7.heap.size := by have := hb.size; omega
 clear hO HT KS SS hT hE hb7 S7 m4 x0 x1 y2 sy hr
 obtain ⟨i0, hi, hz0, hz1, hz2⟩ := info_parts Tryz.infoTime
 have news := time_news HO.out
 go_wp2_with (at_builtin; refine wpList_append_any rfl _ _ 68 rfl N 72 i0 (.agg #[.int .i64 0, .int .i64 0, .string ⟨#[]⟩]) 3 32 Tryz.underlying68 hi hz0 hz1 hz2 rfl (by decide) (.slice (some ⟨G, 0, none⟩) 1 1) 1 _ rfl O7.out ta T.length tc (T.flatMap timeC) rfl (time_len T) news.1 news.2 (time_ones T) (by unfold maxLen; omega) (by omega) s7 ?_; intro v' w9 hown9 hgrow9)
 go_ret
 refine ⟨_, rfl, ?_, ?_⟩
 ·rw [hN, ET.out]
  have e : (⟨-62135596800, x.save, []⟩ :: T : List Sx.Tm).length = 1 + T.length := by simp; omega
  unfold OwnTimes
  rw [e]
  exact hown9
 ·rw [hN]
  exact below_own B7.out O7.out s7 hgrow9
end Go.Proofs.YtkhlkohlccndgaaGreat
namespace Go.Proofs.YtkhlkohlccndgaaGreat
open Go.RowKit Go.Shelf
attribute [local go_sem] Oper.semAt_some
attribute [local go_sem ↓] Go.wp_at_zero Go.wp_at_succ

def localOf (x : Sx.Er) (t : Sx.Tm) : Tb.Lc := ⟨x.shift + t.save, t.save, nameE x.format t.save t.letter⟩
/- until when what is saved stays so -/
def endT (til : Int) : List Sx.Tm → Int
 | [] => til
 | u :: _ => min til u.at_
def eraGo (x : Sx.Er) (frm til : Int) : List Sx.Tm → Ms → Ms
 | [], s => s
 | t :: r, s => eraGo x frm til r (if max frm t.at_ < endT til r then putM (max frm t.at_) (localOf x t) s else s)
theorem eraGo_cons (x : Sx.Er) (frm til : Int) (t : Sx.Tm) (r : List Sx.Tm) (s : Ms) : eraGo x frm til (t :: r) s = eraGo x frm til r (if max frm t.at_ < endT til r then putM (max frm t.at_) (localOf x t) s else s) := rfl
theorem eraGo_len (x : Sx.Er) (frm til : Int) : ∀ (l : List Sx.Tm) (s : Ms), (eraGo x frm til l s).ch.length ≤ s.ch.length + l.length
 | [], s => by simp [eraGo]
 | t :: r, s => by
   rw [eraGo_cons]
   refine Nat.le_trans (eraGo_len x frm til r _) ?_
   have h1 := putM_len (max frm t.at_) (localOf x t) s
   rw [List.length_cons]
   split
   all_goals omega
/- an era of which nothing is wrong -/
structure ErFine (x : Sx.Er) : Prop where
 fmt : x.format.length ≤ 1000000
 sh : -1000000000000 ≤ x.shift ∧ x.shift ≤ 1000000000000
structure TmFine (t : Sx.Tm) : Prop where
 let_ : t.letter.length ≤ 1000000
 sv : -1000000000000 ≤ t.save ∧ t.save ≤ 1000000000000
theorem mkEra_any (rs : List Sx.Rl) (x : Sx.Er) (frm to_ m : Int) {B M : Nat} {s : Ms} {cv : Value} {ra : Option Addr} {rcap : Nat} {w : World} (h : Mk B M s cv (.slice ra rs.length rcap) w) (hl : s.ch.length ≤ 100000) (hr : RdRules w (.slice ra rs.length rcap) rs) (hs : ∀ r ∈ rs, r.name.length ≤ maxLen ∧ r.letter.length ≤ maxLen)
  (hm : w.cell? ⟨0, 0, none⟩ = some (.int .i64 m)) (hM0 : M ≠ 0) (hx : ErFine x) (ht : ∀ t ∈ eraT rs x, TmFine t) :
  Calls Tryz.prog 132 #[.pointer (some ⟨M, 0, none⟩), eraV x, .int .i64 frm, .int .i64 to_] w fun e w' => ∃ cv', e = .returned (.tuple #[]) ∧ Mk B M (eraGo x frm to_ (eraT rs x) s) cv' (.slice ra rs.length rcap) w' ∧ MkF B M w w' := by
 obtain ⟨X, hX⟩ : ∃ X, w.heap.size = X := ⟨_, rfl⟩
 obtain ⟨V, gV, L0, hb, sz⟩ := named_new w #[.int .i64 x.shift, strV x.rules, .int .i64 x.save, strV x.format, .bool x.opn, .int .i64 x.uy, .int .i64 x.um, .int .i64 x.ud, .int .i64 x.uat, .int .i64 x.uclock] 67
 have LV : CellsAt V X [.int .i64 x.shift, strV x.rules, .int .i64 x.save, strV x.format, .bool x.opn, .int .i64 x.uy, .int .i64 x.um, .int .i64 x.ud, .int .i64 x.uat, .int .i64 x.uclock] := hX ▸ L0
 have TV : IsT V X 67 := by rw [← gV, ← hX]; exact isT_new w _ _
 have MV := mk_below h hb
 have hM : M < w.heap.size := h.box.1
 have HT := hid (mkTimes_any rs x M ra rcap V (ca_at MV.box 4 rfl).1 MV.box.1 (rd_below hr hb) hs)
 have FV : MkF B M w V := mkF_below hb h.bS
 have HM0 : Hid (w.cell? ⟨0, 0, none⟩ = some (.int .i64 m) ∧ 0 < B ∧ 0 ≠ M ∧ 0 < w.heap.size) := ⟨hm, by have := h.mB; omega, fun e => hM0 e.symm, by omega⟩
 have HX := hid hx
 have HTF := hid ht
 obtain ⟨T, hT⟩ : ∃ T, eraT rs x = T := ⟨_, rfl⟩
 have hT1 : T.length ≤ 1001 := by rw [← hT]; exact eraT_len rs x
 rw [hT] at HT HTF ⊢
 obtain ⟨R, hR⟩ : ∃ R, eraGo x frm to_ T s = R := ⟨_, rfl⟩
 have HR := hid hR
 rw [hR]
 have HMV := hid MV
 have HFV := hid FV
 have HLV := hid LV
 have HTV := hid TV
 have hMX : M ≠ X := by omega
 obtain ⟨a0, _⟩ := ca_at LV 0 rfl
 obtain ⟨a1, _⟩ := ca_at LV 1 rfl
 obtain ⟨a2, _⟩ := ca_at LV 2 rfl
 obtain ⟨a3, _⟩ := ca_at LV 3 rfl
 obtain ⟨a4, _⟩ := ca_at LV 4 rfl
 obtain ⟨a5, _⟩ := ca_at LV 5 rfl
 obtain ⟨a6, _⟩ := ca_at LV 6 rfl
 obtain ⟨a7, _⟩ := ca_at LV 7 rfl
 obtain ⟨a8, _⟩ := ca_at LV 8 rfl
 obtain ⟨a9, _⟩ := ca_at LV 9 rfl
 have sx := LV.1
 clear h hr hs hm hx ht hT hR MV FV LV TV L0 hb
 go_enter Tryz.func132, Tryz.ntmps132
 go_wp2_with fail
 refine HT.out.mono ?_
 rintro e w1 ⟨tv, rfl, hO, hb⟩
 have M1 := hid (mk_below HMV.out hb)
 have F1 : Hid (MkF B M w w1) := mkF_trans HFV.out (mkF_below hb HMV.out.bS)
 have X1 := hid (ca_below HLV.out hb)
 have TX1 := hid (isT_below HTV.out hb)
 have O1 := hid hO
 obtain ⟨ta, tc, rfl⟩ := owns_shape0 hO
 clear hO HT HMV HFV HLV HTV a0 a1 a2 a3 a4 a5 a6 a7 a8 a9 sx hb
 go_wp2_with fail
 go_loopw [18] (fun iv wr => ∃ (i : Nat) (s' : Ms) (cv' : Value), i ≤ T.length ∧ iv = .int .i64 i ∧ s'.ch.length ≤ s.ch.length + i ∧ Hid (Mk B M s' cv' (.slice ra rs.length rcap) wr) ∧ Hid (MkF B M w1 wr) ∧ Hid (eraGo x frm to_ (T.drop i) s' = R)) (fun iv _ => T.length - (intOf iv).toNat)
 case atStart => exact ⟨0, s, cv, Nat.zero_le _, rfl, by omega, M1, mkF_refl _ _ _, by show eraGo _ _ _ (T.drop 0) _ = _; rw [List.drop_zero]; exact HR.out⟩
 case round =>
  obtain ⟨i, s', cv', hi, rfl, hlen, MR, FR, HG⟩ := hrel
  by_cases hlt : i < T.length
  case neg =>
   have e : T.drop i = [] := List.drop_eq_nil_of_le (by omega)
   have e2 : Hid (s' = R) := by have := HG.out; rw [e] at this; exact this
   have q : ¬ (i : Int) < (T.length : Int) := by omega
   clear hlt e HG
   go_wp2_with fail
   go_end0
   exact ⟨rfl, ⟨cv', by rw [← e2.out]; exact MR.out⟩, mkF_trans F1.out FR.out⟩
  have q : (i : Int) < (T.length : Int) := by omega
  obtain ⟨t, htt⟩ : ∃ t, T[i]? = some t := ⟨_, List.getElem?_eq_getElem hlt⟩
  have OR := owns_mkF O1.out (by decide) M1.out.ty (by decide) FR.out
  obtain ⟨tb, to2, e, htb, hc⟩ := rd_elem (ownTimes_rd OR) htt
  subst e
  have t0 : wr.cell? ⟨tb, to2 + i * 3, none⟩ = some (.int .i64 t.at_) := by have := hc 0 _ rfl; simpa using this
  have t1 : wr.cell? ⟨tb, to2 + i * 3 + 1, none⟩ = some (.int .i64 t.save) := hc 1 _ rfl
  have t2 : wr.cell? ⟨tb, to2 + i * 3 + 2, none⟩ = some (strV t.letter) := hc 2 _ rfl
  have XR := hid (ca_mkF X1.out TX1.out (by decide) (Ne.symm hMX) FR.out)
  have TXR := hid (isT_mkF TX1.out (by decide) (Ne.symm hMX) FR.out)
  have HTT := hid htt
  have HTFi := hid (HTF.out t (List.mem_of_getElem? htt))
  have hdr : T.drop i = t :: T.drop (i + 1) := Sx.drop_get htt
  obtain ⟨en, hen⟩ : ∃ en, endT to_ (T.drop (i + 1)) = en := ⟨_, rfl⟩
  have HEN := hid hen
  have HG2 : Hid (eraGo x frm to_ (T.drop (i + 1)) (if max frm t.at_ < en then putM (max frm t.at_) (localOf x t) s' else s') = R) := by
   have := HG.out
   rw [hdr, eraGo_cons, hen] at this
   exact this
  have HOR := hid OR
  obtain ⟨V2, gV2, L2, hb2, sz2⟩ := named_new wr #[.int .i64 t.at_, .int .i64 t.save, .string ⟨t.letter.toArray⟩] 72
  obtain ⟨Y, hY⟩ : ∃ Y, wr.heap.size = Y := ⟨_, rfl⟩
  have LY : CellsAt V2 Y [.int .i64 t.at_, .int .i64 t.save, strV t.letter] := hY ▸ L2
  have MV2 := hid (mk_below MR.out hb2)
  have FV2 : Hid (MkF B M w1 V2) := mkF_trans FR.out (mkF_below hb2 MR.out.bS)
  have XV2 := hid (ca_below XR.out hb2)
  have OV2 := hid (owns_below OR hb2)
  have HLY := hid LY
  clear hc htt hdr hen HG L2 MR FR XR HOR OR TXR
  obtain ⟨y0, _⟩ := ca_at HLY.out 0 rfl
  have sy := HLY.out.1
  go_upto_region 5 with fail
  clear t0 t1 t2 htb
  go_cut [11, 12] from 19 to 50 (fun s11 s12 wc => wc = V2 ∧ s11 = .int .i64 (max frm t.at_) ∧ s12 = .int .i64 to_)
  case first =>
   go_wp2_with fail
   go_meet
   exact ⟨rfl, rfl, rfl⟩
  case rest =>
  obtain ⟨rfl, rfl, rfl⟩ := hcut
  obtain ⟨bg, hbg⟩ : ∃ bg, max frm t.at_ = bg := ⟨_, rfl⟩
  rw [hbg] at HG2 ⊢
  clear hbg
  have OVb := OV2.out
  go_upto_if 32 with fail
  go_cut [12] from 19 to 50 (fun s12 w' => w' = wc ∧ s12 = .int .i64 en)
  case first =>
   by_cases hn : i + 1 < T.length
   ·obtain ⟨u, hu⟩ : ∃ u, T[i + 1]? = some u := ⟨_, List.getElem?_eq_getElem hn⟩
    have hdr : T.drop (i + 1) = u :: T.drop (i + 1 + 1) := Sx.drop_get hu
    have e1 : min to_ u.at_ = en := by have := HEN.out; rw [hdr] at this; exact this
    obtain ⟨tb', to2', e, htb, hc⟩ := rd_elem (ownTimes_rd OVb) hu
    simp only [Option.some.injEq, Addr.mk.injEq] at e
    obtain ⟨rfl, rfl, _⟩ := e
    have u0 : wc.cell? ⟨tb, to2 + (i + 1) * 3, none⟩ = some (.int .i64 u.at_) := by have := hc 0 _ rfl; simpa using this
    have q1 : ((i : Int) + 1) < (T.length : Int) := by omega
    have E1 := hid e1
    clear hc hu hdr e1 hn OVb
    go_wp2_with fail
    go_meet
    exact ⟨rfl, by rw [E1.out]⟩
   ·have hdr : T.drop (i + 1) = [] := List.drop_eq_nil_of_le (by omega)
    have e1 : to_ = en := by have := HEN.out; rw [hdr] at this; exact this
    have E1 := hid e1
    have q1 : ¬ ((i : Int) + 1) < (T.length : Int) := by omega
    clear hdr e1 hn OVb
    go_wp2_with fail
    go_meet
    exact ⟨rfl, by rw [E1.out]⟩
  case rest =>
  obtain ⟨rfl, rfl⟩ := hcut
  clear OVb y0 sy hb2 sz2 LY
  by_cases hbe : bg < en
  case neg =>
   have HG3 : Hid (eraGo x frm to_ (T.drop (i + 1)) s' = R) := by have := HG2.out; rw [if_neg hbe] at this; exact this
   clear HG2
   go_wp2_with fail
   go_roundw
   case rel => exact ⟨i + 1, s', cv', by omega, by go_num, by omega, MV2, FV2, HG3⟩
   case measure => simp [intOf]; omega
  have HG3 : Hid (eraGo x frm to_ (T.drop (i + 1)) (putM bg (localOf x t) s') = R) := by have := HG2.out; rw [if_pos hbe] at this; exact this
  have m0 : wc.cell? ⟨0, 0, none⟩ = some (.int .i64 m) := (World.cell?_of_block ((mkF_trans F1.out FV2.out).low 0 HM0.out.2.1 HM0.out.2.2.1)).trans HM0.out.1
  have CL := hid (local_any x t m wc HX.out.fmt HTFi.out.let_ m0 (by have := (mkF_trans F1.out FV2.out).size; have := HM0.out.2.2.2; omega) HX.out.sh HTFi.out.sv)
  obtain ⟨a0, _⟩ := ca_at XV2.out 0 rfl
  obtain ⟨a1, _⟩ := ca_at XV2.out 1 rfl
  obtain ⟨a2, _⟩ := ca_at XV2.out 2 rfl
  obtain ⟨a3, _⟩ := ca_at XV2.out 3 rfl
  obtain ⟨a4, _⟩ := ca_at XV2.out 4 rfl
  obtain ⟨a5, _⟩ := ca_at XV2.out 5 rfl
  obtain ⟨a6, _⟩ := ca_at XV2.out 6 rfl
  obtain ⟨a7, _⟩ := ca_at XV2.out 7 rfl
  obtain ⟨a8, _⟩ := ca_at XV2.out 8 rfl
  obtain ⟨a9, _⟩ := ca_at XV2.out 9 rfl
  have sx := XV2.out.1
  obtain ⟨y0, _⟩ := ca_at HLY.out 0 rfl
  obtain ⟨y1, _⟩ := ca_at HLY.out 1 rfl
  obtain ⟨y2, _⟩ := ca_at HLY.out 2 rfl
  have sy := HLY.out.1
  clear HG2 m0
  go_wp2_with fail
  refine CL.out.mono ?_
  rintro e w5 ⟨rfl, hb5⟩
  have HP := hid (mkPut_any (mk_below MV2.out hb5) (by omega) bg (localOf x t))
  have F5 : Hid (MkF B M w1 w5) := mkF_trans FV2.out (mkF_below hb5 MV2.out.bS)
  clear a0 a1 a2 a3 a4 a5 a6 a7 a8 a9 sx y0 y1 y2 sy hb5 CL MV2 FV2 XV2 OV2
  go_wp2_with fail
  refine HP.out.mono ?_
  rintro e w6 ⟨cv6, rfl, M6, F6⟩
  have M7 := hid M6
  have F7 : Hid (MkF B M w1 w6) := mkF_trans F5.out F6
  have hlen2 := putM_len bg (localOf x t) s'
  clear M6 F6 F5 HP
  go_wp2_with fail
  go_roundw
  case rel => exact ⟨i + 1, _, cv6, by omega, by go_num, by omega, M7, F7, HG3⟩
  case measure => simp [intOf]; omega
end Go.Proofs.YtkhlkohlccndgaaGreat
namespace Go.Proofs.YtkhlkohlccndgaaGreat
open Go.RowKit Go.Shelf
attribute [local go_sem] Oper.semAt_some
attribute [local go_sem ↓] Go.wp_at_zero Go.wp_at_succ

/- until when an era is -/
def endZ : List Int → Int
 | [] => 253402300800
 | n :: _ => min 253402300800 n
def zoneGo (rs : List Sx.Rl) : Int → List Sx.Er → List Int → Ms → Ms
 | _, [], _, s => s
 | f, x :: r, l, s => zoneGo rs (endZ l) r l.tail (eraGo x f (endZ l) (eraT rs x) s)
theorem zoneGo_cons (rs : List Sx.Rl) (f : Int) (x : Sx.Er) (r : List Sx.Er) (l : List Int) (s : Ms) : zoneGo rs f (x :: r) l s = zoneGo rs (endZ l) r l.tail (eraGo x f (endZ l) (eraT rs x) s) := rfl
theorem tail_drop {α : Type} (l : List α) (i : Nat) : (l.drop i).tail = l.drop (i + 1) := by rw [List.tail_drop]
theorem mkZone_any (rs : List Sx.Rl) (z : Sx.Zn) (L : List Int) (m : Int) {B M : Nat} {s : Ms} {cv : Value} {ra ea la : Option Addr} {rcap ecap lcap : Nat} {w : World} (h : Mk B M s cv (.slice ra rs.length rcap) w) (hl : s.ch.length ≤ 1000)
  (hst : ∀ w', MkF B M w w' → RdRules w' (.slice ra rs.length rcap) rs ∧ RdEras w' (.slice ea z.eras.length ecap) z.eras ∧ RdInts w' (.slice la L.length lcap) L) (hs : ∀ r ∈ rs, r.name.length ≤ maxLen ∧ r.letter.length ≤ maxLen)
  (hm : w.cell? ⟨0, 0, none⟩ = some (.int .i64 m)) (hM0 : M ≠ 0) (h8 : z.eras.length ≤ 8) (hx : ∀ x ∈ z.eras, ErFine x ∧ ∀ t ∈ eraT rs x, TmFine t) :
  Calls Tryz.prog 71 #[.pointer (some ⟨M, 0, none⟩), .agg #[strV z.name, .slice ea z.eras.length ecap], .slice la L.length lcap] w fun e w' => ∃ cv', e = .returned (.tuple #[]) ∧ Mk B M (zoneGo rs (-62135596800) z.eras L s) cv' (.slice ra rs.length rcap) w' ∧ MkF B M w w' := by
 obtain ⟨X, hX⟩ : ∃ X, w.heap.size = X := ⟨_, rfl⟩
 obtain ⟨V, gV, L0, hb, sz⟩ := named_new w #[strV z.name, .slice ea z.eras.length ecap] 44
 have LV : CellsAt V X [strV z.name, .slice ea z.eras.length ecap] := hX ▸ L0
 have MV := hid (mk_below h hb)
 have FV : Hid (MkF B M w V) := mkF_below hb h.bS
 have hM : M < w.heap.size := h.box.1
 have HM0 : Hid (w.cell? ⟨0, 0, none⟩ = some (.int .i64 m) ∧ 0 < B ∧ 0 ≠ M) := ⟨hm, by have := h.mB; omega, fun e => hM0 e.symm⟩
 have HST := hid hst
 have HS := hid hs
 have HX := hid hx
 obtain ⟨es, hes⟩ : ∃ es, z.eras = es := ⟨_, rfl⟩
 rw [hes] at LV HST HX h8 ⊢
 obtain ⟨R, hR⟩ : ∃ R, zoneGo rs (-62135596800) es L s = R := ⟨_, rfl⟩
 have HR := hid hR
 rw [hR]
 obtain ⟨a0, _⟩ := ca_at LV 0 rfl
 obtain ⟨a1, _⟩ := ca_at LV 1 rfl
 have sx := LV.1
 rw [hes] at gV
 clear h hst hs hm hx hR L0 hb hes LV
 go_enter Tryz.func71, Tryz.ntmps71
 go_wp2_with fail
 go_loopw [6, 13] (fun fv iv wr => ∃ (i : Nat) (f : Int) (s' : Ms) (cv' : Value), i ≤ es.length ∧ iv = .int .i64 i ∧ fv = .int .i64 f ∧ s'.ch.length ≤ s.ch.length + i * 1001 ∧ Hid (Mk B M s' cv' (.slice ra rs.length rcap) wr) ∧ Hid (MkF B M w wr) ∧ Hid (zoneGo rs f (es.drop i) (L.drop i) s' = R)) (fun _ iv _ => es.length - (intOf iv).toNat)
 case atStart => exact ⟨0, -62135596800, s, cv, Nat.zero_le _, rfl, rfl, by omega, MV, FV, by show zoneGo _ _ (es.drop 0) (L.drop 0) _ = _; rw [List.drop_zero, List.drop_zero]; exact HR.out⟩
 case round =>
  clear MV FV a0 a1 sx
  obtain ⟨i, f, s', cv', hi, rfl, rfl, hlen, MR, FR, HG⟩ := hrel
  by_cases hlt : i < es.length
  case neg =>
   have e : es.drop i = [] := List.drop_eq_nil_of_le (by omega)
   have e2 : Hid (s' = R) := by have := HG.out; rw [e] at this; exact this
   have q : ¬ (i : Int) < (es.length : Int) := by omega
   clear hlt e HG
   go_wp2_with fail
   go_end0
   exact ⟨rfl, ⟨cv', by rw [← e2.out]; exact MR.out⟩, FR.out⟩
  have q : (i : Int) < (es.length : Int) := by omega
  obtain ⟨x, hx⟩ : ∃ x, es[i]? = some x := ⟨_, List.getElem?_eq_getElem hlt⟩
  obtain ⟨RR, RE, RL⟩ := HST.out wr FR.out
  obtain ⟨eb, eo, e, heb, hc⟩ := rd_elem RE hx
  subst e
  have e0 : wr.cell? ⟨eb, eo + i * 10, none⟩ = some (.int .i64 x.shift) := by have := hc 0 _ rfl; simpa using this
  have e1 : wr.cell? ⟨eb, eo + i * 10 + 1, none⟩ = some (strV x.rules) := hc 1 _ rfl
  have e2 : wr.cell? ⟨eb, eo + i * 10 + 2, none⟩ = some (.int .i64 x.save) := hc 2 _ rfl
  have e3 : wr.cell? ⟨eb, eo + i * 10 + 3, none⟩ = some (strV x.format) := hc 3 _ rfl
  have e4 : wr.cell? ⟨eb, eo + i * 10 + 4, none⟩ = some (.bool x.opn) := hc 4 _ rfl
  have e5 : wr.cell? ⟨eb, eo + i * 10 + 5, none⟩ = some (.int .i64 x.uy) := hc 5 _ rfl
  have e6 : wr.cell? ⟨eb, eo + i * 10 + 6, none⟩ = some (.int .i64 x.um) := hc 6 _ rfl
  have e7 : wr.cell? ⟨eb, eo + i * 10 + 7, none⟩ = some (.int .i64 x.ud) := hc 7 _ rfl
  have e8 : wr.cell? ⟨eb, eo + i * 10 + 8, none⟩ = some (.int .i64 x.uat) := hc 8 _ rfl
  have e9 : wr.cell? ⟨eb, eo + i * 10 + 9, none⟩ = some (.int .i64 x.uclock) := hc 9 _ rfl
  have HXi := hid (HX.out x (List.mem_of_getElem? hx))
  have hdr : es.drop i = x :: es.drop (i + 1) := Sx.drop_get hx
  obtain ⟨tt, htt⟩ : ∃ tt, endZ (L.drop i) = tt := ⟨_, rfl⟩
  have HTT := hid htt
  have HG2 : Hid (zoneGo rs tt (es.drop (i + 1)) (L.drop (i + 1)) (eraGo x f tt (eraT rs x) s') = R) := by
   have := HG.out
   rw [hdr, zoneGo_cons, htt, tail_drop] at this
   exact this
  obtain ⟨V2, gV2, L2, hb2, sz2⟩ := named_new wr #[.int .i64 x.shift, strV x.rules, .int .i64 x.save, strV x.format, .bool x.opn, .int .i64 x.uy, .int .i64 x.um, .int .i64 x.ud, .int .i64 x.uat, .int .i64 x.uclock] 67
  obtain ⟨Y, hY⟩ : ∃ Y, wr.heap.size = Y := ⟨_, rfl⟩
  have LY : CellsAt V2 Y [.int .i64 x.shift, strV x.rules, .int .i64 x.save, strV x.format, .bool x.opn, .int .i64 x.uy, .int .i64 x.um, .int .i64 x.ud, .int .i64 x.uat, .int .i64 x.uclock] := hY ▸ L2
  have MV2 := hid (mk_below MR.out hb2)
  have FV2 : Hid (MkF B M w V2) := mkF_trans FR.out (mkF_below hb2 MR.out.bS)
  have RR2 := hid (rd_below RR hb2)
  have RL2 := hid (rd_below RL hb2)
  have HLY := hid LY
  clear hc hx hdr htt HG L2 MR FR RR RE RL LY
  go_upto_if 21 with fail
  clear e0 e1 e2 e3 e4 e5 e6 e7 e8 e9 heb
  go_cut [9] from 14 to 34 (fun s9 wc => wc = V2 ∧ s9 = .int .i64 tt)
  case first =>
   by_cases hn : i < L.length
   ·obtain ⟨u, hu⟩ : ∃ u, L[i]? = some u := ⟨_, List.getElem?_eq_getElem hn⟩
    have hdr : L.drop i = u :: L.drop (i + 1) := Sx.drop_get hu
    have e1 : min 253402300800 u = tt := by have := HTT.out; rw [hdr] at this; exact this
    obtain ⟨lb, lo, e, hlb, hc⟩ := rd_elem RL2.out hu
    subst e
    have u0 : V2.cell? ⟨lb, lo + i, none⟩ = some (.int .i64 u) := by have := hc 0 _ rfl; simpa using this
    have q1 : (i : Int) < (L.length : Int) := by omega
    have E1 := hid e1
    clear hc hu hdr e1 hn
    go_wp2_with fail
    go_meet
    exact ⟨rfl, by rw [E1.out]⟩
   ·have hdr : L.drop i = [] := List.drop_eq_nil_of_le (by omega)
    have e1 : 253402300800 = tt := by have := HTT.out; rw [hdr] at this; exact this
    have E1 := hid e1
    have q1 : ¬ (i : Int) < (L.length : Int) := by omega
    clear hdr e1 hn
    go_wp2_with fail
    go_meet
    exact ⟨rfl, by rw [E1.out]⟩
  case rest =>
  obtain ⟨rfl, rfl⟩ := hcut
  have m0 : wc.cell? ⟨0, 0, none⟩ = some (.int .i64 m) := (World.cell?_of_block (FV2.out.low 0 HM0.out.2.1 HM0.out.2.2)).trans HM0.out.1
  have CE := hid (mkEra_any rs x f tt m MV2.out (by omega) RR2.out HS.out m0 (fun e => HM0.out.2.2 e.symm) HXi.out.1 HXi.out.2)
  obtain ⟨y0, _⟩ := ca_at HLY.out 0 rfl
  obtain ⟨y1, _⟩ := ca_at HLY.out 1 rfl
  obtain ⟨y2, _⟩ := ca_at HLY.out 2 rfl
  obtain ⟨y3, _⟩ := ca_at HLY.out 3 rfl
  obtain ⟨y4, _⟩ := ca_at HLY.out 4 rfl
  obtain ⟨y5, _⟩ := ca_at HLY.out 5 rfl
  obtain ⟨y6, _⟩ := ca_at HLY.out 6 rfl
  obtain ⟨y7, _⟩ := ca_at HLY.out 7 rfl
  obtain ⟨y8, _⟩ := ca_at HLY.out 8 rfl
  obtain ⟨y9, _⟩ := ca_at HLY.out 9 rfl
  have sy := HLY.out.1
  clear m0 hb2 sz2 RR2 RL2
  go_wp2_with fail
  refine CE.out.mono ?_
  rintro e w5 ⟨cv5, rfl, M5, F5⟩
  have M6 := hid M5
  have F6 : Hid (MkF B M w w5) := mkF_trans FV2.out F5
  have hlen2 := eraGo_len x f tt (eraT rs x) s'
  have hlen3 := eraT_len rs x
  clear M5 F5 CE MV2 FV2 HLY y0 y1 y2 y3 y4 y5 y6 y7 y8 y9 sy
  go_wp2_with fail
  go_roundw
  case rel => exact ⟨i + 1, tt, _, cv5, by omega, by go_num, rfl, by omega, M6, F6, HG2⟩
  case measure => simp [intOf]; omega
end Go.Proofs.YtkhlkohlccndgaaGreat
namespace Go.Proofs.YtkhlkohlccndgaaGreat
open Go.RowKit Go.Shelf
theorem indexC_any (hf : Nat) (hc : Array Value) (p : Tb.Cg → Bool) (xs : List Tb.Cg) (ra : Option Addr) (rcap : Nat) (w : World) (h : RdCh w (.slice ra xs.length rcap) xs) (hxs : xs.length ≤ 10000)
  (eh : ∀ args w, (callFunc hf args).run Tryz.prog w = .ok (.enter hf args) w)
  (hp : ∀ x ∈ xs, ∀ W, Below w.heap.size w W → Calls Tryz.prog hf (#[cgV x] ++ hc) W fun e W' => e = .returned (.bool (p x)) ∧ Below W.heap.size W W') :
  Calls Tryz.prog 179 #[.slice ra xs.length rcap, .func (.func hf) #[] hc] w fun e w' => ∃ r : Int, e = .returned (.int .i64 r) ∧ decide (0 ≤ r) = xs.any p ∧ Below w.heap.size w w' := by
 have H := hid h
 have HP := hid hp
 have HA : Hid ((xs.take 0).any p = false) := rfl
 clear h hp
 go_enter Tryz.func179, Tryz.ntmps179
 go_wp2_with fail
 go_loopw [8] (fun a wr => ∃ k : Nat, k ≤ xs.length ∧ a = .int .i64 k ∧ Hid (Below w.heap.size w wr) ∧ Hid ((xs.take k).any p = false)) (fun a _ => xs.length - (intOf a).toNat)
 case atStart => exact ⟨0, by omega, rfl, Below.refl _ _, HA⟩
 case round =>
  clear HA
  obtain ⟨k, hk, rfl, B0, HA⟩ := hrel
  by_cases hlt : k < xs.length
  case neg =>
   have e : xs.take k = xs := List.take_of_length_le (by omega)
   rw [e] at HA
   go_wp2
   go_ret
   exact ⟨-1, rfl, by rw [HA.out]; rfl, B0.out⟩
  obtain ⟨x, hx⟩ : ∃ x, xs[k]? = some x := ⟨_, List.getElem?_eq_getElem hlt⟩
  obtain ⟨rb, ro, rfl, hrb, hc'⟩ := rd_elem (rd_below H.out B0.out) hx
  have c0 : wr.cell? ⟨rb, ro + k * 4, none⟩ = some (.int .i64 x.at_) := hc' 0 _ rfl
  have c1 : wr.cell? ⟨rb, ro + k * 4 + 1, none⟩ = some (.int .i64 x.lc.shift) := hc' 1 _ rfl
  have c2 : wr.cell? ⟨rb, ro + k * 4 + 2, none⟩ = some (.int .i64 x.lc.save) := hc' 2 _ rfl
  have c3 : wr.cell? ⟨rb, ro + k * 4 + 3, none⟩ = some (strV x.lc.name) := hc' 3 _ rfl
  have HX := hid (HP.out x (List.mem_of_getElem? hx) wr B0.out)
  have HS := hid (Sx.take_snoc hx)
  have HI : Hid (xs.any p = true ∨ p x = false) := by
   show _ ∨ _
   cases q : p x
   ·exact .inr rfl
   ·exact .inl (List.any_eq_true.2 ⟨x, List.mem_of_getElem? hx, q⟩)
  obtain ⟨E, hE⟩ : ∃ E, p x = E := ⟨_, rfl⟩
  rw [hE] at HX HI
  have HE := hid hE
  clear hx hc' hE
  go_wp2_with fail
  refine HX.out.mono ?_
  rintro e w1 ⟨rfl, hb⟩
  have B1 : Hid (Below w.heap.size w w1) := B0.out.trans (hb.mono B0.out.size)
  clear hb B0 hrb c0 c1 c2 c3
  cases E
  case true =>
   go_wp2
   go_ret
   exact ⟨k, rfl, by rw [HI.out.resolve_right (by decide)]; simp, B1.out⟩
  case false =>
   have HA2 : Hid ((xs.take (k + 1)).any p = false) := by show _ = _; rw [HS.out, List.any_append, HA.out]; simp [HE.out]
   clear HA
   go_wp2
   go_roundw
   case rel => exact ⟨k + 1, by omega, by go_num, B1, HA2⟩
   case measure => simp [intOf]; omega
theorem containsC_any (hf : Nat) (hc : Array Value) (p : Tb.Cg → Bool) (xs : List Tb.Cg) (ra : Option Addr) (rcap : Nat) (w : World) (h : RdCh w (.slice ra xs.length rcap) xs) (hxs : xs.length ≤ 10000)
  (eh : ∀ args w, (callFunc hf args).run Tryz.prog w = .ok (.enter hf args) w)
  (hp : ∀ x ∈ xs, ∀ W, Below w.heap.size w W → Calls Tryz.prog hf (#[cgV x] ++ hc) W fun e W' => e = .returned (.bool (p x)) ∧ Below W.heap.size W W') :
  Calls Tryz.prog 135 #[.slice ra xs.length rcap, .func (.func hf) #[] hc] w fun e w' => e = .returned (.bool (xs.any p)) ∧ Below w.heap.size w w' := by
 have C := hid (indexC_any hf hc p xs ra rcap w h hxs eh hp)
 clear h hp
 go_enter Tryz.func135, Tryz.ntmps135
 go_wp2_with fail
 refine C.out.mono ?_
 rintro e w1 ⟨r, rfl, hr, hb⟩
 have HR := hid hr
 clear hr
 go_wp2
 go_ret
 exact ⟨ret_bool HR.out, hb⟩

def nameless (c : Tb.Cg) : Bool := !nameB c.lc.name
def mkE (s : Ms) : Int := if (!nameB s.f.name || s.ch.any nameless) = true then 1 else if 1000 < s.ch.length then 2 else 0
theorem mkCheck1_any (c : Tb.Cg) (w : World) (hc : c.lc.name.length ≤ maxLen) : Calls Tryz.prog 133 #[cgV c] w fun e w' => e = .returned (.bool (nameless c)) ∧ Below w.heap.size w w' := by
 obtain ⟨V, gV, L0, hb, sz⟩ := named_new w #[.int .i64 c.at_, .int .i64 c.lc.shift, .int .i64 c.lc.save, strV c.lc.name] 86
 obtain ⟨a3, _⟩ := ca_at L0 3 rfl
 have sx := L0.1
 obtain ⟨b, hbb⟩ : ∃ b, nameB c.lc.name = b := ⟨_, rfl⟩
 have HN := hid (nameOfTime_is c.lc.name V hc hbb)
 have HB := hid hb
 have HR : Hid (nameless c = !b) := by show _ = _; unfold nameless; rw [hbb]
 clear hb hbb L0 hc
 go_enter Tryz.func133, Tryz.ntmps133
 go_wp2_with (go_at_call 134; refine HN.out.mono ?_; rintro e w1 ⟨rfl, rfl⟩)
 go_ret
 exact ⟨ret_bool HR.out.symm, HB.out⟩
theorem mkCheck_any {B M : Nat} {s : Ms} {cv rv : Value} {w : World} (h : Mk B M s cv rv w) (hl : s.ch.length ≤ 10000) (hf : s.f.name.length ≤ maxLen) (hc : ∀ c ∈ s.ch, c.lc.name.length ≤ maxLen) :
  Calls Tryz.prog 72 #[.pointer (some ⟨M, 0, none⟩)] w fun e w' => e = .returned (.int .i64 (mkE s)) ∧ Below w.heap.size w w' := by
 obtain ⟨f, ch⟩ := s
 dsimp only at hf hc hl
 obtain ⟨b, hbb⟩ : ∃ b, nameB f.name = b := ⟨_, rfl⟩
 obtain ⟨a, hab⟩ : ∃ a, ch.any nameless = a := ⟨_, rfl⟩
 have HN := hid (nameOfTime_is f.name w hf hbb)
 have hR := ownCh_rd h.own
 obtain ⟨oa, ocap, rfl⟩ := rd_shape hR
 have HA := hid (containsC_any 133 #[] nameless ch oa ocap w hR hl (enters_of Tryz.func133 (by kernel_rfl) rfl) (fun x hx W _ => mkCheck1_any x W (hc x hx)))
 rw [hab] at HA
 have HM := hid h
 obtain ⟨m2, _⟩ := ca_at h.box 2 rfl
 obtain ⟨m3, _⟩ := ca_at h.box 3 rfl
 dsimp only at m2 m3
 have sm := h.box.1
 have HK : Hid (∀ w1, Below w.heap.size w w1 → w1.cell? ⟨M, 3, none⟩ = some (.slice oa ch.length ocap) ∧ M < w1.heap.size) := fun w1 hb => ⟨(hb.cell (p := ⟨M, 3, none⟩) sm).trans m3, Nat.lt_of_lt_of_le sm hb.size⟩
 have HR : Hid (mkE ⟨f, ch⟩ = if (!b || a) = true then 1 else if 1000 < ch.length then 2 else 0) := by show _ = _; unfold mkE; rw [hbb, hab]
 clear h hf hc hbb hab hR
 cases b
 case false =>
  have HR2 : Hid (mkE ⟨f, ch⟩ = 1) := by show _ = _; rw [HR.out]; rfl
  clear HR HA
  go_enter Tryz.func72, Tryz.ntmps72
  go_wp2_with (go_at_call 134; refine HN.out.mono ?_; rintro e w1 ⟨rfl, rfl⟩)
  go_ret
  exact ⟨ret_int HR2.out.symm, Below.refl _ _⟩
 cases a
 case true =>
  have HR2 : Hid (mkE ⟨f, ch⟩ = 1) := by show _ = _; rw [HR.out]; rfl
  clear HR
  go_enter Tryz.func72, Tryz.ntmps72
  go_wp2_with (first | (go_at_call 134; refine HN.out.mono ?_; rintro e w1 ⟨rfl, rfl⟩) | (go_at_call 135; refine HA.out.mono ?_; rintro e w1 ⟨rfl, hb⟩; have HB := hid hb; clear hb))
  go_ret
  exact ⟨ret_int HR2.out.symm, HB.out⟩
 by_cases hk : 1000 < ch.length
 ·have HR2 : Hid (mkE ⟨f, ch⟩ = 2) := by show _ = _; rw [HR.out, if_neg (by decide), if_pos hk]
  have q : (1000 : Int) < (ch.length : Int) := by omega
  clear HR hk
  go_enter Tryz.func72, Tryz.ntmps72
  go_wp2_with (first | (go_at_call 134; refine HN.out.mono ?_; rintro e w1 ⟨rfl, rfl⟩) | (go_at_call 135; refine HA.out.mono ?_; rintro e w1 ⟨rfl, hb⟩; have HB := hid hb; obtain ⟨n3, sn⟩ := HK.out _ hb; clear hb))
  go_ret
  exact ⟨ret_int HR2.out.symm, HB.out⟩
 ·have HR2 : Hid (mkE ⟨f, ch⟩ = 0) := by show _ = _; rw [HR.out, if_neg (by decide), if_neg hk]
  have q : ¬ (1000 : Int) < (ch.length : Int) := by omega
  clear HR hk
  go_enter Tryz.func72, Tryz.ntmps72
  go_wp2_with (first | (go_at_call 134; refine HN.out.mono ?_; rintro e w1 ⟨rfl, rfl⟩) | (go_at_call 135; refine HA.out.mono ?_; rintro e w1 ⟨rfl, hb⟩; have HB := hid hb; obtain ⟨n3, sn⟩ := HK.out _ hb; clear hb))
  go_ret
  exact ⟨ret_int HR2.out.symm, HB.out⟩
end Go.Proofs.YtkhlkohlccndgaaGreat
namespace Go.Proofs.YtkhlkohlccndgaaGreat
open Go.RowKit Go.Shelf
attribute [local go_sem] Oper.semAt_some
attribute [local go_sem ↓] Go.wp_at_zero Go.wp_at_succ

/- names are no longer than formats and letters -/
theorem cut_le (s sub : Tx.Bs) : (Lib.cut s sub).1.length ≤ s.length ∧ (Lib.cut s sub).2.1.length ≤ s.length := by
 unfold Lib.cut
 split
 ·simp
  omega
 ·simp
theorem nameE_len (f : Tx.Bs) (sv : Int) (l : Tx.Bs) : (nameE f sv l).length ≤ 2 * f.length + l.length := by
 have h1 := cut_le f Sx.pct
 have h2 := cut_le f Sx.slash
 unfold nameE
 split
 ·simp; omega
 ·split <;> omega
structure NmOk (s : Ms) : Prop where
 f : s.f.name.length ≤ 3000000
 ch : ∀ c ∈ s.ch, c.lc.name.length ≤ 3000000
theorem nmOk_put {at_ : Int} {l : Tb.Lc} {s : Ms} (h : NmOk s) (hl : l.name.length ≤ 3000000) : NmOk (putM at_ l s) := by
 unfold putM
 split
 ·exact ⟨hl, h.ch⟩
 ·split
  ·exact h
  ·refine ⟨h.f, fun c hc => ?_⟩
   rcases List.mem_append.1 hc with hc | hc
   ·exact h.ch c hc
   ·rw [List.mem_singleton] at hc; subst hc; exact hl
theorem nmOk_era {x : Sx.Er} (hx : ErFine x) (f til : Int) : ∀ {l : List Sx.Tm} {s : Ms}, NmOk s → (∀ t ∈ l, TmFine t) → NmOk (eraGo x f til l s)
 | [], _, h, _ => h
 | t :: r, s, h, ht => by
   rw [eraGo_cons]
   refine nmOk_era hx f til ?_ (fun u hu => ht u (List.mem_cons_of_mem _ hu))
   split
   ·refine nmOk_put h ?_
    have := nameE_len x.format t.save t.letter
    have := hx.fmt
    have := (ht t (by simp)).let_
    show (nameE x.format t.save t.letter).length ≤ _
    omega
   ·exact h
theorem nmOk_zone {rs : List Sx.Rl} : ∀ {es : List Sx.Er} {f : Int} {l : List Int} {s : Ms}, NmOk s → (∀ x ∈ es, ErFine x ∧ ∀ t ∈ eraT rs x, TmFine t) → NmOk (zoneGo rs f es l s)
 | [], _, _, _, h, _ => h
 | x :: r, f, l, s, h, hx => by
   rw [zoneGo_cons]
   exact nmOk_zone (nmOk_era (hx x (by simp)).1 _ _ h (hx x (by simp)).2) (fun y hy => hx y (List.mem_cons_of_mem _ hy))
theorem zoneGo_len (rs : List Sx.Rl) : ∀ (es : List Sx.Er) (f : Int) (l : List Int) (s : Ms), (zoneGo rs f es l s).ch.length ≤ s.ch.length + es.length * 1001
 | [], _, _, s => by simp [zoneGo]
 | x :: r, f, l, s => by
   rw [zoneGo_cons]
   refine Nat.le_trans (zoneGo_len rs r _ _ _) ?_
   have h1 := eraGo_len x f (endZ l) (eraT rs x) s
   have h2 := eraT_len rs x
   rw [List.length_cons]
   omega
/- what Compile answers -/
def compS (rs : List Sx.Rl) (z : Sx.Zn) : Ms := zoneGo rs (-62135596800) z.eras (endsE z.eras) ⟨lc0, []⟩
def compE (s : Sx.Sr) (xs : List ZV) (nm : Tx.Bs) : Int := if zoneF s xs nm ≠ 0 then zoneF s xs nm else mkE (compS s.rules (zoneZ s xs nm))
def compT (s : Sx.Sr) (xs : List ZV) (nm : Tx.Bs) : Tb.Tbl := if compE s xs nm = 0 then ⟨(compS s.rules (zoneZ s xs nm)).f, (compS s.rules (zoneZ s xs nm)).ch⟩ else ⟨lc0, []⟩
theorem tm_fine {s : Sx.Sr} {x : Sx.Er} (ok : Sx.SrcOk s) (hx : Sx.EraOk x) : ErFine x ∧ ∀ t ∈ eraT s.rules x, TmFine t := by
 have f := hx.fmt
 unfold Sx.formatB at f
 simp at f
 have := hx.sh0; have := hx.sh1; have := hx.sv0; have := hx.sv1
 refine ⟨⟨by have := f.1.2; omega, by omega, by omega⟩, fun t ht => ?_⟩
 unfold eraT at ht
 rcases List.mem_cons.1 ht with rfl | ht
 ·exact ⟨by simp, by dsimp only; omega, by dsimp only; omega⟩
 ·split at ht
  ·cases ht
  ·obtain ⟨r, hr, e1, e2⟩ := Sx.times_memZ ht
   have hr0 := ok.rule r hr
   have ro := (Sx.rule_ok hr0).save
   refine ⟨?_, by rw [e2]; omega, by rw [e2]; omega⟩
   rw [e1]
   unfold Sx.ruleE at hr0
   split at hr0
   ·cases hr0
   ·rename_i g
    simp [Sx.lettersB] at g
    have := g.2.2
    omega
theorem own_puts {w : World} {B q : Nat} {v : Value} {l : List Tb.Cg} (h : OwnCh w B v l) (hq : q < B) (a b c d : Value) : OwnCh ((((w.setCell ⟨q, 0, none⟩ a).setCell ⟨q, 1, none⟩ b).setCell ⟨q, 2, none⟩ c).setCell ⟨q, 3, none⟩ d) B v l :=
 ownsRow_setCell_below (ownsRow_setCell_below (ownsRow_setCell_below (ownsRow_setCell_below h (a := ⟨q, 0, none⟩) hq a) (a := ⟨q, 1, none⟩) hq b) (a := ⟨q, 2, none⟩) hq c) (a := ⟨q, 3, none⟩) hq d
theorem rd_stay {α : Type} {z : Nat} {cells : α → List Value} {w w4 w' : World} {M : Nat} {v : Value} {xs : List α} (h : Rd z cells w v xs) (hM : w.heap.size = M) (hb : Below w.heap.size w w4) (hf : MkF (M + 1) M w4 w') : Rd z cells w' v xs := by
 obtain ⟨a, cap, h1, h2⟩ := h
 refine ⟨a, cap, h1, fun hn => ?_⟩
 obtain ⟨b, o, h3, h4, h5⟩ := h2 hn
 refine ⟨b, o, h3, Nat.lt_of_lt_of_le h4 (Nat.le_trans hb.size hf.size), fun i x hx k u hu => ?_⟩
 rw [World.cell?_of_block (w := w4) (hf.low b (by omega) (by omega)), hb.cell (p := ⟨b, _, none⟩) h4]
 exact h5 i x hx k u hu
theorem compile_any (s : Sx.Sr) (xs : List ZV) (ra za la : Option Addr) (rcap zcap lcap : Nat) (m : Int) (nm : Tx.Bs) (w : World) (h : SrcIn s xs ra za la rcap zcap lcap m w) :
  Calls Tryz.prog 30 #[.agg #[.slice ra s.rules.length rcap, .slice za xs.length zcap, .slice la s.links.length lcap], strV nm] w fun e w' => ∃ cv, e = .returned (.tuple #[tbV (compT s xs nm).first cv, .int .i64 (compE s xs nm)]) ∧ OwnCh w' w.heap.size cv (compT s xs nm).ch ∧ Below w.heap.size w w' := by
 obtain ⟨N, hN⟩ : ∃ N, w.heap.size = N := ⟨_, rfl⟩
 obtain ⟨V0, gV0, S0, hb0, sz0⟩ := named_new w #[.slice ra s.rules.length rcap, .slice za xs.length zcap, .slice la s.links.length lcap] 26
 obtain ⟨V, gV, T0, hb1, sz1⟩ := named_new V0 #[.int .i64 0, .int .i64 0, .string ⟨#[]⟩, .slice none 0 0] 76
 have SX : Hid (CellsAt V N [.slice ra s.rules.length rcap, .slice za xs.length zcap, .slice la s.links.length lcap]) := ca_below (hN ▸ S0) hb1
 have TX : Hid (CellsAt V (N + 1) [.int .i64 0, .int .i64 0, .string ⟨#[]⟩, .slice none 0 0]) := by have q := T0; rw [sz0, hN] at q; exact q
 have eN1 : V0.heap.size = N + 1 := by omega
 have B : Hid (Below N w V) := by show Below _ _ _; rw [← hN]; exact hb0.trans (hb1.mono (by omega))
 have G := hid (srcIn_below (srcIn_below h hb0) hb1)
 have gV' : (w.alloc (.cells #[.slice ra s.rules.length rcap, .slice za xs.length zcap, .slice la s.links.length lcap] 26)).alloc (.cells #[.int .i64 0, .int .i64 0, .string ⟨#[]⟩, .slice none 0 0] 76) = V := by rw [gV0]; exact gV
 clear h S0 T0 hb0 hb1 sz0 sz1 gV0 gV
 obtain ⟨F, hF⟩ : ∃ F, zoneF s xs nm = F := ⟨_, rfl⟩
 obtain ⟨z, hz⟩ : ∃ z, zoneZ s xs nm = z := ⟨_, rfl⟩
 have CF := zFind_any s xs ra za la rcap zcap lcap m nm V G.out V (Below.refl _ _)
 have HF := hid hF
 have HZ := hid hz
 rw [hF, hz] at CF
 have HC := hid CF
 clear CF
 obtain ⟨s0, _⟩ := ca_at SX.out 0 rfl
 obtain ⟨s1, _⟩ := ca_at SX.out 1 rfl
 obtain ⟨s2, _⟩ := ca_at SX.out 2 rfl
 have sx := SX.out.1
 go_enter Tryz.func30, Tryz.ntmps30
 simp only [hN]
 go_wp2_with fail
 refine HC.out.mono ?_
 rintro e w1 ⟨v, rfl, hO, hb⟩
 clear HC s0 s1 s2 sx
 have hle : N ≤ V.heap.size := Nat.le_of_lt SX.out.1
 replace B := hid (below_on B.out hle hb)
 replace SX := hid (ca_below SX.out hb)
 replace TX := hid (ca_below TX.out hb)
 replace G := hid (srcIn_below G.out hb)
 have EO := hid (rdEras_own hO)
 obtain ⟨ea, ec, rfl⟩ := owns_shape0 hO
 have hle1 : N ≤ w1.heap.size := Nat.le_of_lt SX.out.1
 obtain ⟨w2, gy, Z0, hb2, sz⟩ := named_new w1 #[.string ⟨z.name.toArray⟩, .slice ea z.eras.length ec] 44
 obtain ⟨bZ, hbZ⟩ : ∃ b, w1.heap.size = b := ⟨_, rfl⟩
 rw [hbZ] at Z0
 have Z : Hid (CellsAt w2 bZ [.string ⟨z.name.toArray⟩, .slice ea z.eras.length ec]) := Z0
 replace B := hid (below_on B.out hle1 hb2)
 replace SX := hid (ca_below SX.out hb2)
 replace TX := hid (ca_below TX.out hb2)
 replace G := hid (srcIn_below G.out hb2)
 replace EO := hid (rd_below EO.out hb2)
 clear hO hb hle hle1 hb2 Z0 sz
 obtain ⟨t0, k0⟩ := ca_at TX.out 0 rfl
 obtain ⟨t1, k1⟩ := ca_at TX.out 1 rfl
 obtain ⟨t2, k2⟩ := ca_at TX.out 2 rfl
 obtain ⟨t3, k3⟩ := ca_at TX.out 3 rfl
 have st := TX.out.1
 by_cases hq : F = 0
 case neg =>
  have hq2 : (F == 0) = false := by simp [hq]
  have E1 : Hid (compE s xs nm = F) := by show _ = _; unfold compE; rw [HF.out, if_pos hq]
  have E2 : Hid (compT s xs nm = ⟨lc0, []⟩) := by show _ = _; unfold compT; rw [E1.out, if_neg hq]
  have h1 := hid (show N ≤ N + 1 by omega)
  have h2 := hid (below_put (below_put (below_put (below_put B.out h1.out 0 (.int .i64 0)) h1.out 1 (.int .i64 0)) h1.out 2 (.string ⟨#[]⟩)) h1.out 3 (.slice none 0 0))
  clear hF hz
  go_wp2
  refine bodyPost_ret (v := .tuple #[tbV lc0 (.slice none 0 0), .int .i64 F]) (by simp [results, Tryz.results30, go_sem, lc0, *]) rfl ⟨.slice none 0 0, by rw [E1.out, E2.out], by rw [E2.out]; exact ownCh_nil _ _, h2.out⟩
 subst hq
 obtain ⟨ok, zin, h8, hok⟩ := zoneZ_ok G.out.zv HF.out
 rw [HZ.out] at zin h8 hok
 have FINE := hid (fun x hx => tm_fine ok (hok x hx))
 have H8 := hid h8
 have CE0 := zEnds_any s xs ra za la rcap zcap lcap m nm w2 G.out
 rw [HF.out, HZ.out, if_pos rfl] at CE0
 have HC := hid CE0
 obtain ⟨L, hL⟩ : ∃ L, endsE z.eras = L := ⟨_, rfl⟩
 rw [hL] at HC
 have HL := hid hL
 clear CE0 zin h8 hok ok hF hz t0 k0 t1 k1 t2 k2 t3 k3 st hL
 obtain ⟨s0, _⟩ := ca_at SX.out 0 rfl
 obtain ⟨s1, _⟩ := ca_at SX.out 1 rfl
 obtain ⟨s2, _⟩ := ca_at SX.out 2 rfl
 have sx := SX.out.1
 go_wp2_with fail
 refine HC.out.mono ?_
 rintro e w3 ⟨v2, rfl, hO, hb⟩
 clear HC s0 s1 s2 sx
 have hle : N ≤ w2.heap.size := Nat.le_of_lt SX.out.1
 replace B := hid (below_on B.out hle hb)
 replace SX := hid (ca_below SX.out hb)
 replace TX := hid (ca_below TX.out hb)
 replace G := hid (srcIn_below G.out hb)
 replace EO := hid (rd_below EO.out hb)
 replace Z := hid (ca_below Z.out hb)
 have RE := hid (ownEnds_rd hO)
 obtain ⟨la2, lc2, rfl⟩ := owns_shape0 hO
 have hN3 : N + 1 < w3.heap.size := TX.out.1
 clear hO hb hle gy hbZ
 obtain ⟨M, hM⟩ : ∃ M, w3.heap.size = M := ⟨_, rfl⟩
 obtain ⟨w4, gm, M0, hb4, sz4⟩ := named_new w3 #[.int .i64 0, .int .i64 0, .string ⟨#[]⟩, .slice none 0 0, .slice ra s.rules.length rcap] 127
 have TM : IsT w4 M 127 := by rw [← gm, ← hM]; exact isT_new w3 _ _
 have MK : Mk (M + 1) M ⟨lc0, []⟩ (.slice none 0 0) (.slice ra s.rules.length rcap) w4 := ⟨hM ▸ M0, TM, ownCh_nil _ _, by omega, by omega⟩
 have CZ := hid (mkZone_any s.rules z L m MK (by simp) (fun w' hf => ⟨rd_stay G.out.rules hM hb4 hf, rd_stay EO.out hM hb4 hf, rd_stay RE.out hM hb4 hf⟩) G.out.size.rules ((hb4.cell (p := ⟨0, 0, none⟩) G.out.pos).trans G.out.max) (by omega) H8.out FINE.out)
 have HMK := hid MK
 have B4 : Hid (Below N w w4) := below_on B.out (by omega) hb4
 have T4 := hid (ca_below TX.out hb4)
 have Z4 := hid (ca_below Z.out hb4)
 obtain ⟨s0, _⟩ := ca_at SX.out 0 rfl
 obtain ⟨s1, _⟩ := ca_at SX.out 1 rfl
 obtain ⟨s2, _⟩ := ca_at SX.out 2 rfl
 have sx := SX.out.1
 obtain ⟨z0, _⟩ := ca_at Z4.out 0 rfl
 obtain ⟨z1, _⟩ := ca_at Z4.out 1 rfl
 have sz := Z4.out.1
 obtain ⟨R, hR⟩ : ∃ R, zoneGo s.rules (-62135596800) z.eras L ⟨lc0, []⟩ = R := ⟨_, rfl⟩
 rw [hR] at CZ
 have HR : Hid (compS s.rules z = R) := by show _ = _; unfold compS; rw [HL.out]; exact hR
 have NM : Hid (NmOk R) := by show NmOk _; rw [← hR]; exact nmOk_zone ⟨by decide, by simp⟩ FINE.out
 have RL : R.ch.length ≤ 10000 := by
  rw [← hR]
  have := zoneGo_len s.rules z.eras (-62135596800) L ⟨lc0, []⟩
  have := H8.out
  simp at *
  omega
 clear M0 TM MK hb4 hR B TX Z G
 go_wp2_with fail
 refine CZ.out.mono ?_
 rintro e w5 ⟨cv, rfl, M5, F5⟩
 have MM := hid M5
 have B5 : Hid (Below N w w5) := low_below B4.out (by omega) (by omega) F5
 have T5 : Hid (CellsAt w5 (N + 1) [.int .i64 0, .int .i64 0, .string ⟨#[]⟩, .slice none 0 0]) := ca_block T4.out (Nat.lt_of_lt_of_le T4.out.1 F5.size) (F5.low _ (by omega) (by omega))
 have CC := hid (mkCheck_any M5 RL (by have := NM.out.f; unfold maxLen; omega) (fun c hc => by have := NM.out.ch c hc; unfold maxLen; omega))
 clear CZ HMK B4 T4 Z4 z0 z1 sz s0 s1 s2 sx M5 F5 SX
 go_wp2_with fail
 refine CC.out.mono ?_
 rintro e w6 ⟨rfl, hb⟩
 replace MM := hid (mk_below MM.out hb)
 replace T5 := hid (ca_below T5.out hb)
 have hle : N ≤ w5.heap.size := by have := MM.out.mB; have := B5.out.size; omega
 replace B5 := hid (below_on B5.out hle hb)
 clear hb hle CC
 obtain ⟨E, hE⟩ : ∃ E, mkE R = E := ⟨_, rfl⟩
 rw [hE]
 have E1 : Hid (compE s xs nm = E) := by show _ = _; unfold compE; rw [HF.out, if_neg (by simp), HZ.out, HR.out, hE]
 have E2 : Hid (compT s xs nm = if E = 0 then ⟨R.f, R.ch⟩ else ⟨lc0, []⟩) := by show _ = _; unfold compT; rw [E1.out, HZ.out, HR.out]
 obtain ⟨t0, k0⟩ := ca_at T5.out 0 rfl
 obtain ⟨t1, k1⟩ := ca_at T5.out 1 rfl
 obtain ⟨t2, k2⟩ := ca_at T5.out 2 rfl
 obtain ⟨t3, k3⟩ := ca_at T5.out 3 rfl
 have st := T5.out.1
 have h1 := hid (show N ≤ N + 1 by omega)
 clear hE
 by_cases hq : E = 0
 case neg =>
  have hq2 : (E == 0) = false := by simp [hq]
  have E3 : Hid (compT s xs nm = ⟨lc0, []⟩) := by show _ = _; rw [E2.out, if_neg hq]
  have h2 := hid (below_put (below_put (below_put (below_put B5.out h1.out 0 (.int .i64 0)) h1.out 1 (.int .i64 0)) h1.out 2 (.string ⟨#[]⟩)) h1.out 3 (.slice none 0 0))
  go_wp2
  refine bodyPost_ret (v := .tuple #[tbV lc0 (.slice none 0 0), .int .i64 E]) (by simp [results, Tryz.results30, go_sem, lc0, *]) rfl ⟨.slice none 0 0, by rw [E1.out, E3.out], by rw [E3.out]; exact ownCh_nil _ _, h2.out⟩
 subst hq
 obtain ⟨f, ch⟩ := R
 dsimp only at RL
 obtain ⟨ca, cc, rfl⟩ := owns_shape0 MM.out.own
 obtain ⟨m0, _⟩ := ca_at MM.out.box 0 rfl
 obtain ⟨m1, _⟩ := ca_at MM.out.box 1 rfl
 obtain ⟨m2, _⟩ := ca_at MM.out.box 2 rfl
 obtain ⟨m3, _⟩ := ca_at MM.out.box 3 rfl
 dsimp only at m0 m1 m2 m3
 have sm := MM.out.box.1
 have hne : ¬ M = N + 1 := by omega
 have E3 : Hid (compT s xs nm = ⟨f, ch⟩) := by show _ = _; rw [E2.out, if_pos rfl]
 have h2 := hid (below_put (below_put (below_put (below_put B5.out h1.out 0 (.int .i64 f.shift)) h1.out 1 (.int .i64 f.save)) h1.out 2 (.string ⟨f.name.toArray⟩)) h1.out 3 (.slice ca ch.length cc))
 have OO := hid (own_puts MM.out.own (show N + 1 < M + 1 by omega) (.int .i64 f.shift) (.int .i64 f.save) (.string ⟨f.name.toArray⟩) (.slice ca ch.length cc))
 clear E2 MM
 go_wp2
 refine bodyPost_ret (v := .tuple #[tbV f (.slice ca ch.length cc), .int .i64 0]) (by simp [results, Tryz.results30, go_sem, *]) rfl ⟨.slice ca ch.length cc, by rw [E1.out, E3.out], by rw [E3.out]; exact owns_base OO.out (by omega), h2.out⟩
end Go.Proofs.YtkhlkohlccndgaaGreat
namespace Go.Proofs.YtkhlkohlccndgaaGreat
open Go.RowKit Go.Shelf
theorem capZs_own {w : World} {B : Nat} {v : Value} {zs : List Sx.Zn} (h : OwnZones w B v zs) : CapZs w v zs := by
 obtain ⟨ps, hz⟩ := h
 intro i x b o cap hx hv ev hev
 subst hv
 have hrd : Rd 2 zoneCells w (.slice (some ⟨b, o, none⟩) zs.length cap) ps := own_rd (fun _ => rfl) hz.row
 obtain ⟨p, hp⟩ : ∃ p, ps[i]? = some p := ⟨_, List.getElem?_eq_getElem (by rw [hz.len]; exact (List.getElem?_eq_some_iff.1 hx).1)⟩
 obtain ⟨a', cap', e1, h2⟩ := hrd
 obtain ⟨b', o', e2, _, hc⟩ := h2 (by rintro rfl; simp at hp)
 simp only [Value.slice.injEq] at e1
 obtain ⟨rfl, _, _⟩ := e1
 simp only [Option.some.injEq, Addr.mk.injEq] at e2
 obtain ⟨rfl, rfl, _⟩ := e2
 have q := hc i p hp 1 p.2 rfl
 rw [hev] at q
 simp only [Option.some.injEq] at q
 subst q
 have ho := (hz.eras i p x hp hx).2
 obtain ⟨a, c, e⟩ := owns_shape0 ho
 rw [e] at ho
 exact ⟨a, c, e, ownEras_cap ho⟩
theorem srcIn_own {w : World} {B : Nat} {r z l : Value} {s : Sx.Sr} {m : Int} (h : OwnSrc w B r z l s) (hs : SizedS s) (hm : w.cell? ⟨0, 0, none⟩ = some (.int .i64 m)) (h0 : 0 < w.heap.size) :
  ∃ ra za la rcap zcap lcap xs, r = .slice ra s.rules.length rcap ∧ z = .slice za xs.length zcap ∧ l = .slice la s.links.length lcap ∧ xs.map ZV.z = s.zones ∧ SrcIn s xs ra za la rcap zcap lcap m w := by
 obtain ⟨h1, h2, h3⟩ := ownSrc_rd h
 obtain ⟨ra, rcap, rfl⟩ := rd_shape h1
 obtain ⟨za, zcap, rfl⟩ := rdZones_shape h2
 obtain ⟨la, lcap, rfl⟩ := rd_shape h3
 have hc := capZs_own h.zones
 obtain ⟨xs, hx⟩ := rdZv_of h2 hc
 have hl := rdZv_len hx
 rw [← hl] at h2 hc hx ⊢
 exact ⟨ra, za, la, rcap, zcap, lcap, xs, rfl, rfl, rfl, hx.fst, h1, h2, hc, hx, h3, hs, hm, h0⟩
theorem src0_one {xs : List ZV} (h : xs.map ZV.z = src0.zones) : ∃ a c, xs = [⟨⟨townB, [⟨600, [], 0, [76, 77, 84], false, 1880, 1, 1, 0, 2⟩, ⟨3600, euB, 0, [67, 69, 37, 115, 84], true, 0, 0, 0, 0, 0⟩]⟩, a, c⟩] := by
 match xs, h with
 | [⟨z, a, c⟩], h =>
   simp [src0] at h
   exact ⟨a, c, by rw [h]⟩
 | [], h => simp [src0] at h
 | _ :: _ :: _, h => simp [src0] at h
/- what the fixed text's zones answer -/
def oldB : Tx.Bs := [79, 108, 100]
def newB : Tx.Bs := [78, 101, 119]
theorem src0_sizedS : SizedS src0 := by
 refine ⟨src0_sized, ?_, ?_⟩
 ·intro z hz
  simp [src0] at hz
  subst hz
  refine ⟨by simp [townB, maxLen], ?_⟩
  intro x hx
  simp at hx
  rcases hx with rfl | rfl <;> simp [euB, maxLen]
 ·intro l hl
  simp [src0] at hl
  subst hl
  simp [townB, maxLen]
def town0 : Sx.Zn := ⟨townB, [⟨600, [], 0, [76, 77, 84], false, 1880, 1, 1, 0, 2⟩, ⟨3600, euB, 0, [67, 69, 37, 115, 84], true, 0, 0, 0, 0, 0⟩]⟩
theorem err0 (a : Option Addr) (c : Nat) : zoneErr src0 [⟨town0, a, c⟩] = 0 := by kernel_rfl
theorem oldF (a : Option Addr) (c : Nat) : zoneF src0 [⟨town0, a, c⟩] oldB = 0 := by kernel_rfl
theorem oldZ (a : Option Addr) (c : Nat) : zoneZ src0 [⟨town0, a, c⟩] oldB = town0 := by kernel_rfl
theorem townF (a : Option Addr) (c : Nat) : zoneF src0 [⟨town0, a, c⟩] townB = 0 := by kernel_rfl
theorem townZ (a : Option Addr) (c : Nat) : zoneZ src0 [⟨town0, a, c⟩] townB = town0 := by kernel_rfl
theorem newF (a : Option Addr) (c : Nat) : zoneF src0 [⟨town0, a, c⟩] newB = 5 := by kernel_rfl
theorem ends0 : endsE town0.eras = [-2840141400] := by kernel_rfl
theorem at0 : atL 0 1585443600 src0.rules town0 = ⟨7200, 3600, [67, 69, 83, 84]⟩ := by kernel_rfl
theorem at0b : atL 0 1585443599 src0.rules town0 = ⟨3600, 0, [67, 69, 84]⟩ := by kernel_rfl
theorem atE0 : atE 0 1585443600 = 0 ∧ atE 0 1585443599 = 0 ∧ atE 5 0 = 5 := ⟨by kernel_rfl, by kernel_rfl, by kernel_rfl⟩
theorem src0_xs {xs : List ZV} (h : xs.map ZV.z = src0.zones) : ∃ a c, xs = [⟨town0, a, c⟩] := src0_one h
/- what zone's functions answer of the parsed text -/
structure Made (w : World) (r z l : Value) : Prop where
 src : ∃ B, OwnSrc w B r z l src0
 max : ∃ m, w.cell? ⟨0, 0, none⟩ = some (.int .i64 m)
 pos : 0 < w.heap.size
theorem made_in {w : World} {r z l : Value} (h : Made w r z l) : ∃ ra za la rcap zcap lcap a c m, r = .slice ra src0.rules.length rcap ∧ z = .slice za [(⟨town0, a, c⟩ : ZV)].length zcap ∧ l = .slice la src0.links.length lcap ∧ SrcIn src0 [⟨town0, a, c⟩] ra za la rcap zcap lcap m w := by
 obtain ⟨⟨B, hB⟩, ⟨m, hm⟩, h0⟩ := h
 obtain ⟨ra, za, la, rcap, zcap, lcap, xs, rfl, rfl, rfl, hx, hs⟩ := srcIn_own hB src0_sizedS hm h0
 obtain ⟨a, c, rfl⟩ := src0_xs hx
 exact ⟨ra, za, la, rcap, zcap, lcap, a, c, m, rfl, rfl, rfl, hs⟩
theorem zFind0 {w : World} {r z l : Value} (h : Made w r z l) : Calls Tryz.prog 16 #[.agg #[r, z, l], strV oldB] w fun e w' => ∃ v, e = .returned (.tuple #[.agg #[strV townB, v], .int .i64 0]) ∧ OwnEras w' w.heap.size v town0.eras ∧ Below w.heap.size w w' := by
 obtain ⟨ra, za, la, rcap, zcap, lcap, a, c, m, rfl, rfl, rfl, hs⟩ := made_in h
 have q := zFind_any src0 [⟨town0, a, c⟩] ra za la rcap zcap lcap m oldB w hs w (Below.refl _ _)
 rw [oldF, oldZ] at q
 exact q
theorem zEnds0 {w : World} {r z l : Value} (h : Made w r z l) : Calls Tryz.prog 17 #[.agg #[r, z, l], strV townB] w fun e w' => ∃ v, e = .returned (.tuple #[v, .int .i64 0]) ∧ OwnEnds w' w.heap.size v [-2840141400] ∧ Below w.heap.size w w' := by
 obtain ⟨ra, za, la, rcap, zcap, lcap, a, c, m, rfl, rfl, rfl, hs⟩ := made_in h
 have q := zEnds_any src0 [⟨town0, a, c⟩] ra za la rcap zcap lcap m townB w hs
 rw [townF, townZ, ends0] at q
 exact q
theorem zAt0 {w : World} {r z l : Value} (h : Made w r z l) : Calls Tryz.prog 15 #[.agg #[r, z, l], strV oldB, .int .i64 1585443600] w fun e w' => e = .returned (.tuple #[lcV ⟨7200, 3600, [67, 69, 83, 84]⟩, .int .i64 0]) ∧ Below w.heap.size w w' := by
 obtain ⟨ra, za, la, rcap, zcap, lcap, a, c, m, rfl, rfl, rfl, hs⟩ := made_in h
 have q := zAt_any src0 [⟨town0, a, c⟩] ra za la rcap zcap lcap m 1585443600 oldB w hs
 rw [oldF, oldZ, at0, atE0.1] at q
 exact q
theorem zAt0b {w : World} {r z l : Value} (h : Made w r z l) : Calls Tryz.prog 15 #[.agg #[r, z, l], strV oldB, .int .i64 1585443599] w fun e w' => e = .returned (.tuple #[lcV ⟨3600, 0, [67, 69, 84]⟩, .int .i64 0]) ∧ Below w.heap.size w w' := by
 obtain ⟨ra, za, la, rcap, zcap, lcap, a, c, m, rfl, rfl, rfl, hs⟩ := made_in h
 have q := zAt_any src0 [⟨town0, a, c⟩] ra za la rcap zcap lcap m 1585443599 oldB w hs
 rw [oldF, oldZ, at0b, atE0.2.1] at q
 exact q
theorem zAtN {w : World} {r z l : Value} (h : Made w r z l) : Calls Tryz.prog 15 #[.agg #[r, z, l], strV newB, .int .i64 0] w fun e w' => e = .returned (.tuple #[lcV lc0, .int .i64 5]) ∧ Below w.heap.size w w' := by
 obtain ⟨ra, za, la, rcap, zcap, lcap, a, c, m, rfl, rfl, rfl, hs⟩ := made_in h
 have q := zAt_any src0 [⟨town0, a, c⟩] ra za la rcap zcap lcap m 0 newB w hs
 rw [newF, atE0.2.2] at q
 exact q
theorem zCheck0 {w : World} {r z l : Value} (h : Made w r z l) : Calls Tryz.prog 14 #[.agg #[r, z, l]] w fun e w' => e = .returned (.int .i64 0) ∧ Below w.heap.size w w' := by
 obtain ⟨ra, za, la, rcap, zcap, lcap, a, c, m, rfl, rfl, rfl, hs⟩ := made_in h
 have q := zCheck_any src0 [⟨town0, a, c⟩] ra za la rcap zcap lcap m w hs
 rw [err0] at q
 exact q
end Go.Proofs.YtkhlkohlccndgaaGreat
