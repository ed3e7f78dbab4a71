/- The text that every law begins with, parsed by the document: what parsed() answers. · The times of the text that every law begins with: plain, reckoned by the kernel. · What must be of rules in any case, is. · Contracts of slices.Clone at eras, and of zone.Find. · Contracts of era.nameOf and era.Local. · The contract of zone.savedAt. · Contracts of zone.At's closure, and of zone.At. · The contract of zone.Ends, out of what Find answers. · The contract of the document's IsPlain, of any text. · Contracts of the document's LeastAt, MostAt, checkLocal. · The program's signs, and tables in memory, together. · Contracts of the program's names of times, and of table's checkLocal and checkChange. · The contract of zone.At, out of what Find answers. · Contracts of zone.Find, Ends, At at every source. · A source that a call has made, as zone's functions find it; what they answer of the fixed text. · zoneBegun answers true. · By a link it is as by its zone. Plain. · What another zone is, and other rules, changes nothing here. Plain. · From one time to another it is the same, where no era ends and no rule turns. Plain. · The contracts of the document's EndOf and EndsOf. · The contract of the document's CheckZones. · The document's sameUntil and SameZone at what is the same. · A list of rules among the arguments: what it reads as. · A source among the arguments: what it reads as. · The document's SameInts, at lists that are the same. -/
import Derived.Test.YtkhlkohlccndgaaGreatQz
import Derived.Test.YtkhlkohlccndgaaGreatQal
import Derived.Test.YtkhlkohlccndgaaGreatQai
import Derived.Test.YtkhlkohlccndgaaGreatQah
import Derived.Test.YtkhlkohlccndgaaGreatQaf
import Derived.Test.YtkhlkohlccndgaaGreatQae
import Derived.Lib.SliceRun
import Derived.Test.YtkhlkohlccndgaaGreatQaa
import Derived.Test.YtkhlkohlccndgaaGreatQab
import Derived.Test.YtkhlkohlccndgaaGreatQag
import Derived.Test.YtkhlkohlccndgaaGreatQad
import Derived.ProofKit
import Derived.OpenShut
import Derived.Lib.SmallJoins
import Derived.Deep.Slices
import Derived.Deep.Strs
import Derived.Carry
set_option linter.unusedVariables false
set_option linter.unusedSimpArgs false
set_option maxRecDepth 100000
set_option maxHeartbeats 16000000
namespace Go.Proofs.YtkhlkohlccndgaaGreat
open Go.RowKit

def textB : Tx.Bs := [82, 117, 108, 101, 32, 101, 117, 32, 49, 57, 56, 49, 32, 109, 97, 120, 32, 77, 97, 114, 32, 108, 97, 115, 116, 83, 117, 110, 32, 49, 58, 48, 48, 117, 32, 49, 58, 48, 48, 32, 83, 10, 82, 117, 108, 101, 32, 101, 117, 32, 49, 57, 57, 54, 32, 109, 97, 120, 32, 79, 99, 116, 32, 108, 97, 115, 116, 83, 117, 110, 32, 49, 58, 48, 48, 117, 32, 48, 32, 45, 10, 90, 111, 110, 101, 32, 72, 101, 114, 101, 47, 84, 111, 119, 110, 32, 48, 58, 49, 48, 32, 45, 32, 76, 77, 84, 32, 49, 56, 56, 48, 32, 74, 97, 110, 32, 49, 32, 48, 10, 32, 32, 49, 58, 48, 48, 32, 101, 117, 32, 67, 69, 37, 115, 84, 10, 76, 105, 110, 107, 32, 72, 101, 114, 101, 47, 84, 111, 119, 110, 32, 79, 108, 100, 10]
def euB : Tx.Bs := [101, 117]
def townB : Tx.Bs := [72, 101, 114, 101, 47, 84, 111, 119, 110]
def src0 : Sx.Sr :=
 ⟨[⟨euB, 1981, 2100, 3, 2, 0, 0, 3600, 3, 3600, [83]⟩, ⟨euB, 1996, 2100, 10, 2, 0, 0, 3600, 3, 0, []⟩],
  [⟨townB, [⟨600, [], 0, [76, 77, 84], false, 1880, 1, 1, 0, 2⟩, ⟨3600, euB, 0, [67, 69, 37, 115, 84], true, 0, 0, 0, 0, 0⟩]⟩],
  [⟨townB, [79, 108, 100]⟩]⟩
theorem parse_text : Sx.parse textB = ⟨src0, 0, 0⟩ := by kernel_rfl
theorem parsed_any (w : World) :
  Calls Tryz.prog 41 #[] w fun e w' => ∃ r z l, e = .returned (.agg #[r, z, l]) ∧ OwnSrc w' w.heap.size r z l src0 ∧ Below w.heap.size w w' := by
 have RX0 := hid (ca_new w [nilS, nilS, nilS] 26)
 have BW0 := hid ((Below.refl w.heap.size w).alloc (Nat.le_refl _) (.cells [nilS, nilS, nilS].toArray 26))
 go_enter Tryz.func41, Tryz.ntmps41
 go_wp2_with fail
 refine (parseOf_any _ _).mono ?_
 intro e w1 h
 have h2 : ParseEnd textB (w.alloc (.cells #[.slice none 0 0, .slice none 0 0, .slice none 0 0] 26)) e w1 := h
 clear h
 obtain ⟨⟨r, z, l, rfl, hown⟩, hb⟩ := h2
 rw [parse_text] at hown ⊢
 have hown2 : OwnSrc w1 (w.heap.size + 1) r z l src0 := by simpa using hown
 have H := hid hown2
 have B1 : Hid (Below w.heap.size w w1) := BW0.out.trans (hb.mono BW0.out.size)
 have R1 := hid (ca_below RX0.out hb)
 obtain ⟨ra, rcap, rfl⟩ := owns_shape0 hown2.rules
 obtain ⟨za, zcap, rfl⟩ := ownSrc_zs hown2
 obtain ⟨la, lcap, rfl⟩ := owns_shape0 hown2.links
 clear hown hown2 hb RX0 BW0
 obtain ⟨r0, rf0⟩ := ca_at R1.out 0 rfl
 obtain ⟨r1, rf1⟩ := ca_at R1.out 1 rfl
 obtain ⟨r2, rf2⟩ := ca_at R1.out 2 rfl
 have hR := R1.out.1
 go_wp2
 refine bodyPost_ret (v := .agg #[.slice ra src0.rules.length rcap, .slice za src0.zones.length zcap, .slice la src0.links.length lcap]) (by simp [results, Tryz.results41, go_sem, *]) rfl ⟨_, _, _, rfl, ?_, ?_⟩
 ·exact own_base (ownSrc_below (ownSrc_far (ownSrc_far (ownSrc_far H.out (by omega)) (by omega)) (by omega)) ((Below.refl _ _).alloc (Nat.le_refl _) _)) (by omega)
 ·exact (below_set (below_set (below_set B1.out (Nat.le_refl _) _) (Nat.le_refl _) _) (Nat.le_refl _) _).alloc (by have := B1.out.size; simpa using this) _
end Go.Proofs.YtkhlkohlccndgaaGreat
namespace Go.Proofs.YtkhlkohlccndgaaGreat

theorem src0_sized : ∀ r ∈ src0.rules, r.name.length ≤ maxLen ∧ r.letter.length ≤ maxLen := by
 intro r hr
 simp [src0, euB] at hr
 rcases hr with rfl | rfl <;> simp [maxLen]
end Go.Proofs.YtkhlkohlccndgaaGreat
namespace Go.Proofs.YtkhlkohlccndgaaGreat
open Go.RowKit

theorem ownTimes_rd {w : World} {B : Nat} {v : Value} {l : List Sx.Tm} (h : OwnTimes w B v l) : RdTimes w v l := own_rd (fun _ => rfl) h
end Go.Proofs.YtkhlkohlccndgaaGreat
namespace Go.Proofs.YtkhlkohlccndgaaGreat
open Go.RowKit Go.Shelf
attribute [local go_sem] Oper.semAt_some

theorem flat_lenG {α : Type} {z : Nat} {cells : α → List Value} (hz : ∀ x, (cells x).length = z) (l : List α) : (l.flatMap cells).length = l.length * z := by
 induction l with
 | nil => simp
 | cons x r ih => rw [List.flatMap_cons, List.length_append, ih, hz, List.length_cons, Nat.succ_mul]; omega
theorem rd_flatG {α : Type} {z : Nat} {cells : α → List Value} (hz : ∀ x, (cells x).length = z) (h0 : 0 < z) {w : World} {a : Option Addr} {n cap : Nat} {l : List α} (h : Rd z cells w (.slice a n cap) l) : ∀ ad, a = some ad → ∀ j u, (l.flatMap cells)[j]? = some u → w.cell? (ad.add j) = some u := by
 intro ad e j u hj
 subst e
 by_cases hn : l = []
 ·subst hn; simp at hj
 obtain ⟨a', cap', e1, h2⟩ := h
 obtain ⟨b, o, e2, _, hc⟩ := h2 hn
 simp only [Value.slice.injEq] at e1
 obtain ⟨rfl, _, _⟩ := e1
 simp only [Option.some.injEq] at e2
 subst e2
 have hlen := flat_lenG hz l
 have hj' := (List.getElem?_eq_some_iff.1 hj).1
 rw [hlen] at hj'
 have hq : j / z < l.length := (Nat.div_lt_iff_lt_mul h0).2 hj'
 obtain ⟨x, hx⟩ : ∃ x, l[j / z]? = some x := ⟨_, List.getElem?_eq_getElem hq⟩
 have hk : ∃ y, (cells x)[j % z]? = some y := ⟨_, List.getElem?_eq_getElem (by rw [hz]; exact Nat.mod_lt _ h0)⟩
 obtain ⟨y, hy⟩ := hk
 have hdm : j / z * z + j % z = j := Nat.div_add_mod' j z
 have := flat_get cells hz l (j / z) x hx (j % z) y hy
 rw [hdm, hj] at this
 simp at this
 subst this
 have := hc (j / z) x hx (j % z) u hy
 rw [show o + j / z * z + j % z = o + j by rw [Nat.add_assoc, hdm]] at this
 unfold Addr.add
 split
 ·rename_i q
  have q' : j = 0 := by simpa using q
  rw [q'] at this
  exact this
 ·exact this
theorem rd_none0 {α : Type} {z : Nat} {cells : α → List Value} {w : World} {n cap : Nat} {l : List α} (h : Rd z cells w (.slice none n cap) l) : l = [] := by
 obtain ⟨a', cap', e1, h2⟩ := h
 by_cases hn : l = []
 ·exact hn
 ·obtain ⟨b, o, e2, _⟩ := h2 hn
  simp only [Value.slice.injEq] at e1
  obtain ⟨rfl, _, _⟩ := e1
  cases e2
theorem clone_any (es : List Sx.Er) (ra : Option Addr) (rcap : Nat) (w : World) (h : RdEras w (.slice ra es.length rcap) es) (he : es.length ≤ 10000) :
  Calls Tryz.prog 55 #[.slice ra es.length rcap] w fun e w' => ∃ v, e = .returned v ∧ OwnEras w' w.heap.size v es ∧ Below w.heap.size w w' := by
 cases ra with
 | none =>
   obtain rfl := rd_none0 h
   clear h
   have hcmp := fun w => Lib.run_eql_slice_nil (P := Tryz.prog) w 42 67 none 0 rcap 0 0 Tryz.underlying42
   simp only [Option.isNone_none] at hcmp
   go_enter Tryz.func55, Tryz.ntmps55
   go_wp2
   go_ret
   exact ⟨_, rfl, World.ownsRow_nil _ _ _ _, Below.refl _ _⟩
 | some ad =>
   obtain ⟨i0, hi, hz0, hz1, hz2⟩ := info_parts Tryz.infoEra
   have hc := rd_flatG eraCells_len (by omega) h
   have B0 := hid ((Below.refl w.heap.size w).alloc (Nat.le_refl _) (.cells #[] 67))
   have c2 : ∀ ad', some ad = some ad' → ∀ j u, (es.flatMap eraCells)[j]? = some u → (w.alloc (.cells #[] 67)).cell? (ad'.add j) = some u := by
    intro ad' e j u hj
    have hh := rd_flatG eraCells_len (by omega) (rd_below h B0.out)
    exact hh ad' e j u hj
   have w2 : (w.alloc (.cells #[] 67)).ownsRow w.heap.size 67 10 (.slice (some ⟨w.heap.size, 0, none⟩) 0 0) 0 [] := World.ownsRow_made w #[] 0 (Nat.le_refl _) (Nat.zero_le _) (by simp)
   have f2 : (es.flatMap eraCells).length = es.length * 10 := flat_lenG eraCells_len es
   have o2 : ∀ u ∈ es.flatMap eraCells, u.oneCell' = true := by
    intro u hu
    obtain ⟨c, _, hc⟩ := List.mem_flatMap.1 hu
    exact era_one c u hc
   clear hc h
   have hcmp := fun w => Lib.run_eql_slice_nil (P := Tryz.prog) w 42 67 (some ad) es.length rcap 0 0 Tryz.underlying42
   simp only [Option.isNone_some] at hcmp
   go_enter Tryz.func55, Tryz.ntmps55
   go_wp2_with (at_builtin; refine wpList_append_any rfl (.tmp 5) (.tmp 6) 42 rfl w.heap.size 67 i0 (.agg #[.int .i64 0, .string ⟨#[]⟩, .int .i64 0, .string ⟨#[]⟩, .bool false, .int .i64 0, .int .i64 0, .int .i64 0, .int .i64 0, .int .i64 0]) 10 96 Tryz.underlying42 hi hz0 hz1 hz2 rfl (by decide) (.slice (some ⟨w.heap.size, 0, none⟩) 0 0) 0 [] rfl w2 (some ad) es.length rcap (es.flatMap eraCells) rfl f2 c2 (fun q => by cases q) o2 (by unfold maxLen; omega) (by omega) (by simp) ?_; intro v3 w3 hown hgrow)
   have O3 : Hid (OwnEras w3 w.heap.size v3 es) := by
    show World.ownsRow _ _ _ _ _ _ _
    simpa using hown
   have B3 : Hid (Below w.heap.size w w3) := Below.grown B0.out hgrow (by simp) (fun k hk => (w2.lt k hk).1)
   clear hown hgrow c2 f2 o2 w2 B0
   go_wp2
   go_ret
   exact ⟨_, rfl, O3.out, B3.out⟩
theorem set2 {w : World} {b q o : Nat} {u x y : Value} (hne : ¬ b = q) (h : w.cell? ⟨b, 0, none⟩ = some x ∧ w.cell? ⟨b, 1, none⟩ = some y) : (w.setCell ⟨q, o, none⟩ u).cell? ⟨b, 0, none⟩ = some x ∧ (w.setCell ⟨q, o, none⟩ u).cell? ⟨b, 1, none⟩ = some y := by
 have e : ∀ k, (w.setCell ⟨q, o, none⟩ u).cell? ⟨b, k, none⟩ = w.cell? ⟨b, k, none⟩ := fun k => World.cell?_of_block (Below.heap_setCell _ _ _ _ hne)
 rw [e, e]; exact h
/- what Find answers -/
def findE (E : Int) (xs : List ZV) (ls : List Sx.Lk) (nm : Tx.Bs) : Int := if E ≠ 0 then E else if zvHas xs (nameTo ls nm) = true then 0 else 5
def findZ (E : Int) (xs : List ZV) (ls : List Sx.Lk) (nm : Tx.Bs) : Sx.Zn := if findE E xs ls nm = 0 then (zvAt xs (nameTo ls nm)).z else ⟨[], []⟩
theorem zvAt_mem {xs : List ZV} {nm : Tx.Bs} (h : zvHas xs nm = true) : zvAt xs nm ∈ xs := by
 unfold zvAt
 unfold zvHas at h
 rw [List.any_eq_true] at h
 obtain ⟨x, hx, hp⟩ := h
 cases hf : xs.find? (fun p => p.z.name == nm) with
 | none => rw [List.find?_eq_none] at hf; exact absurd hp (hf x hx)
 | some y => exact List.mem_of_find?_eq_some hf
theorem find_seq (E : Int) (nm : Tx.Bs) (zs : List Sx.Zn) (ls : List Sx.Lk) (xs : List ZV) (ra za la : Option Addr) (n1 rcap zcap lcap : Nat) (w : World) (h2 : RdZv w (.slice za xs.length zcap) zs xs) (h3 : RdLinks w (.slice la ls.length lcap) ls)
  (hE : E = 0 → xs.length ≤ 10000 ∧ ls.length ≤ 10000 ∧ ∀ p ∈ xs, p.z.eras.length ≤ 10000)
  (hC : ∀ W, Below w.heap.size w W → Calls Tryz.prog 14 #[.agg #[.slice ra n1 rcap, .slice za xs.length zcap, .slice la ls.length lcap]] W fun e w' => e = .returned (.int .i64 E) ∧ Below W.heap.size W w') :
  Calls Tryz.prog 16 #[.agg #[.slice ra n1 rcap, .slice za xs.length zcap, .slice la ls.length lcap], strV nm] w fun e w' =>
   ∃ v, e = .returned (.tuple #[.agg #[strV (findZ E xs ls nm).name, v], .int .i64 (findE E xs ls nm)]) ∧ OwnEras w' w.heap.size v (findZ E xs ls nm).eras ∧ Below w.heap.size w w' := by
 have HC := hid hC
 have H2 := hid h2
 have H3 := hid h3
 have HEE := hid hE
 obtain ⟨N, hN⟩ : ∃ N, w.heap.size = N := ⟨_, rfl⟩
 obtain ⟨V, hV⟩ : ∃ V, (w.alloc (.cells #[.slice ra n1 rcap, .slice za xs.length zcap, .slice la ls.length lcap] 26)).alloc (.cells #[.string ⟨#[]⟩, .slice none 0 0] 44) = V := ⟨_, rfl⟩
 have XS := ca_alloc (ca_new w [.slice ra n1 rcap, .slice za xs.length zcap, .slice la ls.length lcap] 26) (.cells #[.string ⟨#[]⟩, .slice none 0 0] 44)
 have XZ := ca_new (w.alloc (.cells #[.slice ra n1 rcap, .slice za xs.length zcap, .slice la ls.length lcap] 26)) [.string ⟨#[]⟩, .slice none 0 0] 44
 have BV : Hid (Below w.heap.size w V) := by show Below _ _ _; rw [← hV]; exact ((Below.refl _ w).alloc (Nat.le_refl _) _).alloc (by simp) _
 have e1 : (w.alloc (.cells [.slice ra n1 rcap, .slice za xs.length zcap, .slice la ls.length lcap].toArray 26)).alloc (.cells #[.string ⟨#[]⟩, .slice none 0 0] 44) = V := hV
 have e2 : (w.alloc (.cells #[.slice ra n1 rcap, .slice za xs.length zcap, .slice la ls.length lcap] 26)).alloc (.cells [.string ⟨#[]⟩, .slice none 0 0].toArray 44) = V := hV
 rw [e1, hN] at XS
 rw [e2] at XZ
 simp only [World.size_alloc, hN] at XZ
 have HXS := hid XS
 have HXZ := hid XZ
 have HNN := hid hN
 have CC := hid (hC V BV.out)
 obtain ⟨s0, _⟩ := ca_at XS 0 rfl
 obtain ⟨s1, _⟩ := ca_at XS 1 rfl
 obtain ⟨s2, _⟩ := ca_at XS 2 rfl
 have sx := XS.1
 clear XS XZ e1 e2 hC h2 h3 hE
 go_enter Tryz.func16, Tryz.ntmps16
 simp only [hN]
 go_wp2_with fail
 refine CC.out.mono ?_
 rintro e w1 ⟨rfl, hb⟩
 have X1 := hid (ca_below HXS.out hb)
 have Z1 := hid (ca_below HXZ.out hb)
 have B1 : Hid (Below w.heap.size w w1) := BV.out.trans (hb.mono BV.out.size)
 clear s0 s1 s2 sx hb CC
 obtain ⟨s0, _⟩ := ca_at X1.out 0 rfl
 obtain ⟨s1, _⟩ := ca_at X1.out 1 rfl
 obtain ⟨s2, _⟩ := ca_at X1.out 2 rfl
 obtain ⟨q0, k0⟩ := ca_at Z1.out 0 rfl
 obtain ⟨q1, k1⟩ := ca_at Z1.out 1 rfl
 have sx := X1.out.1
 have zx := Z1.out.1
 by_cases hq : E = 0
 case neg =>
  have hq2 : (E == 0) = false := by simp [hq]
  have F1 : findE E xs ls nm = E := by unfold findE; rw [if_pos hq]
  have F2 : findZ E xs ls nm = ⟨[], []⟩ := by unfold findZ; rw [F1, if_neg hq]
  have G1 := hid F1
  have G2 := hid F2
  clear F1 F2
  go_wp2
  have h1 : w.heap.size ≤ N + 1 := by rw [HNN.out]; omega
  refine bodyPost_ret (v := .tuple #[.agg #[.string ⟨#[]⟩, .slice none 0 0], .int .i64 E]) (by simp [results, Tryz.results16, go_sem, *]) rfl ⟨.slice none 0 0, by rw [G1.out, G2.out], by rw [G2.out]; exact World.ownsRow_nil _ _ _ _, ?_⟩
  have h2 := below_put (below_put B1.out h1 0 (.string ⟨#[]⟩)) h1 1 (.slice none 0 0)
  rw [HNN.out] at h2
  exact h2
 subst hq
 obtain ⟨hx, hl, hes⟩ := HEE.out rfl
 have CZ := hid (zoneOf_any nm zs ls xs ra za la n1 rcap zcap lcap w1 (rdZv_below H2.out B1.out) (rd_below H3.out B1.out) hx hl)
 have HES := hid hes
 clear HEE hx hl hes
 go_wp2_with fail
 refine CZ.out.mono ?_
 rintro e w2 ⟨rfl, hb⟩
 have B2 : Hid (Below w.heap.size w w2) := B1.out.trans (hb.mono B1.out.size)
 have Z2 : Hid (CellsAt w2 (N + 1) [.string ⟨#[]⟩, .slice none 0 0]) := ca_below Z1.out hb
 clear s0 s1 s2 sx q0 k0 q1 k1 zx CZ hb
 obtain ⟨q0, k0⟩ := ca_at Z2.out 0 rfl
 obtain ⟨q1, k1⟩ := ca_at Z2.out 1 rfl
 have zx := Z2.out.1
 obtain ⟨C, hC⟩ : ∃ C, zvHas xs (nameTo ls nm) = C := ⟨_, rfl⟩
 have HCC := hid hC
 rw [hC]
 clear hC
 have h1 := hid (show w.heap.size ≤ N + 1 by rw [HNN.out]; omega)
 cases C
 case false =>
  have F1 : findE 0 xs ls nm = 5 := by unfold findE; rw [if_neg (by simp), HCC.out]; rfl
  have F2 : findZ 0 xs ls nm = ⟨[], []⟩ := by unfold findZ; rw [F1]; rfl
  have G1 := hid F1
  have G2 := hid F2
  clear F1 F2
  go_wp2
  refine bodyPost_ret (v := .tuple #[.agg #[.string ⟨#[]⟩, .slice none 0 0], .int .i64 5]) (by simp [results, Tryz.results16, go_sem, *]) rfl ⟨.slice none 0 0, by rw [G1.out, G2.out], by rw [G2.out]; exact World.ownsRow_nil _ _ _ _, ?_⟩
  have h2 := below_put (below_put B2.out h1.out 0 (.string ⟨#[]⟩)) h1.out 1 (.slice none 0 0)
  rw [HNN.out] at h2
  exact h2.alloc (by have := h2.size; rw [HNN.out] at this; exact this) _
 have F1 : findE 0 xs ls nm = 0 := by unfold findE; rw [if_neg (by simp), HCC.out]; rfl
 have F2 : findZ 0 xs ls nm = (zvAt xs (nameTo ls nm)).z := by unfold findZ; rw [F1]; rfl
 have HM := zvAt_mem HCC.out
 have HL := hid (HES.out _ HM)
 have RE := hid (H2.out.eras _ HM)
 obtain ⟨y, hy⟩ : ∃ y, zvAt xs (nameTo ls nm) = y := ⟨_, rfl⟩
 rw [hy] at F2 HL RE ⊢
 have G1 := hid F1
 have G2 := hid F2
 clear F1 F2 HM hy
 obtain ⟨M, hM⟩ : ∃ M, w2.heap.size = M := ⟨_, rfl⟩
 obtain ⟨V3, hV3⟩ : ∃ V3, w2.alloc (.cells #[.string ⟨y.z.name.toArray⟩, .slice y.a y.z.eras.length y.c] 44) = V3 := ⟨_, rfl⟩
 have Y3 : Hid (CellsAt V3 M [strV y.z.name, .slice y.a y.z.eras.length y.c]) := by
  show CellsAt _ _ _
  rw [← hV3, ← hM]; exact ca_new w2 [strV y.z.name, .slice y.a y.z.eras.length y.c] 44
 have Z3 : Hid (CellsAt V3 (N + 1) [.string ⟨#[]⟩, .slice none 0 0]) := by show CellsAt _ _ _; rw [← hV3]; exact ca_alloc Z2.out _
 have B3 : Hid (Below w.heap.size w V3) := by show Below _ _ _; rw [← hV3]; exact B2.out.alloc B2.out.size _
 have UU : V3.cell? ⟨M, 0, none⟩ = some (strV y.z.name) ∧ V3.cell? ⟨M, 1, none⟩ = some (.slice y.a y.z.eras.length y.c) := ⟨(ca_at Y3.out 0 rfl).1, (ca_at Y3.out 1 rfl).1⟩
 have UUd : V3.drew.cell? ⟨M, 0, none⟩ = some (strV y.z.name) ∧ V3.drew.cell? ⟨M, 1, none⟩ = some (.slice y.a y.z.eras.length y.c) := UU
 have neM : ¬ M = N + 1 := by have := zx; omega
 have CL := hid (clone_any y.z.eras y.a y.c V3.drew (rd_below RE.out (B3.out.trans ((show Below V3.heap.size V3 V3.drew from ⟨rfl, rfl, rfl, Nat.le_refl _, fun _ _ => rfl⟩).mono B3.out.size))) HL.out)
 have CL2 := hid (clone_any y.z.eras y.a y.c V3 (rd_below RE.out B3.out) HL.out)
 have sY := Y3.out.1
 have after : Hid (∀ w6, Below V3.heap.size V3 w6 → (w6.cell? ⟨M, 0, none⟩ = some (strV y.z.name) ∧ w6.cell? ⟨M, 1, none⟩ = some (.slice y.a y.z.eras.length y.c)) ∧ CellsAt w6 (N + 1) [.string ⟨#[]⟩, .slice none 0 0] ∧ Below w.heap.size w w6) := by
  intro w6 hb
  have Y6 := ca_below Y3.out hb
  exact ⟨⟨(ca_at Y6 0 rfl).1, (ca_at Y6 1 rfl).1⟩, ca_below Z3.out hb, B3.out.trans (hb.mono B3.out.size)⟩
 have S3 := hid B3.out.size
 clear q0 k0 q1 k1 zx
 have HM3 := hid hM
 go_wp2_with fail
 have UUx := hid UU
 go_region_held3 (fun w' => w'.cell? ⟨M, 0, none⟩ = some (strV y.z.name) ∧ w'.cell? ⟨M, 1, none⟩ = some (.slice y.a y.z.eras.length y.c))
  (first | with_reducible exact UU | with_reducible exact UUd | with_reducible exact UU6 | with_reducible exact set2 neM (set2 neM UU6) | go_keep)
  (first | (go_at_call 55; (with_reducible refine CL.out.mono ?_); rintro e w6 ⟨cv, rfl, O6, hb6⟩; obtain ⟨UU6, Z6, B6⟩ := after.out w6 (below_drew1 hb6); obtain ⟨q0, k0⟩ := ca_at Z6 0 rfl; obtain ⟨q1, k1⟩ := ca_at Z6 1 rfl; have zx := Z6.1; have O7 := hid O6; have B7 := hid B6; obtain ⟨ca, ccap, rfl⟩ := owns_shape0 O6; clear O6 hb6 B6))
 all_goals
  go_wp2
  have o1 : OwnEras w6 w.heap.size (.slice ca y.z.eras.length ccap) y.z.eras := owns_base O7.out S3.out
  have ne : ∀ o, Value.ownBlock (.slice ca y.z.eras.length ccap) ≠ some (⟨N + 1, o, none⟩ : Addr).block := by
   intro o q
   have h8 := (O7.out.lt _ q).1
   have h9 : V3.drew.heap.size = V3.heap.size := rfl
   have h10 := Z3.out.1
   have h11 : V3.heap.size = M + 1 := by rw [← hV3, World.size_alloc, HM3.out]
   simp only at h8
   omega
  have h2 := below_put (below_put B7.out h1.out 0 (.string ⟨y.z.name.toArray⟩)) h1.out 1 (.slice ca y.z.eras.length ccap)
  rw [HNN.out] at h2 o1
  refine bodyPost_ret (v := .tuple #[.agg #[strV y.z.name, .slice ca y.z.eras.length ccap], .int .i64 0]) (by simp [results, Tryz.results16, go_sem, *]) rfl ⟨.slice ca y.z.eras.length ccap, by rw [G1.out, G2.out], ?_, h2⟩
  rw [G2.out]
  refine ownsRow_setCell_other ?_ (ne _) _
  refine ownsRow_setCell_other ?_ (ne _) _
  exact o1
end Go.Proofs.YtkhlkohlccndgaaGreat
namespace Go.Proofs.YtkhlkohlccndgaaGreat
open Go.RowKit Go.Shelf

/- the name that a format makes of a saving and its letter -/
def nameE (fmt : Tx.Bs) (sv : Int) (lt : Tx.Bs) : Tx.Bs :=
 if (Lib.cut fmt Sx.pct).2.2 = true then (Lib.cut fmt Sx.pct).1 ++ lt ++ (Lib.cut fmt Sx.pct).2.1
 else if (Lib.cut fmt Sx.slash).2.2 = true ∧ 0 < sv then (Lib.cut fmt Sx.slash).2.1 else (Lib.cut fmt Sx.slash).1
theorem ret_str {a b : ByteArray} (h : a = b) : Ending.returned (.string a) = .returned (.string b) := by rw [h]
theorem bytes_app (a b : Tx.Bs) : (⟨a.toArray⟩ : ByteArray) ++ ⟨b.toArray⟩ = ⟨(a ++ b).toArray⟩ := by
 apply ByteArray.ext; simp
theorem nameOf_any (fmt lt : Tx.Bs) (at_ sv m : Int) (w : World) (hf : fmt.length ≤ 1000000) (hl : lt.length ≤ 1000000) (hm : w.cell? ⟨0, 0, none⟩ = some (.int .i64 m)) (h0 : 0 < w.heap.size) :
  Calls Tryz.prog 111 #[strV fmt, .agg #[.int .i64 at_, .int .i64 sv, strV lt]] w fun e w' => e = .returned (.string ⟨(nameE fmt sv lt).toArray⟩) ∧ Below w.heap.size w w' := by
 obtain ⟨V, hV⟩ : ∃ V, w.alloc (.cells #[.int .i64 at_, .int .i64 sv, strV lt] 72) = V := ⟨_, rfl⟩
 have XV : CellsAt V w.heap.size [.int .i64 at_, .int .i64 sv, strV lt] := by rw [← hV]; exact ca_new w [.int .i64 at_, .int .i64 sv, strV lt] 72
 have BV : Hid (Below w.heap.size w V) := by show Below _ _ _; rw [← hV]; exact (Below.refl _ w).alloc (Nat.le_refl _) _
 have mV : V.cell? ⟨0, 0, none⟩ = some (.int .i64 m) := (BV.out.cell (p := ⟨0, 0, none⟩) h0).trans hm
 have C1 := hid (cut_any fmt Sx.pct m V (by omega) mV)
 have HX := hid XV
 have HF := hid hf
 have HM := hid mV
 obtain ⟨l1, l2⟩ := cut_len fmt Sx.pct
 obtain ⟨a, ha⟩ : ∃ a, (Lib.cut fmt Sx.pct).1 = a := ⟨_, rfl⟩
 obtain ⟨b, hb⟩ : ∃ b, (Lib.cut fmt Sx.pct).2.1 = b := ⟨_, rfl⟩
 obtain ⟨c, hc⟩ : ∃ c, (Lib.cut fmt Sx.pct).2.2 = c := ⟨_, rfl⟩
 rw [ha, hb, hc] at C1
 rw [ha] at l1
 rw [hb] at l2
 have HN : Hid (nameE fmt sv lt = if c = true then a ++ lt ++ b else if (Lib.cut fmt Sx.slash).2.2 = true ∧ 0 < sv then (Lib.cut fmt Sx.slash).2.1 else (Lib.cut fmt Sx.slash).1) := by
  show _ = _
  unfold nameE; rw [ha, hb, hc]
 clear ha hb hc XV mV hm h0
 go_enter Tryz.func111, Tryz.ntmps111
 go_wp2_with fail
 refine C1.out.mono ?_
 rintro e w1 ⟨rfl, n, rfl⟩
 obtain ⟨x0, _⟩ := ca_at HX.out 0 rfl
 obtain ⟨x1, _⟩ := ca_at HX.out 1 rfl
 obtain ⟨x2, _⟩ := ca_at HX.out 2 rfl
 have sx := HX.out.1
 cases c
 case true =>
  have EN : Hid (nameE fmt sv lt = a ++ lt ++ b) := by show _ = _; rw [HN.out]; rfl
  go_wp2
  go_ret
  exact ⟨ret_str (by rw [EN.out, ← bytes_app, ← bytes_app]), BV.out.trans ((belowN V n).mono BV.out.size)⟩
 case false =>
  have C2 := hid (cut_any fmt Sx.slash m (V.drewN n) (by omega) HM.out)
  obtain ⟨c, hc⟩ : ∃ c, (Lib.cut fmt Sx.slash).1 = c := ⟨_, rfl⟩
  obtain ⟨d, hd⟩ : ∃ d, (Lib.cut fmt Sx.slash).2.1 = d := ⟨_, rfl⟩
  obtain ⟨e, he⟩ : ∃ e, (Lib.cut fmt Sx.slash).2.2 = e := ⟨_, rfl⟩
  rw [hc, hd, he] at C2
  rw [hc, hd, he] at HN
  have BD := hid (BV.out.trans ((belowN V n).mono BV.out.size))
  clear hc hd he
  go_wp2_with fail
  refine C2.out.mono ?_
  rintro _ w2 ⟨rfl, n2, rfl⟩
  have BE := hid (fun k => BV.out.trans ((belowN V k).mono BV.out.size))
  cases e
  case false =>
   have EN : Hid (nameE fmt sv lt = c) := by show _ = _; rw [HN.out]; simp
   go_wp2
   go_ret
   exact ⟨ret_str (by rw [EN.out]), BE.out _⟩
  case true =>
   by_cases hs : 0 < sv
   ·have HS := hid hs
    have EN : Hid (nameE fmt sv lt = d) := by show _ = _; rw [HN.out]; simp [hs]
    have hs2 : decide (0 < sv) = true := by simp [hs]
    have hs3 : sv > 0 := hs
    go_wp2
    go_ret
    exact ⟨ret_str (by rw [EN.out]), BE.out _⟩
   ·have HS := hid hs
    have EN : Hid (nameE fmt sv lt = c) := by show _ = _; rw [HN.out]; simp [hs]
    have hs2 : decide (0 < sv) = false := by simp [hs]
    go_wp2
    go_ret
    exact ⟨ret_str (by rw [EN.out]), BE.out _⟩
theorem cells_e {b c : Nat} {u0 u1 v0 v1 v2 : Value} {w w' : World} (h : w.cell? ⟨b, 0, none⟩ = some u0 ∧ w.cell? ⟨b, 3, none⟩ = some u1 ∧ w.cell? ⟨c, 0, none⟩ = some v0 ∧ w.cell? ⟨c, 1, none⟩ = some v1 ∧ w.cell? ⟨c, 2, none⟩ = some v2) (hb : b < w.heap.size) (hc : c < w.heap.size) (hw : Below w.heap.size w w') :
  w'.cell? ⟨b, 0, none⟩ = some u0 ∧ w'.cell? ⟨b, 3, none⟩ = some u1 ∧ w'.cell? ⟨c, 0, none⟩ = some v0 ∧ w'.cell? ⟨c, 1, none⟩ = some v1 ∧ w'.cell? ⟨c, 2, none⟩ = some v2 :=
 ⟨(hw.cell (p := ⟨b, 0, none⟩) hb).trans h.1, (hw.cell (p := ⟨b, 3, none⟩) hb).trans h.2.1, (hw.cell (p := ⟨c, 0, none⟩) hc).trans h.2.2.1, (hw.cell (p := ⟨c, 1, none⟩) hc).trans h.2.2.2.1, (hw.cell (p := ⟨c, 2, none⟩) hc).trans h.2.2.2.2⟩
theorem cells_es {b c q o : Nat} {u u0 u1 v0 v1 v2 : Value} {w : World} (hb : ¬ b = q) (hc : ¬ c = q) (h : w.cell? ⟨b, 0, none⟩ = some u0 ∧ w.cell? ⟨b, 3, none⟩ = some u1 ∧ w.cell? ⟨c, 0, none⟩ = some v0 ∧ w.cell? ⟨c, 1, none⟩ = some v1 ∧ w.cell? ⟨c, 2, none⟩ = some v2) :
  (w.setCell ⟨q, o, none⟩ u).cell? ⟨b, 0, none⟩ = some u0 ∧ (w.setCell ⟨q, o, none⟩ u).cell? ⟨b, 3, none⟩ = some u1 ∧ (w.setCell ⟨q, o, none⟩ u).cell? ⟨c, 0, none⟩ = some v0 ∧ (w.setCell ⟨q, o, none⟩ u).cell? ⟨c, 1, none⟩ = some v1 ∧ (w.setCell ⟨q, o, none⟩ u).cell? ⟨c, 2, none⟩ = some v2 := by
 have e1 : ∀ k, (w.setCell ⟨q, o, none⟩ u).cell? ⟨b, k, none⟩ = w.cell? ⟨b, k, none⟩ := fun k => World.cell?_of_block (Below.heap_setCell _ _ _ _ hb)
 have e2 : ∀ k, (w.setCell ⟨q, o, none⟩ u).cell? ⟨c, k, none⟩ = w.cell? ⟨c, k, none⟩ := fun k => World.cell?_of_block (Below.heap_setCell _ _ _ _ hc)
 simp only [e1, e2]
 exact h
theorem local_any (x : Sx.Er) (t : Sx.Tm) (m : Int) (w : World) (hf : x.format.length ≤ 1000000) (hl : t.letter.length ≤ 1000000) (hm : w.cell? ⟨0, 0, none⟩ = some (.int .i64 m)) (h0 : 0 < w.heap.size)
  (b1 : -1000000000000 ≤ x.shift ∧ x.shift ≤ 1000000000000) (b2 : -1000000000000 ≤ t.save ∧ t.save ≤ 1000000000000) :
  Calls Tryz.prog 52 #[eraV x, timeV t] w fun e w' => e = .returned (lcV ⟨x.shift + t.save, t.save, nameE x.format t.save t.letter⟩) ∧ Below w.heap.size w w' := by
 obtain ⟨ta, ts, tl⟩ := t
 dsimp only at hl b2
 obtain ⟨N, hN⟩ : ∃ N, w.heap.size = N := ⟨_, rfl⟩
 obtain ⟨V, hV⟩ : ∃ V, ((w.alloc (.cells (eraCells x).toArray 67)).alloc (.cells #[.int .i64 ta, .int .i64 ts, strV tl] 72)).alloc (.cells #[.int .i64 0, .int .i64 0, .string ⟨#[]⟩] 31) = V := ⟨_, rfl⟩
 have XE := ca_alloc (ca_alloc (ca_new w (eraCells x) 67) (.cells #[.int .i64 ta, .int .i64 ts, strV tl] 72)) (.cells #[.int .i64 0, .int .i64 0, .string ⟨#[]⟩] 31)
 have XT := ca_alloc (ca_new (w.alloc (.cells (eraCells x).toArray 67)) [.int .i64 ta, .int .i64 ts, strV tl] 72) (.cells #[.int .i64 0, .int .i64 0, .string ⟨#[]⟩] 31)
 have XL := ca_new ((w.alloc (.cells (eraCells x).toArray 67)).alloc (.cells #[.int .i64 ta, .int .i64 ts, strV tl] 72)) [.int .i64 0, .int .i64 0, .string ⟨#[]⟩] 31
 have e2 : ((w.alloc (.cells (eraCells x).toArray 67)).alloc (.cells [.int .i64 ta, .int .i64 ts, strV tl].toArray 72)).alloc (.cells #[.int .i64 0, .int .i64 0, .string ⟨#[]⟩] 31) = V := hV
 have e3 : ((w.alloc (.cells (eraCells x).toArray 67)).alloc (.cells #[.int .i64 ta, .int .i64 ts, strV tl] 72)).alloc (.cells [.int .i64 0, .int .i64 0, .string ⟨#[]⟩].toArray 31) = V := hV
 rw [hV, hN] at XE
 rw [e2] at XT
 rw [e3] at XL
 simp only [World.size_alloc, hN] at XT XL
 have BV : Hid (Below N w V) := by show Below _ _ _; rw [← hV]; exact (((Below.refl N w).alloc (by omega) _).alloc (by simp; omega) _).alloc (by simp; omega) _
 have mV : V.cell? ⟨0, 0, none⟩ = some (.int .i64 m) := (BV.out.cell (p := ⟨0, 0, none⟩) (by show 0 < N; omega)).trans hm
 have sV := XL.1
 have EV := eraH_of XE
 have UU : V.cell? ⟨N, 0, none⟩ = some (.int .i64 x.shift) ∧ V.cell? ⟨N, 3, none⟩ = some (strV x.format) ∧ V.cell? ⟨N + 1, 0, none⟩ = some (.int .i64 ta) ∧ V.cell? ⟨N + 1, 1, none⟩ = some (.int .i64 ts) ∧ V.cell? ⟨N + 1, 2, none⟩ = some (strV tl) := ⟨EV.1, EV.2.2.2.1, (ca_at XT 0 rfl).1, (ca_at XT 1 rfl).1, (ca_at XT 2 rfl).1⟩
 have UUd : V.drew.cell? ⟨N, 0, none⟩ = some (.int .i64 x.shift) ∧ V.drew.cell? ⟨N, 3, none⟩ = some (strV x.format) ∧ V.drew.cell? ⟨N + 1, 0, none⟩ = some (.int .i64 ta) ∧ V.drew.cell? ⟨N + 1, 1, none⟩ = some (.int .i64 ts) ∧ V.drew.cell? ⟨N + 1, 2, none⟩ = some (strV tl) := UU
 have CN := hid (nameOf_any x.format tl ta ts m V.drew hf hl mV (by show 0 < V.heap.size; omega))
 have after : Hid (∀ w6, Below V.drew.heap.size V.drew w6 → (w6.cell? ⟨N, 0, none⟩ = some (.int .i64 x.shift) ∧ w6.cell? ⟨N, 3, none⟩ = some (strV x.format) ∧ w6.cell? ⟨N + 1, 0, none⟩ = some (.int .i64 ta) ∧ w6.cell? ⟨N + 1, 1, none⟩ = some (.int .i64 ts) ∧ w6.cell? ⟨N + 1, 2, none⟩ = some (strV tl)) ∧ CellsAt w6 (N + 1 + 1) [.int .i64 0, .int .i64 0, .string ⟨#[]⟩] ∧ Below N w w6) := by
  intro w6 hb
  have hb' := below_drew1 hb
  exact ⟨cells_e UU (by omega) (by omega) hb', ca_below XL hb', BV.out.trans (hb'.mono (by omega))⟩
 have ne1 : ¬ N = N + 1 + 1 := by omega
 have ne2 : ¬ N + 1 = N + 1 + 1 := by omega
 obtain ⟨nm, hnm⟩ : ∃ nm, nameE x.format ts tl = nm := ⟨_, rfl⟩
 rw [hnm] at CN
 have HNM := hid hnm
 have HNN := hid hN
 have HB1 := hid b1
 have HB2 := hid b2
 have B1 := b1.1
 have B1' := b1.2
 have B2 := b2.1
 have B2' := b2.2
 clear XE XT XL e2 e3 EV mV hm h0 hf hl hnm b1 b2
 go_enter Tryz.func52, Tryz.ntmps52
 simp only [hN]
 have hVx : ((w.alloc (.cells #[.int .i64 x.shift, strV x.rules, .int .i64 x.save, strV x.format, .bool x.opn, .int .i64 x.uy, .int .i64 x.um, .int .i64 x.ud, .int .i64 x.uat, .int .i64 x.uclock] 67)).alloc (.cells #[.int .i64 ta, .int .i64 ts, strV tl] 72)).alloc (.cells #[.int .i64 0, .int .i64 0, .string ⟨#[]⟩] 31) = V := hV
 go_wp2_with fail
 go_region_held3 (fun w' => w'.cell? ⟨N, 0, none⟩ = some (.int .i64 x.shift) ∧ w'.cell? ⟨N, 3, none⟩ = some (strV x.format) ∧ w'.cell? ⟨N + 1, 0, none⟩ = some (.int .i64 ta) ∧ w'.cell? ⟨N + 1, 1, none⟩ = some (.int .i64 ts) ∧ w'.cell? ⟨N + 1, 2, none⟩ = some (strV tl))
  (first | with_reducible exact UU | with_reducible exact UUd | with_reducible exact UU6 | with_reducible exact cells_es ne1 ne2 (cells_es ne1 ne2 (cells_es ne1 ne2 UU6)) | go_keep)
  (first | (go_at_call 111; (with_reducible refine CN.out.mono ?_); rintro e w6 ⟨rfl, hb6⟩; obtain ⟨UU6, L6, B6⟩ := after.out w6 hb6; obtain ⟨q0, k0⟩ := ca_at L6 0 rfl; obtain ⟨q1, k1⟩ := ca_at L6 1 rfl; obtain ⟨q2, k2⟩ := ca_at L6 2 rfl; have zx := L6.1; have B7 := hid B6; clear hb6 B6))
 all_goals
  have hw : IntKind.i64.wrap (x.shift + ts) = x.shift + ts := IntWalk.i64_in _ (by omega)
  rw [hw]
  have h1 : N ≤ N + 1 + 1 := by omega
  have h2 := below_put (below_put (below_put B7.out h1 0 (.int .i64 (x.shift + ts))) h1 1 (.int .i64 ts)) h1 2 (.string ⟨nm.toArray⟩)
  go_wp2
  refine bodyPost_ret (v := lcV ⟨x.shift + ts, ts, nm⟩) (by simp [results, Tryz.results52, go_sem, *]) rfl ⟨by rw [HNM.out], h2⟩
end Go.Proofs.YtkhlkohlccndgaaGreat
namespace Go.Proofs.YtkhlkohlccndgaaGreat
open Go.RowKit Go.Shelf
attribute [local go_sem] Oper.semAt_some

theorem savedAt1_any (x : Sx.Tm) (B : Nat) (at_ : Int) (w : World) (hB : B < w.heap.size) (h : w.cell? ⟨B, 0, none⟩ = some (.int .i64 at_)) :
  Calls Tryz.prog 114 #[timeV x, .pointer (some ⟨B, 0, none⟩)] w fun e w' => e = .returned (.bool (decide (x.at_ ≤ at_))) ∧ Below w.heap.size w w' := by
 have BV := hid ((Below.refl w.heap.size w).alloc (Nat.le_refl _) (.cells (timeC x).toArray 72))
 have XV := ca_new w (timeC x) 72
 obtain ⟨x0, _⟩ := ca_at XV 0 rfl
 have y0 := (BV.out.cell (p := ⟨B, 0, none⟩) hB).trans h
 have sx := XV.1
 have sB : B < (w.alloc (.cells (timeC x).toArray 72)).heap.size := Nat.lt_of_lt_of_le hB BV.out.size
 clear XV
 go_enter Tryz.func114, Tryz.ntmps114
 go_wp2
 go_ret
 exact ⟨rfl, BV.out⟩
/- what is saved at a time, and by what letter -/
def savedT (rs : List Sx.Rl) (x : Sx.Er) (at_ : Int) : Sx.Tm := if x.rules = [] then ⟨0, x.save, []⟩ else lastT (fun t => decide (t.at_ ≤ at_)) (Sx.times rs x.rules x.shift)
theorem savedAt_any (rs : List Sx.Rl) (rv : Value) (x : Sx.Er) (at_ : Int) (w : World) (h : RdRules w rv rs) (hs : ∀ r ∈ rs, r.name.length ≤ maxLen ∧ r.letter.length ≤ maxLen) (hT : (Sx.times rs x.rules x.shift).length ≤ 10000) :
  Calls Tryz.prog 53 #[rv, eraV x, .int .i64 at_] w fun e w' => e = .returned (timeV (savedT rs x at_)) ∧ Below w.heap.size w w' := by
 obtain ⟨ra, rcap, rfl⟩ := rd_shape h
 obtain ⟨N, hN⟩ : ∃ N, w.heap.size = N := ⟨_, rfl⟩
 obtain ⟨V, hV⟩ : ∃ V, ((w.alloc (.cells (eraCells x).toArray 67)).alloc (.cells #[.int .i64 at_] 3)).alloc (.cells #[.int .i64 0, .int .i64 0, .string ⟨#[]⟩] 72) = V := ⟨_, rfl⟩
 have XE := ca_alloc (ca_alloc (ca_new w (eraCells x) 67) (.cells #[.int .i64 at_] 3)) (.cells #[.int .i64 0, .int .i64 0, .string ⟨#[]⟩] 72)
 have XT := ca_alloc (ca_new (w.alloc (.cells (eraCells x).toArray 67)) [.int .i64 at_] 3) (.cells #[.int .i64 0, .int .i64 0, .string ⟨#[]⟩] 72)
 have XL := ca_new ((w.alloc (.cells (eraCells x).toArray 67)).alloc (.cells #[.int .i64 at_] 3)) [.int .i64 0, .int .i64 0, .string ⟨#[]⟩] 72
 have e2 : ((w.alloc (.cells (eraCells x).toArray 67)).alloc (.cells [.int .i64 at_].toArray 3)).alloc (.cells #[.int .i64 0, .int .i64 0, .string ⟨#[]⟩] 72) = V := hV
 have e3 : ((w.alloc (.cells (eraCells x).toArray 67)).alloc (.cells #[.int .i64 at_] 3)).alloc (.cells [.int .i64 0, .int .i64 0, .string ⟨#[]⟩].toArray 72) = V := hV
 rw [hV, hN] at XE
 rw [e2] at XT
 rw [e3] at XL
 simp only [World.size_alloc, hN] at XT XL
 have BV : Hid (Below N w V) := by show Below _ _ _; rw [← hV]; exact (((Below.refl N w).alloc (by omega) _).alloc (by simp; omega) _).alloc (by simp; omega) _
 have sV := XL.1
 obtain ⟨x0, x1, x2, x3, x4, x5, x6, x7, x8, x9⟩ := eraH_of XE
 obtain ⟨l0, g0⟩ := ca_at XL 0 rfl
 obtain ⟨l1, g1⟩ := ca_at XL 1 rfl
 obtain ⟨l2, g2⟩ := ca_at XL 2 rfl
 have sE := XE.1
 have HNN := hid hN
 have HXT := hid XT
 have HXL := hid XL
 have H := hid h
 have HS := hid hs
 have HT := hid hT
 have CT := hid (times_any rs (.slice ra rs.length rcap) x.rules x.shift V (rd_below h (by rw [hN]; exact BV.out)) hs)
 clear XE XT XL e2 e3 h hs hT
 go_enter Tryz.func53, Tryz.ntmps53
 simp only [hN]
 have hVx : ((w.alloc (.cells #[.int .i64 x.shift, strV x.rules, .int .i64 x.save, strV x.format, .bool x.opn, .int .i64 x.uy, .int .i64 x.um, .int .i64 x.ud, .int .i64 x.uat, .int .i64 x.uclock] 67)).alloc (.cells #[.int .i64 at_] 3)).alloc (.cells #[.int .i64 0, .int .i64 0, .string ⟨#[]⟩] 72) = V := hV
 have h1 := hid (show N ≤ N + 1 + 1 by omega)
 by_cases hr : x.rules = []
 ·have ES : Hid (savedT rs x at_ = ⟨0, x.save, []⟩) := by show _ = _; unfold savedT; rw [if_pos hr]
  have he : List.isEmpty x.rules = true := by rw [hr]; rfl
  clear CT hr
  go_wp2
  have h2 := below_put (below_put (below_put BV.out h1.out 0 (.int .i64 0)) h1.out 1 (.int .i64 x.save)) h1.out 2 (.string ⟨#[]⟩)
  refine bodyPost_ret (v := timeV ⟨0, x.save, []⟩) (by simp [results, Tryz.results53, go_sem, *]) rfl ⟨by rw [ES.out], h2⟩
 ·have ES : Hid (savedT rs x at_ = lastT (fun t => decide (t.at_ ≤ at_)) (Sx.times rs x.rules x.shift)) := by show _ = _; unfold savedT; rw [if_neg hr]
  have he : List.isEmpty x.rules = false := by cases q : x.rules <;> simp_all
  have e1 : ∀ args w, (callFunc 114 args).run Tryz.prog w = .ok (.enter 114 args) w := enters_of Tryz.func114 (by kernel_rfl) rfl
  have eT : ∀ args w, (callFunc 163 args).run Tryz.prog w = .ok (.enter 163 args) w := enters_of Tryz.func163 (by kernel_rfl) rfl
  have C1 := hid (fun (W : World) (xs : List Sx.Tm) (ta : Option Addr) (tcap : Nat) (hW : Below V.heap.size V W) (hR : RdTimes W (.slice ta xs.length tcap) xs) (hxs : xs.length ≤ 10000) =>
   let hWL : Below W.heap.size W (W.alloc (.cells #[.slice ta xs.length tcap] 68)) := (Below.refl W.heap.size W).alloc (Nat.le_refl _) _
   let hVL : Below V.heap.size V (W.alloc (.cells #[.slice ta xs.length tcap] 68)) := hW.trans (hWL.mono hW.size)
   lastT_any 163 114 #[.pointer (some ⟨W.heap.size, 0, none⟩)] #[.pointer (some ⟨N + 1, 0, none⟩)] (fun t => decide (t.at_ ≤ at_)) xs (W.alloc (.cells #[.slice ta xs.length tcap] 68)) eT e1
    (fun w1 hw1 => valsT_seq 3 W.heap.size (by omega) xs ta tcap (W.alloc (.cells #[.slice ta xs.length tcap] 68)) w1 (rd_below hR hWL) hxs ((hw1.cell (p := ⟨W.heap.size, 0, none⟩) (by simp)).trans (ca_at (ca_new W [.slice ta xs.length tcap] 68) 0 rfl).1) (Nat.lt_of_lt_of_le (by simp) hw1.size) hw1)
    (fun x _ W' hW' => by
     have hh := hVL.trans (hW'.mono hVL.size)
     exact savedAt1_any x (N + 1) at_ W' (Nat.lt_of_lt_of_le HXT.out.1 hh.size) ((hh.cell (p := ⟨N + 1, 0, none⟩) HXT.out.1).trans (ca_at HXT.out 0 rfl).1)))
  clear e1 eT
  go_wp2_with fail
  refine CT.out.mono ?_
  rintro e w1 ⟨tv, rfl, hO, hb⟩
  have HB1 := hid hb
  have RT := hid (ownTimes_rd hO)
  obtain ⟨ta, tcap, rfl⟩ := owns_shape0 hO
  obtain ⟨ts, hts⟩ : ∃ ts, Sx.times rs x.rules x.shift = ts := ⟨_, rfl⟩
  rw [hts] at RT ES HT ⊢
  obtain ⟨te, hte⟩ : ∃ te, Sx.timesE rs x.rules x.shift = te := ⟨_, rfl⟩
  rw [hte]
  clear CT hO hb hte hts x0 x1 x2 x3 x4 x5 x6 x7 x8 x9 l0 g0 l1 g1 l2 g2 sE sV
  go_wp2_with fail
  refine (valsT_any _ _ _ _).mono ?_
  rintro e w2 ⟨rfl, rfl⟩
  go_wp2_with fail
  refine (C1.out w1 ts ta tcap HB1.out RT.out HT.out).mono ?_
  rintro e w3 ⟨rfl, hb⟩
  have HB3 : Hid (Below V.heap.size V w3) := HB1.out.trans (((Below.refl w1.heap.size w1).alloc (Nat.le_refl _) (.cells #[.slice ta ts.length tcap] 68)).trans (hb.mono (by simp)) |>.mono HB1.out.size)
  have L3 := ca_below HXL.out HB3.out
  obtain ⟨l0, g0⟩ := ca_at L3 0 rfl
  obtain ⟨l1, g1⟩ := ca_at L3 1 rfl
  obtain ⟨l2, g2⟩ := ca_at L3 2 rfl
  have sL := L3.1
  obtain ⟨y, hy⟩ : ∃ y, lastT (fun t => decide (t.at_ ≤ at_)) ts = y := ⟨_, rfl⟩
  obtain ⟨A, hA⟩ : ∃ A, (ts.any fun t => decide (t.at_ ≤ at_)) = A := ⟨_, rfl⟩
  rw [hy, hA]
  rw [hy] at ES
  have B3 : Hid (Below N w w3) := BV.out.trans (HB3.out.mono (by have := HXL.out.1; omega))
  clear hb hy hA C1 L3
  go_wp2
  have h2 := (below_put (below_put (below_put B3.out h1.out 0 (.int .i64 y.at_)) h1.out 1 (.int .i64 y.save)) h1.out 2 (.string ⟨y.letter.toArray⟩)).alloc (by have := B3.out.size; rw [HNN.out] at this; simpa using this) (.cells #[.int .i64 y.at_, .int .i64 y.save, .string ⟨y.letter.toArray⟩] 72)
  refine bodyPost_ret (v := timeV y) (by simp [results, Tryz.results53, go_sem, *]) rfl ⟨by rw [ES.out], h2⟩
end Go.Proofs.YtkhlkohlccndgaaGreat
namespace Go.Proofs.YtkhlkohlccndgaaGreat
open Go.RowKit Go.Shelf
attribute [local go_sem] Oper.semAt_some

theorem at1_any (x : Sx.Er) (B : Nat) (at_ : Int) (w : World) (hB : B < w.heap.size) (h : w.cell? ⟨B, 0, none⟩ = some (.int .i64 at_)) (hok : x.opn = true ∨ EndOk x) :
  Calls Tryz.prog 50 #[eraV x, .pointer (some ⟨B, 0, none⟩)] w fun e w' => e = .returned (.bool (x.opn || decide (at_ < endAt x))) ∧ Below w.heap.size w w' := by
 obtain ⟨sh, rl, sv, fm, op, uy, um, ud, ua, uc⟩ := x
 cases op
 case' true => obtain ⟨x, hx⟩ : ∃ x, (⟨sh, rl, sv, fm, true, uy, um, ud, ua, uc⟩ : Sx.Er) = x := ⟨_, rfl⟩
 case' false => obtain ⟨x, hx⟩ : ∃ x, (⟨sh, rl, sv, fm, false, uy, um, ud, ua, uc⟩ : Sx.Er) = x := ⟨_, rfl⟩
 all_goals
  obtain ⟨N, hN⟩ : ∃ N, w.heap.size = N := ⟨_, rfl⟩
  obtain ⟨V, hV⟩ : ∃ V, w.alloc (.cells (eraCells x).toArray 67) = V := ⟨_, rfl⟩
  have XV := ca_new w (eraCells x) 67
  rw [hV, hN] at XV
  have BV : Hid (Below N w V) := by show Below _ _ _; rw [← hV]; exact (Below.refl N w).alloc (by omega) _
  have y0 := (BV.out.cell (p := ⟨B, 0, none⟩) (by show B < N; omega)).trans h
  have sx := XV.1
  have sB : B < V.heap.size := by omega
  have EX := hid (show EraH N x V ∧ V.cell? ⟨B, 0, none⟩ = some (.int .i64 at_) from ⟨eraH_of XV, y0⟩)
  subst hx
  have x4 := EX.out.1.2.2.2.2.1
  dsimp only at x4
  clear XV y0 h
 case true =>
  clear hok
  go_enter Tryz.func50, Tryz.ntmps50
  simp only [hN]
  have hVx : w.alloc (.cells #[.int .i64 sh, strV rl, .int .i64 sv, strV fm, .bool true, .int .i64 uy, .int .i64 um, .int .i64 ud, .int .i64 ua, .int .i64 uc] 67) = V := hV
  go_wp2_with fail
  refine wp_region_held_drew (S := fun w' => EraH N ⟨sh, rl, sv, fm, true, uy, um, ud, ua, uc⟩ w' ∧ w'.cell? ⟨B, 0, none⟩ = some (.int .i64 at_)) (by kernel_rfl) EX.out (fun hHeld => ?_)
  refine tkH 0 ?vz1 rfl ?z1 ?_
  case z1 => (intro w hSw; (obtain ⟨⟨s0, s1, s2, s3, s4, s5, s6, s7, s8, s9⟩, sb⟩ := hSw); (try dsimp only at s0 s1 s2 s3 s4 s5 s6 s7 s8 s9); go_simp; try with_reducible rfl)
  try simp only [Act.put, j]
  refine tkH 1 ?vz2 rfl ?z2 ?_
  case z2 => (intro w hSw; (obtain ⟨⟨s0, s1, s2, s3, s4, s5, s6, s7, s8, s9⟩, sb⟩ := hSw); (try dsimp only at s0 s1 s2 s3 s4 s5 s6 s7 s8 s9); go_simp; try with_reducible rfl)
  try simp only [Act.put, j]
  refine tkH 2 ?vz3 rfl ?z3 ?_
  case z3 => (intro w hSw; (obtain ⟨⟨s0, s1, s2, s3, s4, s5, s6, s7, s8, s9⟩, sb⟩ := hSw); (try dsimp only at s0 s1 s2 s3 s4 s5 s6 s7 s8 s9); go_simp; try with_reducible rfl)
  try simp only [Act.put, j]
  refine tkU 3 rfl ?_
  try simp only [Act.put, j]
  refine tkU 4 rfl ?_
  try simp only [Act.put, j]
  refine tkU 5 rfl ?_
  try simp only [Act.put, j]
  refine tkU 6 rfl ?_
  try simp only [Act.put, j]
  refine tkH 7 ?vz4 rfl ?z4 ?_
  case z4 => (intro w hSw; (obtain ⟨⟨s0, s1, s2, s3, s4, s5, s6, s7, s8, s9⟩, sb⟩ := hSw); (try dsimp only at s0 s1 s2 s3 s4 s5 s6 s7 s8 s9); go_simp; try with_reducible rfl)
  try simp only [Act.put, j]
  refine tkH 8 ?vz5 rfl ?z5 ?_
  case z5 => (intro w hSw; (obtain ⟨⟨s0, s1, s2, s3, s4, s5, s6, s7, s8, s9⟩, sb⟩ := hSw); (try dsimp only at s0 s1 s2 s3 s4 s5 s6 s7 s8 s9); go_simp; try with_reducible rfl)
  try simp only [Act.put, j]
  refine wpAnyH_done (by kernel_rfl) ?_ _
  go_wp2
  go_ret
  exact ⟨rfl, ⟨BV.out.os, BV.out.tape, BV.out.output, BV.out.size, BV.out.block⟩⟩
 case false =>
  have HOE : Hid (EndOk ⟨sh, rl, sv, fm, false, uy, um, ud, ua, uc⟩) := hok.resolve_left (by simp)
  have HC := hid (endOf_any _ V.drew HOE.out)
  obtain ⟨en, hen⟩ : ∃ en, endAt ⟨sh, rl, sv, fm, false, uy, um, ud, ua, uc⟩ = en := ⟨_, rfl⟩
  have ebd := endAt_bd HOE.out
  rw [hen] at HC ebd
  have HEN := hid hen
  clear hok hen HOE
  have hVx : w.alloc (.cells #[.int .i64 sh, strV rl, .int .i64 sv, strV fm, .bool false, .int .i64 uy, .int .i64 um, .int .i64 ud, .int .i64 ua, .int .i64 uc] 67) = V := hV
  go_enter Tryz.func50, Tryz.ntmps50
  simp only [hN]
  go_wp2_with fail
  refine wp_region_held_drew (S := fun w' => EraH N ⟨sh, rl, sv, fm, false, uy, um, ud, ua, uc⟩ w' ∧ w'.cell? ⟨B, 0, none⟩ = some (.int .i64 at_)) (by kernel_rfl) EX.out (fun hHeld => ?_)
  refine tkH 0 ?vz6 rfl ?z6 ?_
  case z6 => (intro w hSw; (obtain ⟨⟨s0, s1, s2, s3, s4, s5, s6, s7, s8, s9⟩, sb⟩ := hSw); (try dsimp only at s0 s1 s2 s3 s4 s5 s6 s7 s8 s9); go_simp; try with_reducible rfl)
  try simp only [Act.put, j]
  refine tkH 1 ?vz7 rfl ?z7 ?_
  case z7 => (intro w hSw; (obtain ⟨⟨s0, s1, s2, s3, s4, s5, s6, s7, s8, s9⟩, sb⟩ := hSw); (try dsimp only at s0 s1 s2 s3 s4 s5 s6 s7 s8 s9); go_simp; try with_reducible rfl)
  try simp only [Act.put, j]
  refine tkH 2 ?vz8 rfl ?z8 ?_
  case z8 => (intro w hSw; (obtain ⟨⟨s0, s1, s2, s3, s4, s5, s6, s7, s8, s9⟩, sb⟩ := hSw); (try dsimp only at s0 s1 s2 s3 s4 s5 s6 s7 s8 s9); go_simp; try with_reducible rfl)
  try simp only [Act.put, j]
  refine tkH 3 ?vz9 rfl ?z9 ?_
  case z9 => (intro w hSw; (obtain ⟨⟨s0, s1, s2, s3, s4, s5, s6, s7, s8, s9⟩, sb⟩ := hSw); (try dsimp only at s0 s1 s2 s3 s4 s5 s6 s7 s8 s9); go_simp; try with_reducible rfl)
  try simp only [Act.put, j]
  refine tkH 5 ?vz10 rfl ?z10 ?_
  case z10 => (intro w hSw; (obtain ⟨⟨s0, s1, s2, s3, s4, s5, s6, s7, s8, s9⟩, sb⟩ := hSw); (try dsimp only at s0 s1 s2 s3 s4 s5 s6 s7 s8 s9); go_simp; try with_reducible rfl)
  try simp only [Act.put, j]
  refine rdH 4 rfl fun K hK => ?_
  go_simp
  refine HC.out.mono ?_
  rintro e w7 ⟨rfl, hb7⟩
  have S7 : EraH N ⟨sh, rl, sv, fm, false, uy, um, ud, ua, uc⟩ w7 ∧ w7.cell? ⟨B, 0, none⟩ = some (.int .i64 at_) := ⟨eraH_below EX.out.1 (below_drew1 hb7) sx, ((below_drew1 hb7).cell (p := ⟨B, 0, none⟩) sB).trans EX.out.2⟩
  have B7 := hid (BV.out.trans ((below_drew1 hb7).mono (Nat.le_of_lt sx)))
  refine hK.out _ _ ?_ (fun hHeld => ?_)
  ·exact S7
  clear hK K
  try simp only [Act.put, j]
  refine tkH 6 ?vz11 rfl ?z11 ?_
  case z11 => (intro w hSw; (obtain ⟨⟨s0, s1, s2, s3, s4, s5, s6, s7, s8, s9⟩, sb⟩ := hSw); (try dsimp only at s0 s1 s2 s3 s4 s5 s6 s7 s8 s9); go_simp; try with_reducible rfl)
  try simp only [Act.put, j]
  refine tkH 7 ?vz12 rfl ?z12 ?_
  case z12 => (intro w hSw; (obtain ⟨⟨s0, s1, s2, s3, s4, s5, s6, s7, s8, s9⟩, sb⟩ := hSw); (try dsimp only at s0 s1 s2 s3 s4 s5 s6 s7 s8 s9); go_simp; try with_reducible rfl)
  try simp only [Act.put, j]
  refine tkH 8 ?vz13 rfl ?z13 ?_
  case z13 => (intro w hSw; (obtain ⟨⟨s0, s1, s2, s3, s4, s5, s6, s7, s8, s9⟩, sb⟩ := hSw); (try dsimp only at s0 s1 s2 s3 s4 s5 s6 s7 s8 s9); go_simp; try with_reducible rfl)
  try simp only [Act.put, j]
  refine wpAnyH_done (by kernel_rfl) ?_ _
  go_wp2
  go_ret
  exact ⟨ret_bool (by rw [HEN.out]; rfl), B7.out⟩
end Go.Proofs.YtkhlkohlccndgaaGreat
namespace Go.Proofs.YtkhlkohlccndgaaGreat
open Go.RowKit Go.Shelf
attribute [local go_sem] Oper.semAt_some

/- what Find answers, whatever world comes behind w -/
def FindAt (src : Value) (nm : Tx.Bs) (F : Int) (z : Sx.Zn) (w : World) : Prop :=
 ∀ W, Below w.heap.size w W → Calls Tryz.prog 16 #[src, strV nm] W fun e w' => ∃ v, e = .returned (.tuple #[.agg #[strV z.name, v], .int .i64 F]) ∧ OwnEras w' W.heap.size v z.eras ∧ Below W.heap.size W w'
theorem rdEras_own {w : World} {B : Nat} {v : Value} {l : List Sx.Er} (h : OwnEras w B v l) : RdEras w v l := own_rd eraCells_len h
theorem ownEras_cap {w : World} {B : Nat} {a : Option Addr} {n c : Nat} {l : List Sx.Er} (h : OwnEras w B (.slice a n c) l) : n ≤ c := by
 rcases h.2 with h' | h'
 ·obtain ⟨e, _⟩ := h'; simp at e; omega
 ·obtain ⟨b, cap, cur, e, _, _, q, _⟩ := h'; simp at e; omega
theorem ends_seq (nm : Tx.Bs) (z : Sx.Zn) (F : Int) (ra za la : Option Addr) (n1 n2 n3 rcap zcap lcap : Nat) (w : World) (hF : FindAt (.agg #[.slice ra n1 rcap, .slice za n2 zcap, .slice la n3 lcap]) nm F z w)
  (hz : F = 0 → z.eras.length ≤ 1000 ∧ ∀ e ∈ z.eras, e.opn = true ∨ EndOk e) :
  Calls Tryz.prog 17 #[.agg #[.slice ra n1 rcap, .slice za n2 zcap, .slice la n3 lcap], strV nm] w fun e w' => ∃ v, e = .returned (.tuple #[v, .int .i64 F]) ∧ OwnEnds w' w.heap.size v (if F = 0 then endsE z.eras else []) ∧ Below w.heap.size w w' := by
 have HZ := hid hz
 obtain ⟨V, hV⟩ : ∃ V, w.alloc (.cells #[.slice ra n1 rcap, .slice za n2 zcap, .slice la n3 lcap] 26) = V := ⟨_, rfl⟩
 have BV : Hid (Below w.heap.size w V) := by show Below _ _ _; rw [← hV]; exact (Below.refl _ w).alloc (Nat.le_refl _) _
 have XV : CellsAt V w.heap.size [.slice ra n1 rcap, .slice za n2 zcap, .slice la n3 lcap] := by rw [← hV]; exact ca_new w [.slice ra n1 rcap, .slice za n2 zcap, .slice la n3 lcap] 26
 have CF := hid (hF V BV.out)
 obtain ⟨s0, _⟩ := ca_at XV 0 rfl
 obtain ⟨s1, _⟩ := ca_at XV 1 rfl
 obtain ⟨s2, _⟩ := ca_at XV 2 rfl
 have sx := XV.1
 clear hF hz XV
 go_enter Tryz.func17, Tryz.ntmps17
 go_wp2_with fail
 refine CF.out.mono ?_
 rintro e w1 ⟨v, rfl, hO, hb⟩
 have R1 := hid (rdEras_own hO)
 obtain ⟨ca, cc, rfl⟩ := owns_shape0 hO
 have CAP := hid (ownEras_cap hO)
 have B1 : Hid (Below w.heap.size w w1) := BV.out.trans (hb.mono BV.out.size)
 clear hO hb CF s0 s1 s2 sx
 by_cases hq : F = 0
 case neg =>
  have hq2 : (F == 0) = false := by simp [hq]
  have E1 : Hid ((if F = 0 then endsE z.eras else []) = []) := by show _ = _; rw [if_neg hq]
  go_wp2
  refine bodyPost_ret (v := .tuple #[.slice none 0 0, .int .i64 F]) (by simp [results, Tryz.results17, go_sem]) rfl ⟨_, rfl, World.ownsRow_nil _ _ _ _, B1.out.alloc B1.out.size _⟩
 subst hq
 obtain ⟨hl, hok⟩ := HZ.out rfl
 have CE := hid (fun W hW => ends_any ⟨z, ca, cc⟩ W (rd_below R1.out hW) hl CAP.out hok)
 have E1 : Hid ((if (0 : Int) = 0 then endsE z.eras else []) = endsE z.eras) := by show _ = _; rw [if_pos rfl]
 clear HZ hl hok
 go_wp2_with fail
 refine (CE.out _ ((Below.refl w1.heap.size w1).alloc (Nat.le_refl _) _)).mono ?_
 rintro e w2 ⟨v2, rfl, hO2, hb2⟩
 have HO2 := hid hO2
 have B2 : Hid (Below w.heap.size w w2) := B1.out.trans ((((Below.refl w1.heap.size w1).alloc (Nat.le_refl _) _).trans (hb2.mono (by simp))).mono B1.out.size)
 have S2 := hid B1.out.size
 clear hO2 hb2 CE
 go_wp2
 refine bodyPost_ret (v := .tuple #[v2, .int .i64 0]) (by simp [results, Tryz.results17, go_sem]) rfl ⟨v2, rfl, owns_base HO2.out (by have := S2.out; simp; omega), B2.out⟩
end Go.Proofs.YtkhlkohlccndgaaGreat
namespace Go.Proofs.YtkhlkohlccndgaaGreat
open Go.RowKit

end Go.Proofs.YtkhlkohlccndgaaGreat
namespace Go.Proofs.YtkhlkohlccndgaaGreat
open Go.RowKit

theorem least_any (w : World) : Calls Tryz.prog 23 #[] w fun e w' => e = .returned (.int .i64 (-62135596800)) ∧ Below w.heap.size w w' := by
 go_enter Tryz.func23, Tryz.ntmps23
 go_wp2_with fail
 refine (first_any _).mono ?_
 rintro e w1 ⟨rfl, hb⟩
 go_wp2
 go_ret
 exact ⟨rfl, hb⟩
theorem most_any (w : World) : Calls Tryz.prog 24 #[] w fun e w' => e = .returned (.int .i64 253402300799) ∧ Below w.heap.size w w' := by
 go_enter Tryz.func24, Tryz.ntmps24
 go_wp2_with fail
 refine (last_any _).mono ?_
 rintro e w1 ⟨rfl, hb⟩
 go_wp2
 go_ret
 exact ⟨rfl, hb⟩
end Go.Proofs.YtkhlkohlccndgaaGreat

namespace Go.Proofs.YtkhlkohlccndgaaGreat
open Go.RowKit

def nameB (l : Tx.Bs) : Bool := !l.isEmpty && decide (l.length ≤ 24) && Sx.plainB l
theorem pInYears_is (n : Int) (w : World) {b : Bool} (h : Tb.inYears n = b) :
  Calls Tryz.prog 47 #[.int .i64 n] w fun e w' => e = .returned (.bool b) ∧ w' = w := by
 have H : Hid (b = decide ((-62135596800 : Int) ≤ n ∧ n ≤ 253402300799)) := h.symm
 clear h
 have h5 : n < -62135596800 ∨ (-62135596800 ≤ n ∧ n ≤ 253402300799) ∨ (-62135596800 ≤ n ∧ 253402300799 < n) := by omega
 rcases h5 with h1 | ⟨h1, h2⟩ | ⟨h1, h2⟩
 all_goals
  go_enter Tryz.func47, Tryz.ntmps47
  go_wp2
  go_ret
  exact ⟨ret_bool (by rw [H.out, Bool.eq_iff_iff]; simp only [Bool.or_eq_true, Bool.and_eq_true, decide_eq_true_eq, Bool.false_eq_true, iff_false, false_iff, iff_true, true_iff]; omega), rfl⟩
end Go.Proofs.YtkhlkohlccndgaaGreat
namespace Go.Proofs.YtkhlkohlccndgaaGreat
open Go.RowKit Go.Shelf
attribute [local go_sem] Oper.semAt_some
attribute [local go_sem ↓] Go.wp_at_zero Go.wp_at_succ

/- the era at a time, and what stands there -/
def eraAt (z : Sx.Zn) (at_ : Int) : Sx.Er := (z.eras.find? fun x => x.opn || decide (at_ < endAt x)).getD zeroE
def localE (rs : List Sx.Rl) (z : Sx.Zn) (at_ : Int) : Tb.Lc := ⟨(eraAt z at_).shift + (savedT rs (eraAt z at_) at_).save, (savedT rs (eraAt z at_) at_).save, nameE (eraAt z at_).format (savedT rs (eraAt z at_) at_).save (savedT rs (eraAt z at_) at_).letter⟩
def atE (F at_ : Int) : Int := if F ≠ 0 then F else if Tb.inYears at_ = true then 0 else 3
def atL (F at_ : Int) (rs : List Sx.Rl) (z : Sx.Zn) : Tb.Lc := if atE F at_ = 0 then localE rs z at_ else lc0
/- what At leans on in a zone that is found -/
structure AtOk (rs : List Sx.Rl) (z : Sx.Zn) (at_ : Int) : Prop where
 few : z.eras.length ≤ 10000
 ok : ∀ e ∈ z.eras, e.opn = true ∨ EndOk e
 times : (Sx.times rs (eraAt z at_).rules (eraAt z at_).shift).length ≤ 10000
 fmt : (eraAt z at_).format.length ≤ 1000000
 let_ : (savedT rs (eraAt z at_) at_).letter.length ≤ 1000000
 sh : -1000000000000 ≤ (eraAt z at_).shift ∧ (eraAt z at_).shift ≤ 1000000000000
 sv : -1000000000000 ≤ (savedT rs (eraAt z at_) at_).save ∧ (savedT rs (eraAt z at_) at_).save ≤ 1000000000000
theorem at_keep {M N k : Nat} {y : Sx.Er} {r a v : Value} {W : World} (h : EraH M y W ∧ W.cell? ⟨N, 0, none⟩ = some r ∧ W.cell? ⟨N + 1, 0, none⟩ = some a) (hn : ¬ M = N + 1 + 1) :
  EraH M y (W.setCell ⟨N + 1 + 1, k, none⟩ v) ∧ (W.setCell ⟨N + 1 + 1, k, none⟩ v).cell? ⟨N, 0, none⟩ = some r ∧ (W.setCell ⟨N + 1 + 1, k, none⟩ v).cell? ⟨N + 1, 0, none⟩ = some a := by
 have e : ∀ b j, ¬ b = N + 1 + 1 → (W.setCell ⟨N + 1 + 1, k, none⟩ v).cell? ⟨b, j, none⟩ = W.cell? ⟨b, j, none⟩ := fun b j hb => World.cell?_of_block (Below.heap_setCell _ _ _ _ hb)
 obtain ⟨⟨b0, b1, b2, b3, b4, b5, b6, b7, b8, b9⟩, hr, ha⟩ := h
 exact ⟨⟨(e M 0 hn).trans b0, (e M 1 hn).trans b1, (e M 2 hn).trans b2, (e M 3 hn).trans b3, (e M 4 hn).trans b4, (e M 5 hn).trans b5, (e M 6 hn).trans b6, (e M 7 hn).trans b7, (e M 8 hn).trans b8, (e M 9 hn).trans b9⟩, (e N 0 (by omega)).trans hr, (e (N + 1) 0 (by omega)).trans ha⟩
theorem at_seq (nm : Tx.Bs) (at_ m : Int) (rs : List Sx.Rl) (z : Sx.Zn) (F : Int) (ra za la : Option Addr) (n2 n3 rcap zcap lcap : Nat) (w : World) (h1 : RdRules w (.slice ra rs.length rcap) rs) (hs : ∀ r ∈ rs, r.name.length ≤ maxLen ∧ r.letter.length ≤ maxLen)
  (hm : w.cell? ⟨0, 0, none⟩ = some (.int .i64 m)) (h0 : 0 < w.heap.size) (hF : FindAt (.agg #[.slice ra rs.length rcap, .slice za n2 zcap, .slice la n3 lcap]) nm F z w) (hz : F = 0 → Tb.inYears at_ = true → AtOk rs z at_) :
  Calls Tryz.prog 15 #[.agg #[.slice ra rs.length rcap, .slice za n2 zcap, .slice la n3 lcap], strV nm, .int .i64 at_] w fun e w' => e = .returned (.tuple #[lcV (atL F at_ rs z), .int .i64 (atE F at_)]) ∧ Below w.heap.size w w' := by
 have HZ := hid hz
 have H1 := hid h1
 have HS := hid hs
 have HM := hid hm
 have H0 := hid h0
 obtain ⟨N, hN⟩ : ∃ N, w.heap.size = N := ⟨_, rfl⟩
 obtain ⟨V, hV⟩ : ∃ V, ((w.alloc (.cells #[.slice ra rs.length rcap, .slice za n2 zcap, .slice la n3 lcap] 26)).alloc (.cells #[.int .i64 at_] 3)).alloc (.cells #[.int .i64 0, .int .i64 0, .string ⟨#[]⟩] 31) = V := ⟨_, rfl⟩
 have XS := ca_alloc (ca_alloc (ca_new w [.slice ra rs.length rcap, .slice za n2 zcap, .slice la n3 lcap] 26) (.cells #[.int .i64 at_] 3)) (.cells #[.int .i64 0, .int .i64 0, .string ⟨#[]⟩] 31)
 have XT := ca_alloc (ca_new (w.alloc (.cells #[.slice ra rs.length rcap, .slice za n2 zcap, .slice la n3 lcap] 26)) [.int .i64 at_] 3) (.cells #[.int .i64 0, .int .i64 0, .string ⟨#[]⟩] 31)
 have XL := ca_new ((w.alloc (.cells #[.slice ra rs.length rcap, .slice za n2 zcap, .slice la n3 lcap] 26)).alloc (.cells #[.int .i64 at_] 3)) [.int .i64 0, .int .i64 0, .string ⟨#[]⟩] 31
 have e1 : ((w.alloc (.cells [.slice ra rs.length rcap, .slice za n2 zcap, .slice la n3 lcap].toArray 26)).alloc (.cells #[.int .i64 at_] 3)).alloc (.cells #[.int .i64 0, .int .i64 0, .string ⟨#[]⟩] 31) = V := hV
 have e2 : ((w.alloc (.cells #[.slice ra rs.length rcap, .slice za n2 zcap, .slice la n3 lcap] 26)).alloc (.cells [.int .i64 at_].toArray 3)).alloc (.cells #[.int .i64 0, .int .i64 0, .string ⟨#[]⟩] 31) = V := hV
 have e3 : ((w.alloc (.cells #[.slice ra rs.length rcap, .slice za n2 zcap, .slice la n3 lcap] 26)).alloc (.cells #[.int .i64 at_] 3)).alloc (.cells [.int .i64 0, .int .i64 0, .string ⟨#[]⟩].toArray 31) = V := hV
 rw [e1, hN] at XS
 rw [e2] at XT
 rw [e3] at XL
 simp only [World.size_alloc, hN] at XT XL
 have BV : Hid (Below N w V) := by show Below _ _ _; rw [← hV]; exact (((Below.refl N w).alloc (by omega) _).alloc (by simp; omega) _).alloc (by simp; omega) _
 have sV := XL.1
 obtain ⟨s0, _⟩ := ca_at XS 0 rfl
 obtain ⟨s1, _⟩ := ca_at XS 1 rfl
 obtain ⟨s2, _⟩ := ca_at XS 2 rfl
 have HXS := hid XS
 have HXT := hid XT
 have HXL := hid XL
 have HNN := hid hN
 have CF := hid (hF V (by rw [hN]; exact BV.out))
 clear XS XT XL e1 e2 e3 h1 hs hm h0 hF hz
 go_enter Tryz.func15, Tryz.ntmps15
 simp only [hN]
 go_wp2_with fail
 refine CF.out.mono ?_
 rintro e w1 ⟨v, rfl, hO, hb⟩
 have R1 := hid (rdEras_own hO)
 obtain ⟨ca, cc, rfl⟩ := owns_shape0 hO
 have CAP := hid (ownEras_cap hO)
 have B1 : Hid (Below N w w1) := BV.out.trans (hb.mono (by omega))
 have S1 := hid (ca_below HXS.out hb)
 have T1 := hid (ca_below HXT.out hb)
 have L1 := hid (ca_below HXL.out hb)
 have h1 := hid (show N ≤ N + 1 + 1 by omega)
 clear hO hb CF s0 s1 s2 sV BV HXS HXT HXL
 obtain ⟨M0, hM0⟩ : ∃ M0, w1.heap.size = M0 := ⟨_, rfl⟩
 obtain ⟨V1, hV1⟩ : ∃ V1, w1.alloc (.cells #[.string ⟨z.name.toArray⟩, .slice ca z.eras.length cc] 44) = V1 := ⟨_, rfl⟩
 have Y1 : Hid (CellsAt V1 M0 [strV z.name, .slice ca z.eras.length cc]) := by show CellsAt _ _ _; rw [← hV1, ← hM0]; exact ca_new w1 [strV z.name, .slice ca z.eras.length cc] 44
 have BV1 : Hid (Below w1.heap.size w1 V1) := by show Below _ _ _; rw [← hV1]; exact (Below.refl w1.heap.size w1).alloc (Nat.le_refl _) _
 have HM0 := hid hM0
 have LV := hid (ca_below L1.out BV1.out)
 have TV := hid (ca_below T1.out BV1.out)
 have SV1 := hid (ca_below S1.out BV1.out)
 have BN : Hid (Below N w V1) := B1.out.trans (BV1.out.mono (by have := B1.out.size; rw [HNN.out] at this; exact this))
 obtain ⟨l0, g0⟩ := ca_at LV.out 0 rfl
 obtain ⟨l1, g1⟩ := ca_at LV.out 1 rfl
 obtain ⟨l2, g2⟩ := ca_at LV.out 2 rfl
 have sL := LV.out.1
 by_cases hq : F = 0
 case neg =>
  have hq2 : (F == 0) = false := by simp [hq]
  have E1 : Hid (atE F at_ = F) := by show _ = _; unfold atE; rw [if_pos hq]
  have E2 : Hid (atL F at_ rs z = lc0) := by show _ = _; unfold atL; rw [E1.out, if_neg hq]
  have HQ := hid hq
  have h2 := hid (below_put (below_put (below_put BN.out h1.out 0 (.int .i64 0)) h1.out 1 (.int .i64 0)) h1.out 2 (.string ⟨#[]⟩))
  go_wp2
  refine bodyPost_ret (v := .tuple #[lcV lc0, .int .i64 F]) (by simp [results, Tryz.results15, go_sem, lc0, *]) rfl ⟨by rw [E1.out, E2.out], h2.out⟩
 subst hq
 obtain ⟨q, hq⟩ : ∃ q, Tb.inYears at_ = q := ⟨_, rfl⟩
 have HQ := hid hq
 cases q
 case false =>
  have E1 : Hid (atE 0 at_ = 3) := by show _ = _; unfold atE; rw [hq]; rfl
  have E2 : Hid (atL 0 at_ rs z = lc0) := by show _ = _; unfold atL; rw [E1.out]; rfl
  clear hq
  have CY := hid (pInYears_is at_ V1 HQ.out)
  obtain ⟨t0, _⟩ := ca_at TV.out 0 rfl
  have sT := TV.out.1
  have h2 := hid (below_put (below_put (below_put BN.out h1.out 0 (.int .i64 0)) h1.out 1 (.int .i64 0)) h1.out 2 (.string ⟨#[]⟩))
  go_wp2_with fail
  refine CY.out.mono ?_
  rintro e w2 ⟨rfl, rfl⟩
  clear CY
  go_wp2
  refine bodyPost_ret (v := .tuple #[lcV lc0, .int .i64 3]) (by simp [results, Tryz.results15, go_sem, lc0, *]) rfl ⟨by rw [E1.out, E2.out], h2.out⟩
 have AO := hid (HZ.out rfl hq)
 have E1 : Hid (atE 0 at_ = 0) := by show _ = _; unfold atE; rw [hq]; rfl
 have E2 : Hid (atL 0 at_ rs z = localE rs z at_) := by show _ = _; unfold atL; rw [E1.out]; rfl
 have CY := hid (pInYears_is at_ V1 HQ.out)
 clear HZ hq
 obtain ⟨t0, _⟩ := ca_at TV.out 0 rfl
 have sT := TV.out.1
 obtain ⟨z0, _⟩ := ca_at Y1.out 0 rfl
 obtain ⟨z1, _⟩ := ca_at Y1.out 1 rfl
 have sZ := Y1.out.1
 go_wp2_with fail
 refine CY.out.mono ?_
 rintro e w2 ⟨rfl, rfl⟩
 clear CY
 obtain ⟨K0, hK0⟩ : ∃ K0, w2.heap.size = K0 := ⟨_, rfl⟩
 obtain ⟨U2, hU2⟩ : ∃ U2, (w2.alloc (.cells #[strV z.name, .slice ca z.eras.length cc] 44)).alloc (.cells #[.slice (some ⟨K0, 0, none⟩) 1 1] 23) = U2 := ⟨_, rfl⟩
 have uS : U2.heap.size = K0 + 2 := by rw [← hU2]; simp [hK0]
 have CAz := ca_alloc (ca_new w2 [strV z.name, .slice ca z.eras.length cc] 44) (.cells #[.slice (some ⟨K0, 0, none⟩) 1 1] 23)
 have CAs := ca_new (w2.alloc (.cells #[strV z.name, .slice ca z.eras.length cc] 44)) [.slice (some ⟨K0, 0, none⟩) 1 1] 23
 have eu1 : (w2.alloc (.cells [strV z.name, .slice ca z.eras.length cc].toArray 44)).alloc (.cells #[.slice (some ⟨K0, 0, none⟩) 1 1] 23) = U2 := hU2
 have eu2 : (w2.alloc (.cells #[strV z.name, .slice ca z.eras.length cc] 44)).alloc (.cells [.slice (some ⟨K0, 0, none⟩) 1 1].toArray 23) = U2 := hU2
 rw [eu1, hK0] at CAz
 rw [eu2] at CAs
 simp only [World.size_alloc, hK0] at CAs
 have BU : Hid (Below w2.heap.size w2 U2) := by show Below _ _ _; rw [← hU2]; exact ((Below.refl _ w2).alloc (Nat.le_refl _) _).alloc (by simp) _
 have RZ : RdZv U2 (.slice (some ⟨K0, 0, none⟩) [(⟨z, ca, cc⟩ : ZV)].length 1) [z] [⟨z, ca, cc⟩] := by
  refine ⟨rfl, ⟨some ⟨K0, 0, none⟩, 1, rfl, fun _ => ⟨K0, 0, rfl, CAz.1, ?_⟩⟩, ?_, ?_⟩
  ·intro i y hy k u hu
   match i, hy with
   | 0, hy =>
     simp at hy; subst hy
     have := (ca_at CAz k hu).1
     simpa using this
  ·intro p hp
   simp at hp; subst hp
   exact rd_below R1.out (BV1.out.trans (BU.out.mono BV1.out.size))
  ·intro p hp
   simp at hp; subst hp
   exact CAP.out
 have eA : ∀ args w, (callFunc 50 args).run Tryz.prog w = .ok (.enter 50 args) w := enters_of Tryz.func50 (by kernel_rfl) rfl
 have eE : ∀ args w, (callFunc 110 args).run Tryz.prog w = .ok (.enter 110 args) w := enters_of Tryz.func110 (by kernel_rfl) rfl
 have TU := ca_below TV.out BU.out
 have CE := hid (firstE_any 110 50 #[.pointer (some ⟨K0 + 1, 0, none⟩)] #[.pointer (some ⟨N + 1, 0, none⟩)] (fun x => x.opn || decide (at_ < endAt x)) (erasOf [⟨z, ca, cc⟩]) U2 eE eA
  (fun w1 hw1 => eras_seq 3 (K0 + 1) (by omega) [⟨z, ca, cc⟩] [z] (some ⟨K0, 0, none⟩) 1 U2 w1 RZ (by simp) (fun p hp => by simp at hp; subst hp; exact AO.out.few) ((hw1.cell (p := ⟨K0 + 1, 0, none⟩) CAs.1).trans (ca_at CAs 0 rfl).1) (Nat.lt_of_lt_of_le CAs.1 hw1.size) hw1)
  (fun x hx W' hW' => at1_any x (N + 1) at_ W' (Nat.lt_of_lt_of_le TU.1 hW'.size) ((hW'.cell (p := ⟨N + 1, 0, none⟩) TU.1).trans (ca_at TU 0 rfl).1) (AO.out.ok x (by simpa [erasOf] using hx))))
 have hU3 : (w2.alloc (.cells #[.string ⟨z.name.toArray⟩, .slice ca z.eras.length cc] 44)).alloc (.cells #[.slice (some ⟨K0, 0, none⟩) 1 1] 23) = U2 := hU2
 have HK0 := hid hK0
 clear eA eE RZ CAz CAs eu1 eu2 TU
 go_wp2_with fail
 refine (eras_any _ _ _ _).mono ?_
 rintro e w3 ⟨rfl, rfl⟩
 go_wp2_with fail
 refine CE.out.mono ?_
 rintro e w4 ⟨rfl, hb⟩
 have HB4 : Hid (Below w2.heap.size w2 w4) := BU.out.trans (hb.mono BU.out.size)
 have ey : eraAt z at_ = ((erasOf [⟨z, ca, cc⟩]).find? fun x => x.opn || decide (at_ < endAt x)).getD zeroE := by simp [eraAt, erasOf]
 rw [← ey]
 obtain ⟨A, hA⟩ : ∃ A, ((erasOf [⟨z, ca, cc⟩]).any fun x => x.opn || decide (at_ < endAt x)) = A := ⟨_, rfl⟩
 rw [hA]
 obtain ⟨y, hy⟩ : ∃ y, eraAt z at_ = y := ⟨_, rfl⟩
 obtain ⟨T, hT⟩ : ∃ T, savedT rs y at_ = T := ⟨_, rfl⟩
 obtain ⟨a1, a2, a3, a4, a5, a6, a7⟩ := AO.out
 have EL : Hid (localE rs z at_ = ⟨y.shift + T.save, T.save, nameE y.format T.save T.letter⟩) := by show _ = _; unfold localE; rw [hy, hT]
 rw [hy] at a3 a4 a5 a6 a7 ⊢
 rw [hT] at a5 a7
 obtain ⟨M, hM⟩ : ∃ M, w4.heap.size = M := ⟨_, rfl⟩
 obtain ⟨V3, hV3⟩ : ∃ V3, w4.alloc (.cells (eraCells y).toArray 67) = V3 := ⟨_, rfl⟩
 have XE := ca_new w4 (eraCells y) 67
 rw [hV3, hM] at XE
 have B34 : Below w4.heap.size w4 V3 := by rw [← hV3]; exact (Below.refl w4.heap.size w4).alloc (Nat.le_refl _) _
 have B3 : Hid (Below w2.heap.size w2 V3) := HB4.out.trans (B34.mono HB4.out.size)
 have BN3 : Hid (Below N w V3) := BN.out.trans (B3.out.mono (by have := SV1.out.1; omega))
 have S3 := ca_below SV1.out B3.out
 have T3 := ca_below TV.out B3.out
 have HL3 := hid (ca_below LV.out B3.out)
 have sl3 := HL3.out.1
 have sm3 := XE.1
 have sM : w2.heap.size ≤ M := by have := HB4.out.size; omega
 have sL2 := LV.out.1
 have SX := hid (show EraH M y V3 ∧ V3.cell? ⟨N, 0, none⟩ = some (.slice ra rs.length rcap) ∧ V3.cell? ⟨N + 1, 0, none⟩ = some (.int .i64 at_) from ⟨eraH_of XE, (ca_at S3 0 rfl).1, (ca_at T3 0 rfl).1⟩)
 have KS : Hid (∀ w7, Below V3.heap.size V3 w7 → EraH M y w7 ∧ w7.cell? ⟨N, 0, none⟩ = some (.slice ra rs.length rcap) ∧ w7.cell? ⟨N + 1, 0, none⟩ = some (.int .i64 at_)) := fun w7 hb => ⟨eraH_below SX.out.1 hb sm3, (hb.cell (p := ⟨N, 0, none⟩) (by show N < V3.heap.size; omega)).trans SX.out.2.1, (hb.cell (p := ⟨N + 1, 0, none⟩) (by show N + 1 < V3.heap.size; omega)).trans SX.out.2.2⟩
 have KP : Hid (∀ w8, (EraH M y w8 ∧ w8.cell? ⟨N, 0, none⟩ = some (.slice ra rs.length rcap) ∧ w8.cell? ⟨N + 1, 0, none⟩ = some (.int .i64 at_)) → ∀ v0 v1 v2, (fun w' => EraH M y w' ∧ w'.cell? ⟨N, 0, none⟩ = some (.slice ra rs.length rcap) ∧ w'.cell? ⟨N + 1, 0, none⟩ = some (.int .i64 at_)) (((w8.setCell ⟨N + 1 + 1, 0, none⟩ v0).setCell ⟨N + 1 + 1, 1, none⟩ v1).setCell ⟨N + 1 + 1, 2, none⟩ v2)) := by
  intro w8 h8 v0 v1 v2
  have nM : ¬ M = N + 1 + 1 := by omega
  exact at_keep (at_keep (at_keep h8 nM) nM) nM
 have CS0 := savedAt_any rs (.slice ra rs.length rcap) y at_ V3.drew (rd_below H1.out (by rw [HNN.out]; exact ⟨BN3.out.os, BN3.out.tape, BN3.out.output, BN3.out.size, BN3.out.block⟩)) HS.out a3
 rw [hT] at CS0
 have CS := hid CS0
 have CL := hid (fun (w7 : World) (hb : Below V3.heap.size V3 w7) => local_any y T m w7 a4 a5 ((hb.cell (p := ⟨0, 0, none⟩) (by show 0 < V3.heap.size; omega)).trans ((BN3.out.cell (p := ⟨0, 0, none⟩) (by show 0 < N; have := H0.out; omega)).trans HM.out)) (Nat.lt_of_lt_of_le (by omega) hb.size) a6 a7)
 have hV3x : w4.alloc (.cells #[.int .i64 y.shift, strV y.rules, .int .i64 y.save, strV y.format, .bool y.opn, .int .i64 y.uy, .int .i64 y.um, .int .i64 y.ud, .int .i64 y.uat, .int .i64 y.uclock] 67) = V3 := hV3
 have sz3 := hid (show N ≤ V3.heap.size by omega)
 clear CE hb HB4 B34 hA hy hT ey AO CS0 XE S3 T3 BU hU2 hU3 a1 a2 a3 a4 a5 a6 a7 l0 g0 l1 g1 l2 g2 sL sL2 z0 z1 sZ t0 sT
 have xx := SX.out
 obtain ⟨⟨x0, x1, x2, x3, x4, x5, x6, x7, x8, x9⟩, xr, xa⟩ := xx
 go_wp2_with fail
 refine wp_region_held_drew (S := fun w' => EraH M y w' ∧ w'.cell? ⟨N, 0, none⟩ = some (.slice ra rs.length rcap) ∧ w'.cell? ⟨N + 1, 0, none⟩ = some (.int .i64 at_)) (by kernel_rfl) SX.out (fun hHeld => ?_)
 refine tkH 0 ?vz1 rfl ?z1 ?_
 case z1 => (intro w hSw; (obtain ⟨⟨s0, s1, s2, s3, s4, s5, s6, s7, s8, s9⟩, sr, sa⟩ := hSw); go_simp; try with_reducible rfl)
 try simp only [Act.put, j]
 refine tkH 1 ?vz2 rfl ?z2 ?_
 case z2 => (intro w hSw; (obtain ⟨⟨s0, s1, s2, s3, s4, s5, s6, s7, s8, s9⟩, sr, sa⟩ := hSw); go_simp; try with_reducible rfl)
 try simp only [Act.put, j]
 refine tkH 2 ?vz3 rfl ?z3 ?_
 case z3 => (intro w hSw; (obtain ⟨⟨s0, s1, s2, s3, s4, s5, s6, s7, s8, s9⟩, sr, sa⟩ := hSw); go_simp; try with_reducible rfl)
 try simp only [Act.put, j]
 refine tkH 3 ?vz4 rfl ?z4 ?_
 case z4 => (intro w hSw; (obtain ⟨⟨s0, s1, s2, s3, s4, s5, s6, s7, s8, s9⟩, sr, sa⟩ := hSw); go_simp; try with_reducible rfl)
 try simp only [Act.put, j]
 refine tkH 4 ?vz5 rfl ?z5 ?_
 case z5 => (intro w hSw; (obtain ⟨⟨s0, s1, s2, s3, s4, s5, s6, s7, s8, s9⟩, sr, sa⟩ := hSw); go_simp; try with_reducible rfl)
 try simp only [Act.put, j]
 refine rdH 5 rfl fun K hK => ?_
 go_simp
 refine CS.out.mono ?_
 rintro e w7 ⟨rfl, hb7⟩
 have hb7' := below_drew1 hb7
 have S7 := KS.out w7 hb7'
 have CL7 := hid (CL.out w7 hb7')
 refine hK.out _ _ ?_ (fun hHeld => ?_)
 ·exact S7
 clear hK K
 try simp only [Act.put, j]
 refine rdH 6 rfl fun K hK => ?_
 go_simp
 refine CL7.out.mono ?_
 rintro e w8 ⟨rfl, hb8⟩
 have hb78 := hb7'.trans (hb8.mono hb7'.size)
 have S8 := KS.out w8 hb78
 have L8 := ca_below HL3.out hb78
 obtain ⟨l0, g0⟩ := ca_at L8 0 rfl
 obtain ⟨l1, g1⟩ := ca_at L8 1 rfl
 obtain ⟨l2, g2⟩ := ca_at L8 2 rfl
 have sL := L8.1
 refine hK.out _ _ ?_ (fun hHeld => ?_)
 ·exact S8
 clear hK K
 try simp only [Act.put, j]
 refine rdH 7 rfl fun K hK => ?_
 go_simp
 have S9 := KP.out w8 S8 (.int .i64 (y.shift + T.save)) (.int .i64 T.save) (.string ⟨(nameE y.format T.save T.letter).toArray⟩)
 refine hK.out _ _ ?_ (fun hHeld => ?_)
 ·exact S9
 clear hK K
 try simp only [Act.put, j]
 refine tkH 8 ?vz6 rfl ?z6 ?_
 case z6 => (intro w hSw; (obtain ⟨⟨s0, s1, s2, s3, s4, s5, s6, s7, s8, s9⟩, sr, sa⟩ := hSw); go_simp; try with_reducible rfl)
 try simp only [Act.put, j]
 refine wpAnyH_done (by kernel_rfl) ?_ _
 have b8 : Below N w w8 := BN3.out.trans (hb78.mono sz3.out)
 have h2 := hid (below_put (below_put (below_put b8 h1.out 0 (.int .i64 (y.shift + T.save))) h1.out 1 (.int .i64 T.save)) h1.out 2 (.string ⟨(nameE y.format T.save T.letter).toArray⟩))
 clear hb78 hb8 hb7 hb7' S7 S8 S9 b8
 go_wp2
 refine bodyPost_ret (v := .tuple #[lcV ⟨y.shift + T.save, T.save, nameE y.format T.save T.letter⟩, .int .i64 0]) (by simp [results, Tryz.results15, go_sem, *]) rfl ⟨by rw [E1.out, E2.out, EL.out], h2.out⟩
end Go.Proofs.YtkhlkohlccndgaaGreat
namespace Go.Proofs.YtkhlkohlccndgaaGreat.Sx
theorem timesFrom_mem {sh : Int} : ∀ {l : List Tn} {s : Int} {x : Tm}, x ∈ timesFrom sh s l → ∃ t ∈ l, x.letter = t.letter ∧ x.save = t.save
 | [], _, _, h => by cases h
 | t :: r, s, x, h => by
   rcases List.mem_cons.1 h with rfl | h
   ·exact ⟨t, by simp, rfl, rfl⟩
   ·obtain ⟨u, hu, q⟩ := timesFrom_mem h
    exact ⟨u, List.mem_cons_of_mem _ hu, q⟩
theorem turnsOf_memZ {rs : List Rl} {nm : Tx.Bs} {t : Tn} (h : t ∈ turnsOf rs nm) : ∃ r ∈ rs, t.letter = r.letter ∧ t.save = r.save := by
 unfold turnsOf at h
 obtain ⟨r, hr, q⟩ := List.mem_flatMap.1 h
 obtain ⟨k, _, rfl⟩ := List.mem_map.1 q
 exact ⟨r, (List.mem_filter.1 hr).1, rfl, rfl⟩
theorem times_fewZ (rs : List Rl) (nm : Tx.Bs) (sh : Int) : (times rs nm sh).length ≤ 1000 := by
 unfold times
 split
 ·rename_i h
  rw [timesFrom_len, (isort_perm _).length_eq]
  by_cases q : 1000 < (turnsOf rs nm).length
  ·exfalso
   unfold timesE at h
   rw [if_pos q] at h
   split at h
   ·rename_i h2; exact h2 h
   ·split at h
    ·omega
    ·split at h
     ·omega
     ·split at h <;> omega
  ·omega
 ·simp
theorem times_memZ {rs : List Rl} {nm : Tx.Bs} {sh : Int} {x : Tm} (h : x ∈ times rs nm sh) : ∃ r ∈ rs, x.letter = r.letter ∧ x.save = r.save := by
 unfold times at h
 split at h
 ·obtain ⟨t, ht, e1, e2⟩ := timesFrom_mem h
  obtain ⟨r, hr, e3, e4⟩ := turnsOf_memZ ((isort_perm _).mem_iff.1 ht)
  exact ⟨r, hr, e1.trans e3, e2.trans e4⟩
 ·cases h
end Go.Proofs.YtkhlkohlccndgaaGreat.Sx
namespace Go.Proofs.YtkhlkohlccndgaaGreat
open Go.RowKit Go.Shelf
theorem lastT_mem (p : Sx.Tm → Bool) (l : List Sx.Tm) : lastT p l = zeroT ∨ lastT p l ∈ l := by
 have aux : ∀ (l : List Sx.Tm) (a : Sx.Tm), l.foldl (fun a x => if p x = true then x else a) a = a ∨ l.foldl (fun a x => if p x = true then x else a) a ∈ l := by
  intro l
  induction l with
  | nil => intro a; exact .inl rfl
  | cons x r ih =>
    intro a
    rw [List.foldl_cons]
    rcases ih (if p x = true then x else a) with q | q
    ·rw [q]
     split
     ·exact .inr (by simp)
     ·exact .inl rfl
    ·exact .inr (List.mem_cons_of_mem _ q)
 exact aux l zeroT
theorem errs_zero {c : Nat → Int} (h : errsOf c = 0) : ∀ i < 5, c i = 0 := by
 unfold errsOf at h
 split at h
 ·rename_i q; exact absurd h q
 rename_i q0
 split at h
 ·rename_i q; exact absurd h q
 rename_i q1
 split at h
 ·rename_i q; exact absurd h q
 rename_i q2
 split at h
 ·rename_i q; exact absurd h q
 rename_i q3
 simp at q0 q1 q2 q3
 intro i hi
 rcases (show i = 0 ∨ i = 1 ∨ i = 2 ∨ i = 3 ∨ i = 4 by omega) with rfl | rfl | rfl | rfl | rfl <;> assumption
def zoneF (s : Sx.Sr) (xs : List ZV) (nm : Tx.Bs) : Int := findE (zoneErr s xs) xs s.links nm
def zoneZ (s : Sx.Sr) (xs : List ZV) (nm : Tx.Bs) : Sx.Zn := findZ (zoneErr s xs) xs s.links nm
theorem zoneF_src {s : Sx.Sr} {xs : List ZV} {nm : Tx.Bs} (h : zoneF s xs nm = 0) : zoneErr s xs = 0 ∧ zvHas xs (nameTo s.links nm) = true := by
 unfold zoneF findE at h
 split at h
 ·rename_i q; exact absurd h q
 ·rename_i q
  simp at q
  split at h
  ·rename_i q2; exact ⟨q, q2⟩
  ·cases h
theorem zFind_any (s : Sx.Sr) (xs : List ZV) (ra za la : Option Addr) (rcap zcap lcap : Nat) (m : Int) (nm : Tx.Bs) (w : World) (h : SrcIn s xs ra za la rcap zcap lcap m w) :
  FindAt (.agg #[.slice ra s.rules.length rcap, .slice za xs.length zcap, .slice la s.links.length lcap]) nm (zoneF s xs nm) (zoneZ s xs nm) w := by
 intro W hW
 have g := srcIn_below h hW
 refine find_seq (zoneErr s xs) nm s.zones s.links xs ra za la s.rules.length rcap zcap lcap W g.zv g.links ?_ (fun W' hW' => zCheck_any s xs ra za la rcap zcap lcap m W' (srcIn_below g hW'))
 intro hE
 have ok := Sx.src_okZ (errs_zero hE 0 (by omega))
 obtain ⟨f1, f2, f3, f4⟩ := many_few ok.many
 have hl := rdZv_len h.zv
 exact ⟨by omega, by omega, fun p hp => by have := f4 p.z (zv_mem h.zv hp); omega⟩
/- what a zone that is found is -/
theorem zoneZ_ok {s : Sx.Sr} {xs : List ZV} {v : Value} {w : World} {nm : Tx.Bs} (hz : RdZv w v s.zones xs) (h : zoneF s xs nm = 0) : Sx.SrcOk s ∧ zoneZ s xs nm ∈ s.zones ∧ (zoneZ s xs nm).eras.length ≤ 8 ∧ ∀ e ∈ (zoneZ s xs nm).eras, Sx.EraOk e := by
 obtain ⟨h1, h2⟩ := zoneF_src h
 have ok := Sx.src_okZ (errs_zero h1 0 (by omega))
 obtain ⟨f1, f2, f3, f4⟩ := many_few ok.many
 have e : zoneZ s xs nm = (zvAt xs (nameTo s.links nm)).z := by unfold zoneZ findZ; rw [show findE (zoneErr s xs) xs s.links nm = 0 from h]; rfl
 have hm : zoneZ s xs nm ∈ s.zones := by rw [e]; exact zv_mem hz (zvAt_mem h2)
 exact ⟨ok, hm, f4 _ hm, Sx.zone_eras (ok.zone _ hm)⟩
theorem zEnds_any (s : Sx.Sr) (xs : List ZV) (ra za la : Option Addr) (rcap zcap lcap : Nat) (m : Int) (nm : Tx.Bs) (w : World) (h : SrcIn s xs ra za la rcap zcap lcap m w) :
  Calls Tryz.prog 17 #[.agg #[.slice ra s.rules.length rcap, .slice za xs.length zcap, .slice la s.links.length lcap], strV nm] w fun e w' => ∃ v, e = .returned (.tuple #[v, .int .i64 (zoneF s xs nm)]) ∧ OwnEnds w' w.heap.size v (if zoneF s xs nm = 0 then endsE (zoneZ s xs nm).eras else []) ∧ Below w.heap.size w w' := by
 refine ends_seq nm (zoneZ s xs nm) (zoneF s xs nm) ra za la _ _ _ rcap zcap lcap w (zFind_any s xs ra za la rcap zcap lcap m nm w h) ?_
 intro hF
 obtain ⟨_, _, h3, h4⟩ := zoneZ_ok h.zv hF
 exact ⟨by omega, fun e he => (h4 e he).till⟩
theorem eraAt_in (z : Sx.Zn) (at_ : Int) : eraAt z at_ = zeroE ∨ eraAt z at_ ∈ z.eras := by
 unfold eraAt
 cases hf : z.eras.find? (fun x => x.opn || decide (at_ < endAt x)) with
 | none => exact .inl rfl
 | some y => exact .inr (List.mem_of_find?_eq_some hf)
theorem atOk_of {s : Sx.Sr} {z : Sx.Zn} {at_ : Int} (ok : Sx.SrcOk s) (h8 : z.eras.length ≤ 8) (he : ∀ e ∈ z.eras, Sx.EraOk e) : AtOk s.rules z at_ := by
 have hx : (eraAt z at_).format.length ≤ 24 ∧ (-64800 ≤ (eraAt z at_).shift ∧ (eraAt z at_).shift ≤ 64800) ∧ (0 ≤ (eraAt z at_).save ∧ (eraAt z at_).save ≤ 10800) := by
  rcases eraAt_in z at_ with q | q
  ·rw [q]; simp [zeroE]
  ·have o := he _ q
   have f := o.fmt
   unfold Sx.formatB at f
   simp at f
   exact ⟨f.1.2, ⟨o.sh0, o.sh1⟩, ⟨o.sv0, o.sv1⟩⟩
 have ht : (savedT s.rules (eraAt z at_) at_).letter.length ≤ 24 ∧ (0 ≤ (savedT s.rules (eraAt z at_) at_).save ∧ (savedT s.rules (eraAt z at_) at_).save ≤ 10800) := by
  unfold savedT
  split
  ·exact ⟨by simp, hx.2.2⟩
  ·rcases lastT_mem (fun t => decide (t.at_ ≤ at_)) (Sx.times s.rules (eraAt z at_).rules (eraAt z at_).shift) with q | q
   ·rw [q]; simp [zeroT]
   ·obtain ⟨r, hr, e1, e2⟩ := Sx.times_memZ q
    have hr0 := ok.rule r hr
    have ro := Sx.rule_ok hr0
    rw [e1, e2]
    refine ⟨?_, ro.save⟩
    unfold Sx.ruleE at hr0
    split at hr0
    ·cases hr0
    ·rename_i g
     simp [Sx.lettersB] at g
     exact g.2.2
 have h1 := Sx.times_fewZ s.rules (eraAt z at_).rules (eraAt z at_).shift
 exact ⟨by omega, fun e q => (he e q).till, by omega, by omega, by omega, by omega, by omega⟩
theorem zAt_any (s : Sx.Sr) (xs : List ZV) (ra za la : Option Addr) (rcap zcap lcap : Nat) (m at_ : Int) (nm : Tx.Bs) (w : World) (h : SrcIn s xs ra za la rcap zcap lcap m w) :
  Calls Tryz.prog 15 #[.agg #[.slice ra s.rules.length rcap, .slice za xs.length zcap, .slice la s.links.length lcap], strV nm, .int .i64 at_] w fun e w' => e = .returned (.tuple #[lcV (atL (zoneF s xs nm) at_ s.rules (zoneZ s xs nm)), .int .i64 (atE (zoneF s xs nm) at_)]) ∧ Below w.heap.size w w' := by
 refine at_seq nm at_ m s.rules (zoneZ s xs nm) (zoneF s xs nm) ra za la _ _ rcap zcap lcap w h.rules h.size.rules h.max h.pos (zFind_any s xs ra za la rcap zcap lcap m nm w h) ?_
 intro hF _
 obtain ⟨h1, _, h3, h4⟩ := zoneZ_ok h.zv hF
 exact atOk_of h1 h3 h4
end Go.Proofs.YtkhlkohlccndgaaGreat
namespace Go.Proofs.YtkhlkohlccndgaaGreat
open Go.RowKit Go.Shelf
theorem capZs_own {w : World} {B : Nat} {v : Value} {zs : List Sx.Zn} (h : OwnZones w B v zs) : CapZs w v zs := by
 obtain ⟨ps, hz⟩ := h
 intro i x b o cap hx hv ev hev
 subst hv
 have hrd : Rd 2 zoneCells w (.slice (some ⟨b, o, none⟩) zs.length cap) ps := own_rd (fun _ => rfl) hz.row
 obtain ⟨p, hp⟩ : ∃ p, ps[i]? = some p := ⟨_, List.getElem?_eq_getElem (by rw [hz.len]; exact (List.getElem?_eq_some_iff.1 hx).1)⟩
 obtain ⟨a', cap', e1, h2⟩ := hrd
 obtain ⟨b', o', e2, _, hc⟩ := h2 (by rintro rfl; simp at hp)
 simp only [Value.slice.injEq] at e1
 obtain ⟨rfl, _, _⟩ := e1
 simp only [Option.some.injEq, Addr.mk.injEq] at e2
 obtain ⟨rfl, rfl, _⟩ := e2
 have q := hc i p hp 1 p.2 rfl
 rw [hev] at q
 simp only [Option.some.injEq] at q
 subst q
 have ho := (hz.eras i p x hp hx).2
 obtain ⟨a, c, e⟩ := owns_shape0 ho
 rw [e] at ho
 exact ⟨a, c, e, ownEras_cap ho⟩
theorem srcIn_own {w : World} {B : Nat} {r z l : Value} {s : Sx.Sr} {m : Int} (h : OwnSrc w B r z l s) (hs : SizedS s) (hm : w.cell? ⟨0, 0, none⟩ = some (.int .i64 m)) (h0 : 0 < w.heap.size) :
  ∃ ra za la rcap zcap lcap xs, r = .slice ra s.rules.length rcap ∧ z = .slice za xs.length zcap ∧ l = .slice la s.links.length lcap ∧ xs.map ZV.z = s.zones ∧ SrcIn s xs ra za la rcap zcap lcap m w := by
 obtain ⟨h1, h2, h3⟩ := ownSrc_rd h
 obtain ⟨ra, rcap, rfl⟩ := rd_shape h1
 obtain ⟨za, zcap, rfl⟩ := rdZones_shape h2
 obtain ⟨la, lcap, rfl⟩ := rd_shape h3
 have hc := capZs_own h.zones
 obtain ⟨xs, hx⟩ := rdZv_of h2 hc
 have hl := rdZv_len hx
 rw [← hl] at h2 hc hx ⊢
 exact ⟨ra, za, la, rcap, zcap, lcap, xs, rfl, rfl, rfl, hx.fst, h1, h2, hc, hx, h3, hs, hm, h0⟩
theorem src0_one {xs : List ZV} (h : xs.map ZV.z = src0.zones) : ∃ a c, xs = [⟨⟨townB, [⟨600, [], 0, [76, 77, 84], false, 1880, 1, 1, 0, 2⟩, ⟨3600, euB, 0, [67, 69, 37, 115, 84], true, 0, 0, 0, 0, 0⟩]⟩, a, c⟩] := by
 match xs, h with
 | [⟨z, a, c⟩], h =>
   simp [src0] at h
   exact ⟨a, c, by rw [h]⟩
 | [], h => simp [src0] at h
 | _ :: _ :: _, h => simp [src0] at h
/- what the fixed text's zones answer -/
def oldB : Tx.Bs := [79, 108, 100]
def newB : Tx.Bs := [78, 101, 119]
theorem src0_sizedS : SizedS src0 := by
 refine ⟨src0_sized, ?_, ?_⟩
 ·intro z hz
  simp [src0] at hz
  subst hz
  refine ⟨by simp [townB, maxLen], ?_⟩
  intro x hx
  simp at hx
  rcases hx with rfl | rfl <;> simp [euB, maxLen]
 ·intro l hl
  simp [src0] at hl
  subst hl
  simp [townB, maxLen]
def town0 : Sx.Zn := ⟨townB, [⟨600, [], 0, [76, 77, 84], false, 1880, 1, 1, 0, 2⟩, ⟨3600, euB, 0, [67, 69, 37, 115, 84], true, 0, 0, 0, 0, 0⟩]⟩
theorem err0 (a : Option Addr) (c : Nat) : zoneErr src0 [⟨town0, a, c⟩] = 0 := by kernel_rfl
theorem oldF (a : Option Addr) (c : Nat) : zoneF src0 [⟨town0, a, c⟩] oldB = 0 := by kernel_rfl
theorem oldZ (a : Option Addr) (c : Nat) : zoneZ src0 [⟨town0, a, c⟩] oldB = town0 := by kernel_rfl
theorem townF (a : Option Addr) (c : Nat) : zoneF src0 [⟨town0, a, c⟩] townB = 0 := by kernel_rfl
theorem townZ (a : Option Addr) (c : Nat) : zoneZ src0 [⟨town0, a, c⟩] townB = town0 := by kernel_rfl
theorem newF (a : Option Addr) (c : Nat) : zoneF src0 [⟨town0, a, c⟩] newB = 5 := by kernel_rfl
theorem ends0 : endsE town0.eras = [-2840141400] := by kernel_rfl
theorem at0 : atL 0 1585443600 src0.rules town0 = ⟨7200, 3600, [67, 69, 83, 84]⟩ := by kernel_rfl
theorem at0b : atL 0 1585443599 src0.rules town0 = ⟨3600, 0, [67, 69, 84]⟩ := by kernel_rfl
theorem atE0 : atE 0 1585443600 = 0 ∧ atE 0 1585443599 = 0 ∧ atE 5 0 = 5 := ⟨by kernel_rfl, by kernel_rfl, by kernel_rfl⟩
theorem src0_xs {xs : List ZV} (h : xs.map ZV.z = src0.zones) : ∃ a c, xs = [⟨town0, a, c⟩] := src0_one h
/- what zone's functions answer of the parsed text -/
structure Made (w : World) (r z l : Value) : Prop where
 src : ∃ B, OwnSrc w B r z l src0
 max : ∃ m, w.cell? ⟨0, 0, none⟩ = some (.int .i64 m)
 pos : 0 < w.heap.size
theorem made_in {w : World} {r z l : Value} (h : Made w r z l) : ∃ ra za la rcap zcap lcap a c m, r = .slice ra src0.rules.length rcap ∧ z = .slice za [(⟨town0, a, c⟩ : ZV)].length zcap ∧ l = .slice la src0.links.length lcap ∧ SrcIn src0 [⟨town0, a, c⟩] ra za la rcap zcap lcap m w := by
 obtain ⟨⟨B, hB⟩, ⟨m, hm⟩, h0⟩ := h
 obtain ⟨ra, za, la, rcap, zcap, lcap, xs, rfl, rfl, rfl, hx, hs⟩ := srcIn_own hB src0_sizedS hm h0
 obtain ⟨a, c, rfl⟩ := src0_xs hx
 exact ⟨ra, za, la, rcap, zcap, lcap, a, c, m, rfl, rfl, rfl, hs⟩
theorem zFind0 {w : World} {r z l : Value} (h : Made w r z l) : Calls Tryz.prog 16 #[.agg #[r, z, l], strV oldB] w fun e w' => ∃ v, e = .returned (.tuple #[.agg #[strV townB, v], .int .i64 0]) ∧ OwnEras w' w.heap.size v town0.eras ∧ Below w.heap.size w w' := by
 obtain ⟨ra, za, la, rcap, zcap, lcap, a, c, m, rfl, rfl, rfl, hs⟩ := made_in h
 have q := zFind_any src0 [⟨town0, a, c⟩] ra za la rcap zcap lcap m oldB w hs w (Below.refl _ _)
 rw [oldF, oldZ] at q
 exact q
theorem zEnds0 {w : World} {r z l : Value} (h : Made w r z l) : Calls Tryz.prog 17 #[.agg #[r, z, l], strV townB] w fun e w' => ∃ v, e = .returned (.tuple #[v, .int .i64 0]) ∧ OwnEnds w' w.heap.size v [-2840141400] ∧ Below w.heap.size w w' := by
 obtain ⟨ra, za, la, rcap, zcap, lcap, a, c, m, rfl, rfl, rfl, hs⟩ := made_in h
 have q := zEnds_any src0 [⟨town0, a, c⟩] ra za la rcap zcap lcap m townB w hs
 rw [townF, townZ, ends0] at q
 exact q
theorem zAt0 {w : World} {r z l : Value} (h : Made w r z l) : Calls Tryz.prog 15 #[.agg #[r, z, l], strV oldB, .int .i64 1585443600] w fun e w' => e = .returned (.tuple #[lcV ⟨7200, 3600, [67, 69, 83, 84]⟩, .int .i64 0]) ∧ Below w.heap.size w w' := by
 obtain ⟨ra, za, la, rcap, zcap, lcap, a, c, m, rfl, rfl, rfl, hs⟩ := made_in h
 have q := zAt_any src0 [⟨town0, a, c⟩] ra za la rcap zcap lcap m 1585443600 oldB w hs
 rw [oldF, oldZ, at0, atE0.1] at q
 exact q
theorem zAt0b {w : World} {r z l : Value} (h : Made w r z l) : Calls Tryz.prog 15 #[.agg #[r, z, l], strV oldB, .int .i64 1585443599] w fun e w' => e = .returned (.tuple #[lcV ⟨3600, 0, [67, 69, 84]⟩, .int .i64 0]) ∧ Below w.heap.size w w' := by
 obtain ⟨ra, za, la, rcap, zcap, lcap, a, c, m, rfl, rfl, rfl, hs⟩ := made_in h
 have q := zAt_any src0 [⟨town0, a, c⟩] ra za la rcap zcap lcap m 1585443599 oldB w hs
 rw [oldF, oldZ, at0b, atE0.2.1] at q
 exact q
theorem zAtN {w : World} {r z l : Value} (h : Made w r z l) : Calls Tryz.prog 15 #[.agg #[r, z, l], strV newB, .int .i64 0] w fun e w' => e = .returned (.tuple #[lcV lc0, .int .i64 5]) ∧ Below w.heap.size w w' := by
 obtain ⟨ra, za, la, rcap, zcap, lcap, a, c, m, rfl, rfl, rfl, hs⟩ := made_in h
 have q := zAt_any src0 [⟨town0, a, c⟩] ra za la rcap zcap lcap m 0 newB w hs
 rw [newF, atE0.2.2] at q
 exact q
theorem zCheck0 {w : World} {r z l : Value} (h : Made w r z l) : Calls Tryz.prog 14 #[.agg #[r, z, l]] w fun e w' => e = .returned (.int .i64 0) ∧ Below w.heap.size w w' := by
 obtain ⟨ra, za, la, rcap, zcap, lcap, a, c, m, rfl, rfl, rfl, hs⟩ := made_in h
 have q := zCheck_any src0 [⟨town0, a, c⟩] ra za la rcap zcap lcap m w hs
 rw [err0] at q
 exact q
end Go.Proofs.YtkhlkohlccndgaaGreat
namespace Go.Proofs.YtkhlkohlccndgaaGreat
open Go.RowKit Go.Shelf

theorem made_of {w w0 W w1 : World} {B : Nat} {r z l : Value} {m : Int} (hm : w.cell? ⟨0, 0, none⟩ = some (.int .i64 m)) (h0 : 0 < w.heap.size) (hb : Below w.heap.size w w1) (h : OwnSrc w1 B r z l src0) : Made w1 r z l :=
 ⟨⟨B, h⟩, ⟨m, (hb.cell (p := ⟨0, 0, none⟩) h0).trans hm⟩, Nat.lt_of_lt_of_le h0 hb.size⟩
theorem made_shape {w : World} {r z l : Value} (h : Made w r z l) : ∃ ra rc za n zc la lc, r = .slice ra 2 rc ∧ z = .slice za n zc ∧ l = .slice la 1 lc := by
 obtain ⟨ra, za, la, rcap, zcap, lcap, a, c, m, rfl, rfl, rfl, hs⟩ := made_in h
 exact ⟨ra, rcap, za, 1, zcap, la, lcap, rfl, rfl, rfl⟩
theorem zoneBegun_is (m : Int) (w : World) (hm : w.cell? ⟨0, 0, none⟩ = some (.int .i64 m)) (h0 : 0 < w.heap.size) : Calls Tryz.prog 13 #[] w fun e w' => e = .returned (.bool true) ∧ Below w.heap.size w w' := by
 have HM := hid hm
 have H0 := hid h0
 clear hm h0
 have BW0 := hid (Below.refl w.heap.size w)
 go_enter Tryz.func13, Tryz.ntmps13
 go_wp2_with fail
 refine (parsed_any _).mono ?_
 rintro e p0 ⟨r, z, l, rfl, hown, hb⟩
 have C0 : Hid (Below w.heap.size w p0) := BW0.out.trans (hb.mono BW0.out.size)
 have M0 := hid (made_of (w0 := w) (W := w) HM.out H0.out C0.out hown)
 obtain ⟨ra, rc, za, zn, zc, la, lc, rfl, rfl, rfl⟩ := made_shape M0.out
 clear hown hb 
 go_wp2_with fail
 refine (zFind0 M0.out).mono ?_
 rintro e x0 ⟨v0, rfl, hO, hb⟩
 obtain ⟨za, zc, rfl⟩ := owns_shape0 hO
 have D0 : Hid (Below w.heap.size w x0) := C0.out.trans (hb.mono C0.out.size)
 clear hb C0 M0 hO BW0
 obtain ⟨y0, hy0⟩ : ∃ y0, x0.alloc (.cells ([strV townB, .slice za town0.eras.length zc] : List Value).toArray 44) = y0 := ⟨_, rfl⟩
 have ZC : Hid (CellsAt y0 x0.heap.size [strV townB, .slice za town0.eras.length zc]) := by show CellsAt _ _ _; rw [← hy0]; exact ca_new x0 [strV townB, .slice za town0.eras.length zc] 44
 have E0 : Hid (Below w.heap.size w y0) := by show Below _ _ _; rw [← hy0]; exact D0.out.alloc D0.out.size _
 have gy0 : x0.alloc (.cells #[strV townB, .slice za town0.eras.length zc] 44) = y0 := hy0
 simp only [strV] at gy0
 clear D0
 clear hy0
 go_wp2_with fail
 refine (parsed_any _).mono ?_
 rintro e p1 ⟨r, z, l, rfl, hown, hb⟩
 have C1 : Hid (Below w.heap.size w p1) := E0.out.trans (hb.mono E0.out.size)
 have M1 := hid (made_of (w0 := w) (W := w) HM.out H0.out C1.out hown)
 obtain ⟨ra, rc, za, zn, zc, la, lc, rfl, rfl, rfl⟩ := made_shape M1.out
 have ZCp := hid (ca_below ZC.out hb)
 clear hown hb ZC
 go_wp2_with fail
 refine (zEnds0 M1.out).mono ?_
 rintro e x1 ⟨v1, rfl, hO, hb⟩
 have RL := hid (ownEnds_rd hO)
 obtain ⟨ea, ec, rfl⟩ := owns_shape0 hO
 have D1 : Hid (Below w.heap.size w x1) := C1.out.trans (hb.mono C1.out.size)
 have ZC := hid (ca_below ZCp.out hb)
 clear ZCp hb C1 M1 hO E0
 go_wp2_with fail
 refine (parsed_any _).mono ?_
 rintro e p2 ⟨r, z, l, rfl, hown, hb⟩
 have C2 : Hid (Below w.heap.size w p2) := D1.out.trans (hb.mono D1.out.size)
 have M2 := hid (made_of (w0 := w) (W := w) HM.out H0.out C2.out hown)
 obtain ⟨ra, rc, za, zn, zc, la, lc, rfl, rfl, rfl⟩ := made_shape M2.out
 have ZCp := hid (ca_below ZC.out hb)
 have RLp := hid (rd_below RL.out hb)
 clear hown hb ZC RL
 go_wp2_with fail
 refine (zAt0 M2.out).mono ?_
 rintro e x2 ⟨rfl, hb⟩
 have D2 : Hid (Below w.heap.size w x2) := C2.out.trans (hb.mono C2.out.size)
 have ZC := hid (ca_below ZCp.out hb)
 have RL := hid (rd_below RLp.out hb)
 clear ZCp RLp hb C2 M2 D1
 obtain ⟨y2, hy2⟩ : ∃ y2, x2.alloc (.cells ([.int .i64 7200, .int .i64 3600, strV [67, 69, 83, 84]] : List Value).toArray 31) = y2 := ⟨_, rfl⟩
 have LA : Hid (CellsAt y2 x2.heap.size [.int .i64 7200, .int .i64 3600, strV [67, 69, 83, 84]]) := by show CellsAt _ _ _; rw [← hy2]; exact ca_new x2 [.int .i64 7200, .int .i64 3600, strV [67, 69, 83, 84]] 31
 have ZCq := hid (ca_below ZC.out (show Below x2.heap.size x2 y2 by rw [← hy2]; exact (Below.refl _ _).alloc (Nat.le_refl _) _))
 clear ZC
 have ZC := ZCq
 clear ZCq
 have RLq := hid (rd_below RL.out (show Below x2.heap.size x2 y2 by rw [← hy2]; exact (Below.refl _ _).alloc (Nat.le_refl _) _))
 clear RL
 have RL := RLq
 clear RLq
 have E2 : Hid (Below w.heap.size w y2) := by show Below _ _ _; rw [← hy2]; exact D2.out.alloc D2.out.size _
 have gy2 : x2.alloc (.cells #[.int .i64 7200, .int .i64 3600, strV [67, 69, 83, 84]] 31) = y2 := hy2
 simp only [strV] at gy2
 clear D2
 clear hy2
 go_wp2_with fail
 refine (parsed_any _).mono ?_
 rintro e p3 ⟨r, z, l, rfl, hown, hb⟩
 have C3 : Hid (Below w.heap.size w p3) := E2.out.trans (hb.mono E2.out.size)
 have M3 := hid (made_of (w0 := w) (W := w) HM.out H0.out C3.out hown)
 obtain ⟨ra, rc, za, zn, zc, la, lc, rfl, rfl, rfl⟩ := made_shape M3.out
 have ZCp := hid (ca_below ZC.out hb)
 have RLp := hid (rd_below RL.out hb)
 have LAp := hid (ca_below LA.out hb)
 clear hown hb ZC RL LA
 go_wp2_with fail
 refine (zAt0b M3.out).mono ?_
 rintro e x3 ⟨rfl, hb⟩
 have D3 : Hid (Below w.heap.size w x3) := C3.out.trans (hb.mono C3.out.size)
 have ZC := hid (ca_below ZCp.out hb)
 have RL := hid (rd_below RLp.out hb)
 have LA := hid (ca_below LAp.out hb)
 clear ZCp RLp LAp hb C3 M3 E2
 obtain ⟨y3, hy3⟩ : ∃ y3, x3.alloc (.cells ([.int .i64 3600, .int .i64 0, strV [67, 69, 84]] : List Value).toArray 31) = y3 := ⟨_, rfl⟩
 have LB : Hid (CellsAt y3 x3.heap.size [.int .i64 3600, .int .i64 0, strV [67, 69, 84]]) := by show CellsAt _ _ _; rw [← hy3]; exact ca_new x3 [.int .i64 3600, .int .i64 0, strV [67, 69, 84]] 31
 have ZCq := hid (ca_below ZC.out (show Below x3.heap.size x3 y3 by rw [← hy3]; exact (Below.refl _ _).alloc (Nat.le_refl _) _))
 clear ZC
 have ZC := ZCq
 clear ZCq
 have RLq := hid (rd_below RL.out (show Below x3.heap.size x3 y3 by rw [← hy3]; exact (Below.refl _ _).alloc (Nat.le_refl _) _))
 clear RL
 have RL := RLq
 clear RLq
 have LAq := hid (ca_below LA.out (show Below x3.heap.size x3 y3 by rw [← hy3]; exact (Below.refl _ _).alloc (Nat.le_refl _) _))
 clear LA
 have LA := LAq
 clear LAq
 have E3 : Hid (Below w.heap.size w y3) := by show Below _ _ _; rw [← hy3]; exact D3.out.alloc D3.out.size _
 have gy3 : x3.alloc (.cells #[.int .i64 3600, .int .i64 0, strV [67, 69, 84]] 31) = y3 := hy3
 simp only [strV] at gy3
 clear D3
 clear hy3
 go_wp2_with fail
 refine (parsed_any _).mono ?_
 rintro e p4 ⟨r, z, l, rfl, hown, hb⟩
 have C4 : Hid (Below w.heap.size w p4) := E3.out.trans (hb.mono E3.out.size)
 have M4 := hid (made_of (w0 := w) (W := w) HM.out H0.out C4.out hown)
 obtain ⟨ra, rc, za, zn, zc, la, lc, rfl, rfl, rfl⟩ := made_shape M4.out
 have ZCp := hid (ca_below ZC.out hb)
 have RLp := hid (rd_below RL.out hb)
 have LAp := hid (ca_below LA.out hb)
 have LBp := hid (ca_below LB.out hb)
 clear hown hb ZC RL LA LB
 go_wp2_with fail
 refine (zAtN M4.out).mono ?_
 rintro e x4 ⟨rfl, hb⟩
 rw [show lcV lc0 = .agg #[.int .i64 0, .int .i64 0, .string ⟨#[]⟩] from rfl]
 have D4 : Hid (Below w.heap.size w x4) := C4.out.trans (hb.mono C4.out.size)
 have ZC := hid (ca_below ZCp.out hb)
 have RL := hid (rd_below RLp.out hb)
 have LA := hid (ca_below LAp.out hb)
 have LB := hid (ca_below LBp.out hb)
 clear ZCp RLp LAp LBp hb C4 M4 E3
 go_wp2_with fail
 obtain ⟨y4, hy4⟩ : ∃ y4, x4.alloc (.cells ([.int .i64 0, .int .i64 0, .string ⟨#[]⟩] : List Value).toArray 31) = y4 := ⟨_, rfl⟩
 have LN : Hid (CellsAt y4 x4.heap.size [.int .i64 0, .int .i64 0, .string ⟨#[]⟩]) := by show CellsAt _ _ _; rw [← hy4]; exact ca_new x4 [.int .i64 0, .int .i64 0, .string ⟨#[]⟩] 31
 have ZCq := hid (ca_below ZC.out (show Below x4.heap.size x4 y4 by rw [← hy4]; exact (Below.refl _ _).alloc (Nat.le_refl _) _))
 clear ZC
 have ZC := ZCq
 clear ZCq
 have RLq := hid (rd_below RL.out (show Below x4.heap.size x4 y4 by rw [← hy4]; exact (Below.refl _ _).alloc (Nat.le_refl _) _))
 clear RL
 have RL := RLq
 clear RLq
 have LAq := hid (ca_below LA.out (show Below x4.heap.size x4 y4 by rw [← hy4]; exact (Below.refl _ _).alloc (Nat.le_refl _) _))
 clear LA
 have LA := LAq
 clear LAq
 have LBq := hid (ca_below LB.out (show Below x4.heap.size x4 y4 by rw [← hy4]; exact (Below.refl _ _).alloc (Nat.le_refl _) _))
 clear LB
 have LB := LBq
 clear LBq
 have E4 : Hid (Below w.heap.size w y4) := by show Below _ _ _; rw [← hy4]; exact D4.out.alloc D4.out.size _
 rw [show x4.alloc (.cells #[.int .i64 0, .int .i64 0, .string ⟨#[]⟩] 31) = y4 from hy4]
 clear D4
 refine (parsed_any _).mono ?_
 rintro e p5 ⟨r, z, l, rfl, hown, hb⟩
 have C5 : Hid (Below w.heap.size w p5) := E4.out.trans (hb.mono E4.out.size)
 have M5 := hid (made_of (w0 := w) (W := w) HM.out H0.out C5.out hown)
 obtain ⟨ra, rc, za, zn, zc, la, lc, rfl, rfl, rfl⟩ := made_shape M5.out
 have ZCp := hid (ca_below ZC.out hb)
 have RLp := hid (rd_below RL.out hb)
 have LAp := hid (ca_below LA.out hb)
 have LBp := hid (ca_below LB.out hb)
 have LNp := hid (ca_below LN.out hb)
 clear hown hb ZC RL LA LB LN
 go_wp2_with fail
 refine (zCheck0 M5.out).mono ?_
 rintro e x5 ⟨rfl, hb⟩
 have D5 : Hid (Below w.heap.size w x5) := C5.out.trans (hb.mono C5.out.size)
 have ZC := hid (ca_below ZCp.out hb)
 have RL := hid (rd_below RLp.out hb)
 have LA := hid (ca_below LAp.out hb)
 have LB := hid (ca_below LBp.out hb)
 have LN := hid (ca_below LNp.out hb)
 clear ZCp RLp LAp LBp LNp hb C5 M5 E4
 obtain ⟨z0, _⟩ := ca_at ZC.out 0 rfl
 obtain ⟨a0, _⟩ := ca_at LA.out 0 rfl
 obtain ⟨a1, _⟩ := ca_at LA.out 1 rfl
 obtain ⟨a2, _⟩ := ca_at LA.out 2 rfl
 obtain ⟨b0, _⟩ := ca_at LB.out 0 rfl
 obtain ⟨b1, _⟩ := ca_at LB.out 1 rfl
 obtain ⟨b2, _⟩ := ca_at LB.out 2 rfl
 have sz := ZC.out.1
 have sa := LA.out.1
 have sb := LB.out.1
 obtain ⟨rb, ro, rfl, hrb, hc⟩ := rd_elem RL.out (i := 0) (x := (-2840141400 : Int)) rfl
 have c0 : x5.cell? ⟨rb, ro, none⟩ = some (.int .i64 (-2840141400)) := by have := hc 0 _ rfl; simpa using this
 clear hc RL ZC LA LB LN
 simp only [strV, townB] at z0 a2 b2
 go_wp2
 go_ret
 exact ⟨rfl, D5.out⟩
end Go.Proofs.YtkhlkohlccndgaaGreat
namespace Go.Proofs.YtkhlkohlccndgaaGreat
open Go.RowKit Go.Shelf
end Go.Proofs.YtkhlkohlccndgaaGreat
namespace Go.Proofs.YtkhlkohlccndgaaGreat
open Go.RowKit Go.Shelf
theorem times_there {s : Sx.Sr} {xs : List ZV} (h : zoneErr s xs = 0) {e : Sx.Er} (he : e ∈ erasOf xs) (hr : e.rules ≠ []) : Sx.timesE s.rules e.rules e.shift = 0 := by
 have c3 : askE s.rules (erasOf xs) = 0 := errs_zero h 3 (by omega)
 rcases askE_mem c3 e he with q | q
 ·exact absurd q hr
 ·exact q
theorem zoneZ_is {s : Sx.Sr} {xs : List ZV} {nm : Tx.Bs} (h : zoneF s xs nm = 0) : zoneZ s xs nm = (zvAt xs (nameTo s.links nm)).z := by
 unfold zoneZ findZ
 rw [show findE (zoneErr s xs) xs s.links nm = 0 from h]
 rfl
theorem zvAt_in {xs : List ZV} {n : Tx.Bs} (h : zvHas xs n = true) : zvAt xs n ∈ xs ∧ (zvAt xs n).z.name = n := by
 unfold zvHas at h
 obtain ⟨p, hp, e⟩ := List.any_eq_true.1 h
 unfold zvAt
 cases hf : xs.find? (fun p => p.z.name == n) with
 | none => rw [List.find?_eq_none] at hf; exact absurd e (hf p hp)
 | some y =>
   have h1 := List.mem_of_find?_eq_some hf
   have h2 := List.find?_some hf
   exact ⟨h1, by simpa using h2⟩
theorem era_of {xs : List ZV} {n : Tx.Bs} (h : zvHas xs n = true) {e : Sx.Er} (he : e ∈ (zvAt xs n).z.eras) : e ∈ erasOf xs := List.mem_flatMap.2 ⟨_, (zvAt_in h).1, he⟩
end Go.Proofs.YtkhlkohlccndgaaGreat
namespace Go.Proofs.YtkhlkohlccndgaaGreat
open Go.RowKit Go.Shelf
/- all eras but the last have an end -/
def LastO : List Sx.Er → Prop
 | [] => False
 | [a] => a.opn = true
 | a :: b :: r => a.opn = false ∧ LastO (b :: r)
theorem opn_of {x : Sx.Er} {b : Bool} (h : Sx.eraE x b = 0) : x.opn = b := by
 unfold Sx.eraE at h
 split at h
 ·cases h
 split at h
 ·cases h
 split at h
 ·cases h
 split at h
 ·cases h
 split at h
 ·cases h
 rename_i q
 simpa using q
theorem lastO_of : ∀ {l : List Sx.Er}, l ≠ [] → Sx.erasE l = 0 → LastO l
 | [], h, _ => absurd rfl h
 | [a], _, h => opn_of (b := true) h
 | a :: b :: r, _, h => by
   have h' : (if Sx.eraE a false ≠ 0 then Sx.eraE a false else Sx.erasE (b :: r)) = 0 := h
   by_cases q : Sx.eraE a false = 0
   ·rw [if_neg (by simp [q])] at h'
    exact ⟨opn_of q, lastO_of (by simp) h'⟩
   ·rw [if_pos q] at h'; exact absurd h' q
theorem lastO_zone {z : Sx.Zn} (h : Sx.zoneE z = 0) : LastO z.eras := by
 unfold Sx.zoneE at h
 split at h
 ·cases h
 ·rename_i q
  refine lastO_of (fun e => ?_) h
  rw [e] at q; simp at q
theorem ends_len : ∀ {l : List Sx.Er}, LastO l → (endsE l).length + 1 = l.length
 | [], h => h.elim
 | [a], h => by simp [LastO] at h; simp [endsE, h]
 | a :: b :: r, h => by
   have ih := ends_len h.2
   have e : endsE (a :: b :: r) = endAt a :: endsE (b :: r) := by simp [endsE, List.filter_cons, h.1]
   rw [e, List.length_cons, ih]; rfl
theorem ends_get : ∀ {l : List Sx.Er}, LastO l → ∀ {i : Nat} {n : Int}, (endsE l)[i]? = some n → ∃ x, l[i]? = some x ∧ x.opn = false ∧ n = endAt x
 | [], h, _, _, _ => h.elim
 | [a], h, i, n, q => by simp [LastO] at h; simp [endsE, h] at q
 | a :: b :: r, h, i, n, q => by
   have e : endsE (a :: b :: r) = endAt a :: endsE (b :: r) := by simp [endsE, List.filter_cons, h.1]
   rw [e] at q
   cases i with
   | zero => simp at q; exact ⟨a, rfl, h.1, q.symm⟩
   | succ i => obtain ⟨x, h1, h2⟩ := ends_get h.2 (i := i) (by simpa using q); exact ⟨x, by simpa using h1, h2⟩
/- the era at a time: the first whose end is later -/
theorem era_at : ∀ {l : List Sx.Er}, LastO l → ∀ {k : Nat} {x : Sx.Er} {at_ : Int}, l[k]? = some x → (∀ (j : Nat) (n : Int), j < k → (endsE l)[j]? = some n → n ≤ at_) → (k = (endsE l).length ∨ ∃ n, (endsE l)[k]? = some n ∧ at_ < n) →
  l.find? (fun x => x.opn || decide (at_ < endAt x)) = some x
 | [], h, _, _, _, _, _, _ => h.elim
 | [a], h, k, x, at_, hx, _, _ => by
   simp [LastO] at h
   have : k = 0 := by
    have := (List.getElem?_eq_some_iff.1 hx).1
    simp at this; exact this
   subst this
   simp at hx; subst hx
   simp [List.find?_cons, h]
 | a :: b :: r, h, k, x, at_, hx, hj, hk => by
   have e : endsE (a :: b :: r) = endAt a :: endsE (b :: r) := by simp [endsE, List.filter_cons, h.1]
   rw [e] at hj hk
   cases k with
   | zero =>
     simp at hx; subst hx
     have h1 : at_ < endAt a := by
      rcases hk with hk | ⟨n, hn, q⟩
      ·simp at hk
      ·simp at hn; rw [hn]; exact q
     simp [List.find?_cons, h1]
   | succ k =>
     have h0 := hj 0 (endAt a) (by omega) rfl
     have hf : (a.opn || decide (at_ < endAt a)) = false := by simp [h.1]; omega
     rw [List.find?_cons, hf]
     refine era_at h.2 (by simpa using hx) (fun j n hlt hn => hj (j + 1) n (by omega) (by simpa using hn)) ?_
     rcases hk with hk | ⟨n, hn, q⟩
     ·left; simpa using hk
     ·right; exact ⟨n, by simpa using hn, q⟩
end Go.Proofs.YtkhlkohlccndgaaGreat
namespace Go.Proofs.YtkhlkohlccndgaaGreat
open Go.RowKit Go.Shelf
attribute [local go_sem] Oper.semAt_some
attribute [local go_sem ↓] Go.wp_at_zero Go.wp_at_succ

theorem rEndOf_any (x : Sx.Er) (w : World) (h : EndOk x) : Calls Tryz.prog 60 #[eraV x] w fun e w' => e = .returned (.int .i64 (endAt x)) ∧ Below w.heap.size w w' := by
 obtain ⟨sh, rl, sv, fm, op, uy, um, ud, ua, uc⟩ := x
 obtain ⟨hv, a0, a1, s0, s1⟩ := h
 dsimp only at hv a0 a1 s0 s1
 have nb := Cv.num_bd hv
 obtain ⟨v1, v2, v3, v4, v5, v6⟩ := Cv.vld_iff.1 hv
 obtain ⟨n, hn⟩ : ∃ n, Cv.num uy um ud = n := ⟨_, rfl⟩
 obtain ⟨R, hR⟩ : ∃ R, endAt ⟨sh, rl, sv, fm, op, uy, um, ud, ua, uc⟩ = R := ⟨_, rfl⟩
 rw [hR]
 have HE : Hid (R = n * 86400 + ua - (if uc = 2 then sh else 0)) := by show _ = _; rw [← hn, ← hR]; rfl
 have DA : Hid (∀ W, Calls Tryz.prog 123 #[.agg #[.int .i64 uy, .int .i64 um, .int .i64 ud]] W fun e w' => e = .returned (.int .i64 n) ∧ Below W.heap.size W w') := fun W => by
  have := rDays_any uy um ud W v1 (by omega) v3 v4 (by omega) (by have := Cv.dim_bd uy um; omega)
  rw [hn] at this
  exact this
 rw [hn] at nb
 obtain ⟨N, hN⟩ : ∃ N, w.heap.size = N := ⟨_, rfl⟩
 obtain ⟨V, gV, X0, hb, sz⟩ := named_new w (eraCells ⟨sh, rl, sv, fm, op, uy, um, ud, ua, uc⟩).toArray 67
 rw [hN] at X0
 have gV2 : w.alloc (.cells #[.int .i64 sh, strV rl, .int .i64 sv, strV fm, .bool op, .int .i64 uy, .int .i64 um, .int .i64 ud, .int .i64 ua, .int .i64 uc] 67) = V := gV
 have X : Hid (CellsAt V N (eraCells ⟨sh, rl, sv, fm, op, uy, um, ud, ua, uc⟩)) := X0
 have B : Hid (Below N w V) := hN ▸ hb
 have w1 : IntKind.i64.wrap (n * 86400) = n * 86400 := IntWalk.i64_in _ (by omega)
 have w2 : IntKind.i64.wrap (n * 86400 + ua) = n * 86400 + ua := IntWalk.i64_in _ (by omega)
 have w3 : wrap64 (n * 86400 + ua - sh) = n * 86400 + ua - sh := by unfold wrap64; omega
 have w4 : IntKind.i64.wrap (n * 86400 + ua - sh) = n * 86400 + ua - sh := IntWalk.i64_in _ (by omega)
 obtain ⟨x5, _⟩ := ca_at X.out 5 rfl
 obtain ⟨x6, _⟩ := ca_at X.out 6 rfl
 obtain ⟨x7, _⟩ := ca_at X.out 7 rfl
 obtain ⟨x8, _⟩ := ca_at X.out 8 rfl
 have sx := X.out.1
 have SS := hid (show V.cell? ⟨N, 5, none⟩ = some (.int .i64 uy) ∧ V.cell? ⟨N, 6, none⟩ = some (.int .i64 um) ∧ V.cell? ⟨N, 7, none⟩ = some (.int .i64 ud) ∧ V.cell? ⟨N, 8, none⟩ = some (.int .i64 ua) from ⟨x5, x6, x7, x8⟩)
 have KS : Hid (∀ wz, Below V.heap.size V wz → (wz.cell? ⟨N, 5, none⟩ = some (.int .i64 uy) ∧ wz.cell? ⟨N, 6, none⟩ = some (.int .i64 um) ∧ wz.cell? ⟨N, 7, none⟩ = some (.int .i64 ud) ∧ wz.cell? ⟨N, 8, none⟩ = some (.int .i64 ua))) := fun wz hb => ⟨(hb.cell (p := ⟨N, 5, none⟩) sx).trans x5, (hb.cell (p := ⟨N, 6, none⟩) sx).trans x6, (hb.cell (p := ⟨N, 7, none⟩) sx).trans x7, (hb.cell (p := ⟨N, 8, none⟩) sx).trans x8⟩
 clear hv hn hR v1 v2 v3 v4 v5 v6 X0 hb gV
 go_enter Tryz.func60, Tryz.ntmps60
 simp only [hN]
 go_upto_region 1 with fail
 clear gV2
 refine wp_region_held_drew (S := fun w' => w'.cell? ⟨N, 5, none⟩ = some (.int .i64 uy) ∧ w'.cell? ⟨N, 6, none⟩ = some (.int .i64 um) ∧ w'.cell? ⟨N, 7, none⟩ = some (.int .i64 ud) ∧ w'.cell? ⟨N, 8, none⟩ = some (.int .i64 ua)) (by kernel_rfl) SS.out (fun hHeld => ?_)
 refine tkA 0 rfl ?_
 try simp only [Act.put, j]
 refine tkA 1 rfl ?_
 try simp only [Act.put, j]
 refine tkA 2 rfl ?_
 try simp only [Act.put, j]
 refine tkA 5 rfl ?_
 try simp only [Act.put, j]
 refine tkA 6 rfl ?_
 try simp only [Act.put, j]
 refine tkA 7 rfl ?_
 try simp only [Act.put, j]
 refine rdH 3 rfl fun K hK => ?_
 go_simp
 refine (DA.out _).mono ?_
 rintro e w7 ⟨rfl, hb7⟩
 have hb : Below V.heap.size V w7 := below_drew1 hb7
 have S7 := KS.out w7 hb
 refine hK.out _ _ ?_ (fun hHeld => ?_)
 ·exact S7
 clear hK K
 try simp only [Act.put, j]
 refine tkA 4 rfl ?_
 try simp only [Act.put, j]
 refine tkA 8 rfl ?_
 try simp only [Act.put, j]
 refine tkA 9 rfl ?_
 try simp only [Act.put, j]
 refine wpAnyH_done (by kernel_rfl) ?_ _
 have X7 := ca_below X.out hb
 have B7 : Hid (Below N w w7) := below_on B.out (hN ▸ B.out.size) hb
 clear x5 x6 x7 x8 sx SS KS
 obtain ⟨y0, _⟩ := ca_at X7 0 rfl
 obtain ⟨y9, _⟩ := ca_at X7 9 rfl
 have sy := X7.1
 clear X7 hb
 by_cases hc : uc = 2
 ·have hc2 : (uc == 2) = true := by simp [hc]
  go_wp2
  go_ret
  exact ⟨ret_int (by rw [HE.out, if_pos hc]), B7.out⟩
 ·have hc2 : (uc == 2) = false := by simp [hc]
  go_wp2
  go_ret
  exact ⟨ret_int (by rw [HE.out, if_neg hc, Int.sub_zero]), B7.out⟩
theorem rEndsOf_any (nm : Tx.Bs) (es : List Sx.Er) (a : Option Addr) (c : Nat) (w : World) (h : RdEras w (.slice a es.length c) es) (ho : LastO es) (hl : es.length ≤ 1000) (hok : ∀ e ∈ es, e.opn = true ∨ EndOk e) :
  Calls Tryz.prog 20 #[.agg #[strV nm, .slice a es.length c]] w fun e w' => ∃ v, e = .returned v ∧ OwnEnds w' w.heap.size v (endsE es) ∧ Below w.heap.size w w' := by
 obtain ⟨i0, hi, hz0, hz1, hz2⟩ := info_parts Tryz.infoInt
 obtain ⟨N, hN⟩ : ∃ N, w.heap.size = N := ⟨_, rfl⟩
 obtain ⟨V, gV, X0, hb, sz⟩ := named_new w #[strV nm, .slice a es.length c] 44
 rw [hN] at X0
 have X : Hid (CellsAt V N [strV nm, .slice a es.length c]) := X0
 have B : Hid (Below N w V) := hN ▸ hb
 have H := hid h
 have hel := ends_len ho
 have HO := hid ho
 have HOK := hid hok
 obtain ⟨L, hL⟩ : ∃ L, endsE es = L := ⟨_, rfl⟩
 have HL := hid hL
 rw [hL] at hel ⊢
 have zV : N + 1 ≤ V.heap.size := by omega
 have wl : wrap64 ((es.length : Int) - 1) = (L.length : Int) := by unfold wrap64; omega
 have wl2 : IntKind.i64.wrap ((es.length : Int) - 1) = (L.length : Int) := (IntWalk.i64_in _ (by omega)).trans (by omega)
 clear h ho hok hL X0 hb sz
 obtain ⟨x1, _⟩ := ca_at X.out 1 rfl
 have sx := X.out.1
 go_enter Tryz.func20, Tryz.ntmps20
 simp only [hN]
 go_wp2_with fail
 clear x1 sx
 go_loopw [3, 4] (fun ov kv wr => ∃ (k : Nat) (out : List Int), k ≤ L.length ∧ kv = .int .i64 k ∧ Hid (out.length = k) ∧ Hid (out = L.take k) ∧ Hid (OwnEnds wr (N + 1) ov out) ∧ Hid (CellsAt wr N [strV nm, .slice a es.length c]) ∧ Hid (Below N w wr) ∧ N + 1 ≤ wr.heap.size) (fun _ kv _ => L.length - (intOf kv).toNat)
 case atStart => exact ⟨0, [], Nat.zero_le _, rfl, rfl, rfl, World.ownsRow_nil _ _ _ _, X, B, zV⟩
 case round =>
  clear X B zV
  obtain ⟨k, out, hk, rfl, hol, HT, OW, X, B, zV⟩ := hrel
  obtain ⟨oa, ocap, rfl⟩ := owns_shape0 OW.out
  have hol1 : out.length ≤ 1000 := by have := hol.out; omega
  obtain ⟨x1, _⟩ := ca_at X.out 1 rfl
  have sx := X.out.1
  by_cases hlt : k < L.length
  case neg =>
   have e : k = L.length := by omega
   subst e
   have e2 : out = L := by rw [HT.out, List.take_length]
   subst e2
   have q : ¬ (out.length : Int) < (out.length : Int) := by omega
   clear hlt HT
   go_wp2
   go_ret
   exact ⟨_, rfl, hN ▸ owns_base OW.out (by omega), hN ▸ B.out⟩
  obtain ⟨n, hn⟩ : ∃ n, L[k]? = some n := ⟨_, List.getElem?_eq_getElem hlt⟩
  obtain ⟨x, hx, hop, hxe⟩ := ends_get HO.out (i := k) (n := n) (by rw [HL.out]; exact hn)
  have hXO : EndOk x := (HOK.out x (List.mem_of_getElem? hx)).resolve_left (by rw [hop]; simp)
  have HC : Hid (∀ W, Calls Tryz.prog 60 #[eraV x] W fun e w' => e = .returned (.int .i64 n) ∧ Below W.heap.size W w') := fun W => by rw [hxe]; exact rEndOf_any x W hXO
  obtain ⟨eb, eo, e1, heb, hc⟩ := rd_elem (rd_below H.out (hN ▸ B.out)) hx
  subst e1
  obtain ⟨c0, c1, c2, c3, c4, c5, c6, c7, c8, c9⟩ := rd_era hc
  have hkx : (k : Int) < (es.length : Int) := by omega
  have q : (k : Int) < (L.length : Int) := by omega
  have HT2 : Hid (out ++ [n] = L.take (k + 1)) := by show _ = _; rw [List.take_add_one, hn, HT.out]; rfl
  clear hc hx hn hxe hXO hop
  go_wp2_with fail
  refine (HC.out _).mono ?_
  rintro e w1 ⟨rfl, hb⟩
  have X1 := hid (ca_below X.out hb)
  have B1 : Hid (Below N w w1) := below_on B.out (by omega) hb
  have O1 := hid (owns_below OW.out hb)
  have z1 : N + 1 ≤ w1.heap.size := Nat.le_trans zV hb.size
  clear X B OW zV hb x1 sx c0 c1 c2 c3 c4 c5 c6 c7 c8 c9 heb HC
  go_wp2_with (at_builtin; refine wpList_append_own _ rfl _ _ 47 rfl (N + 1) 3 i0 (.int .i64 0) 1 8 Tryz.underlying47 hi hz0 hz1 hz2 rfl (by decide) _ _ _ rfl (World.ownsRow.alloc O1.out _) _ 1 1 [.int .i64 n] rfl rfl (one_cell _ _) (by intro u hu; simp at hu; subst hu; rfl) (by unfold maxLen; omega) (by omega) (by simp; omega) ?_)
  intro v' w4 hown' hgrow _
  have B4 : Hid (Below N w w4) := Below.grown (B1.out.alloc (by omega) _) hgrow (by simp; omega) (fun k hk => by have := (O1.out.lt k hk).1; omega)
  have X4 := hid (ca_grownO (ca_alloc X1.out _) hgrow (fun k hk => by have := (O1.out.lt k hk).1; omega))
  have O4 : Hid (OwnEnds w4 (N + 1) v' (out ++ [n])) := by show World.ownsRow _ _ _ _ _ _ _; simpa using hown'
  have z4 : N + 1 ≤ w4.heap.size := by have := hgrow.size; simp at this; omega
  clear hown' hgrow B1 O1 X1 z1
  go_wp2
  go_roundw
  case rel => exact ⟨k + 1, out ++ [n], by omega, by go_num, by show _ = _; rw [List.length_append, hol.out]; rfl, HT2, O4, X4, B4, z4⟩
  case measure => simp [intOf]; omega
end Go.Proofs.YtkhlkohlccndgaaGreat
namespace Go.Proofs.YtkhlkohlccndgaaGreat
open Go.RowKit Go.Shelf
attribute [local go_sem] Oper.semAt_some
attribute [local go_sem ↓] Go.wp_at_zero Go.wp_at_succ

def OwnNames (w : World) (B : Nat) (v : Value) (l : List Tx.Bs) : Prop := w.ownsRow B 9 1 v l.length (l.map strV)
theorem rising_adj : ∀ {l : List Int}, risingB l = true → ∀ {k : Nat} {a b : Int}, l[k]? = some a → l[k + 1]? = some b → a < b
 | [], _, _, _, _, h, _ => by simp at h
 | [x], _, k, a, b, _, h => by simp at h
 | x :: y :: r, hr, k, a, b, h1, h2 => by
   simp [risingB] at hr
   cases k with
   | zero => simp at h1 h2; omega
   | succ k => exact rising_adj hr.2 (by simpa using h1) (by simpa using h2)
theorem rising_of : ∀ {l : List Int}, (∀ (j : Nat) (a b : Int), l[j]? = some a → l[j + 1]? = some b → a < b) → risingB l = true
 | [], _ => rfl
 | [x], _ => rfl
 | x :: y :: r, h => by
   show (decide (x < y) && risingB (y :: r)) = true
   rw [decide_eq_true (h 0 x y rfl rfl), rising_of (fun j a b h1 h2 => h (j + 1) a b (by simpa using h1) (by simpa using h2))]; rfl
theorem astray_has (xs : List ZV) (l : Sx.Lk) : astrayB xs l = !zvHas xs l.to := by
 unfold astrayB zvHas
 first | rfl | simp
theorem ownNames_rd {w : World} {B : Nat} {v : Value} {l : List Tx.Bs} (h : OwnNames w B v l) : Rd 1 (fun x => [strV x]) w v l := by
 have e : ∀ l : List Tx.Bs, (l.flatMap fun x => [strV x]) = l.map strV := by intro l; induction l <;> simp_all
 exact own_rd (B := B) (e := 9) (cells := fun x => [strV x]) (fun _ => rfl) (by rw [e]; exact h)
theorem srcIn_w {s : Sx.Sr} {xs : List ZV} {ra za la : Option Addr} {rcap zcap lcap : Nat} {m : Int} {w W : World} {N : Nat} (h : SrcIn s xs ra za la rcap zcap lcap m w) (hb : Below N w W) (hN : w.heap.size = N) : SrcIn s xs ra za la rcap zcap lcap m W := srcIn_below h (hN ▸ hb)
theorem checkZones_any (s : Sx.Sr) (xs : List ZV) (ra za la : Option Addr) (rcap zcap lcap : Nat) (m : Int) (w : World) (h : SrcIn s xs ra za la rcap zcap lcap m w) :
  Calls Tryz.prog 18 #[.agg #[.slice ra s.rules.length rcap, .slice za xs.length zcap, .slice la s.links.length lcap]] w fun e w' => e = .returned (.int .i64 (zoneErr s xs)) ∧ Below w.heap.size w w' := by
 obtain ⟨i0, hi, hz0, hz1, hz2⟩ := info_parts Tryz.infoStr
 obtain ⟨N, hN⟩ : ∃ N, w.heap.size = N := ⟨_, rfl⟩
 obtain ⟨V, gV, X0, hb, sz⟩ := named_new w #[.slice ra s.rules.length rcap, .slice za xs.length zcap, .slice la s.links.length lcap] 26
 rw [hN] at X0
 have X : Hid (CellsAt V N [.slice ra s.rules.length rcap, .slice za xs.length zcap, .slice la s.links.length lcap]) := X0
 have B : Hid (Below N w V) := hN ▸ hb
 have G := hid (srcIn_below h hb)
 have G0 := hid h
 have zV : N + 1 ≤ V.heap.size := by omega
 obtain ⟨E, hE⟩ : ∃ E, zoneErr s xs = E := ⟨_, rfl⟩
 rw [hE]
 have HE : Hid (errsOf (zoneC s xs) = E) := hE
 have HLX : Hid (xs.length = s.zones.length) := rdZv_len h.zv
 have CS : Hid (∀ W, Below V.heap.size V W → Calls Tryz.prog 57 #[.agg #[.slice ra s.rules.length rcap, .slice za xs.length zcap, .slice la s.links.length lcap]] W fun e w' => e = .returned (.int .i64 (Sx.srcE s)) ∧ Below W.heap.size W w') := fun W hW => checkSource_any s _ _ _ W ⟨(srcIn_below G.out hW).rules, (srcIn_below G.out hW).zones, (srcIn_below G.out hW).links⟩ h.size
 clear h X0 hb sz hE
 obtain ⟨s0, _⟩ := ca_at X.out 0 rfl
 obtain ⟨s1, _⟩ := ca_at X.out 1 rfl
 obtain ⟨s2, _⟩ := ca_at X.out 2 rfl
 have sx := X.out.1
 go_enter Tryz.func18, Tryz.ntmps18
 simp only [hN]
 go_wp2_with fail
 refine (CS.out V (Below.refl _ _)).mono ?_
 rintro e w1 ⟨rfl, hb⟩
 replace X := hid (ca_below X.out hb)
 replace B := hid (below_on B.out (by omega) hb)
 replace G := hid (srcIn_below G.out hb)
 replace zV := Nat.le_trans zV hb.size
 obtain ⟨S0, hS0⟩ : ∃ S, Sx.srcE s = S := ⟨_, rfl⟩
 rw [hS0]
 have HS0 := hid hS0
 clear hb s0 s1 s2 sx CS hS0 gV
 by_cases e0 : S0 = 0
 case neg =>
  have hR : E = S0 := by rw [← HE.out]; unfold errsOf; rw [if_pos (by show Sx.srcE s ≠ 0; rw [HS0.out]; exact e0)]; exact HS0.out
  have p1 : (S0 != 0) = true := by simp [e0]
  clear HE
  go_wp2
  go_ret
  exact ⟨ret_int (by rw [hR]), B.out⟩
 subst e0
 obtain ⟨f1, f2, f3, f4⟩ := many_few (Sx.src_okZ HS0.out).many
 have hxs : xs.length ≤ 20 := by have := HLX.out; omega
 have hel : ∀ p ∈ xs, p.z.eras.length ≤ 8 := fun p hp => f4 p.z (zv_mem G.out.zv hp)
 have HEL := hid hel
 clear hel f2 f4
 obtain ⟨NM, hNM⟩ : ∃ l, namesOf s.zones s.links = l := ⟨_, rfl⟩
 have HNM := hid hNM
 clear hNM
 go_wp2_with fail
 go_loopw [4, 5] (fun ov kv wr => ∃ (k : Nat) (out : List Tx.Bs), k ≤ xs.length ∧ kv = .int .i64 k ∧ Hid (out.length = k) ∧ Hid (out = (s.zones.map Sx.Zn.name).take k) ∧ Hid (OwnNames wr (N + 1) ov out) ∧ Hid (CellsAt wr N [.slice ra s.rules.length rcap, .slice za xs.length zcap, .slice la s.links.length lcap]) ∧ Hid (SrcIn s xs ra za la rcap zcap lcap m wr) ∧ Hid (Below N w wr) ∧ N + 1 ≤ wr.heap.size) (fun _ kv _ => xs.length - (intOf kv).toNat)
 case atStart => exact ⟨0, [], Nat.zero_le _, rfl, rfl, rfl, World.ownsRow_nil _ _ _ _, X, G, B, zV⟩
 case round =>
  clear X B zV G
  obtain ⟨k, out, hk, rfl, hol, HT, OW, X, G, B, zV⟩ := hrel
  obtain ⟨oa, ocap, rfl⟩ := owns_shape0 OW.out
  obtain ⟨s0, _⟩ := ca_at X.out 0 rfl
  obtain ⟨s1, _⟩ := ca_at X.out 1 rfl
  obtain ⟨s2, _⟩ := ca_at X.out 2 rfl
  have sx := X.out.1
  by_cases hlt : k < xs.length
  case pos =>
   obtain ⟨p, hp⟩ : ∃ x, xs[k]? = some x := ⟨_, List.getElem?_eq_getElem hlt⟩
   obtain ⟨zb, zo, e1, hzb, hc⟩ := rd_elem G.out.zv.rd hp
   subst e1
   have c0 : wr.cell? ⟨zb, zo + k * 2, none⟩ = some (strV p.z.name) := by have := hc 0 _ rfl; simpa using this
   have HT2 : Hid (out ++ [p.z.name] = (s.zones.map Sx.Zn.name).take (k + 1)) := by
    show _ = _
    have hz : (s.zones.map Sx.Zn.name)[k]? = some p.z.name := by rw [← G.out.zv.fst, List.map_map, List.getElem?_map, hp]; rfl
    rw [List.take_add_one, hz, HT.out]; rfl
   have q : (k : Int) < (xs.length : Int) := by omega
   clear hc hp
   go_wp2_with (at_builtin; refine wpList_append_own _ rfl _ _ 107 rfl (N + 1) 9 i0 (.string ⟨#[]⟩) 1 16 Tryz.underlying107 hi hz0 hz1 hz2 rfl (by decide) _ _ _ rfl (World.ownsRow.alloc OW.out _) _ 1 1 [strV p.z.name] rfl rfl (one_cell _ _) (by intro u hu; simp at hu; subst hu; rfl) (by have := hol.out; unfold maxLen; omega) (by have := hol.out; omega) (by simp; omega) ?_)
   intro v' w4 hown' hgrow _
   have hne : ∀ k, (Value.slice oa out.length ocap).ownBlock = some k → k ≠ N := fun k hk => by have := (OW.out.lt k hk).1; omega
   have B4 : Hid (Below N w w4) := Below.grown (B.out.alloc (by omega) _) hgrow (by simp; omega) (fun k hk => by have := (OW.out.lt k hk).1; omega)
   have X4 := hid (ca_grownO (ca_alloc X.out _) hgrow hne)
   have G4 := hid (srcIn_w G0.out B4.out hN)
   have O4 : Hid (OwnNames w4 (N + 1) v' (out ++ [p.z.name])) := by show World.ownsRow _ _ _ _ _ _ _; simpa using hown'
   have z4 : N + 1 ≤ w4.heap.size := by have := hgrow.size; simp at this; omega
   clear hown' hgrow hne B OW X zV G
   go_wp2
   go_roundw
   case rel => exact ⟨k + 1, out ++ [p.z.name], by omega, by go_num, by show _ = _; rw [List.length_append, hol.out]; rfl, HT2, O4, X4, G4, B4, z4⟩
   case measure => simp [intOf]; omega
  have e : k = xs.length := by omega
  subst e
  have HT0 : Hid (out = s.zones.map Sx.Zn.name ++ (s.links.map Sx.Lk.name).take 0) := by show _ = _; rw [HT.out, HLX.out, List.take_zero, List.append_nil, List.take_of_length_le (by rw [List.length_map]; exact Nat.le_refl _)]
  have hol0 : Hid (out.length = xs.length + 0) := hol.out
  have q : ¬ (xs.length : Int) < (xs.length : Int) := by omega
  clear hlt HT hol hk
  go_wp2_with fail
  clear s0 s1 s2 sx
  go_loopw [4, 6] (fun ov kv wr => ∃ (k : Nat) (out : List Tx.Bs), k ≤ s.links.length ∧ kv = .int .i64 k ∧ Hid (out.length = xs.length + k) ∧ Hid (out = s.zones.map Sx.Zn.name ++ (s.links.map Sx.Lk.name).take k) ∧ Hid (OwnNames wr (N + 1) ov out) ∧ Hid (CellsAt wr N [.slice ra s.rules.length rcap, .slice za xs.length zcap, .slice la s.links.length lcap]) ∧ Hid (SrcIn s xs ra za la rcap zcap lcap m wr) ∧ Hid (Below N w wr) ∧ N + 1 ≤ wr.heap.size) (fun _ kv _ => s.links.length - (intOf kv).toNat)
  case atStart => exact ⟨0, out, Nat.zero_le _, rfl, hol0, HT0, OW, X, G, B, zV⟩
  case round =>
   clear X B zV G OW HT0 hol0
   obtain ⟨k, out, hk, rfl, hol, HT, OW, X, G, B, zV⟩ := hrel
   obtain ⟨oa, ocap, rfl⟩ := owns_shape0 OW.out
   obtain ⟨s0, _⟩ := ca_at X.out 0 rfl
   obtain ⟨s1, _⟩ := ca_at X.out 1 rfl
   obtain ⟨s2, _⟩ := ca_at X.out 2 rfl
   have sx := X.out.1
   by_cases hlt : k < s.links.length
   case pos =>
    obtain ⟨l, hp⟩ : ∃ x, s.links[k]? = some x := ⟨_, List.getElem?_eq_getElem hlt⟩
    obtain ⟨lb, lo, e1, hlb, hc⟩ := rd_elem G.out.links hp
    subst e1
    obtain ⟨c0, c1⟩ := rd_link hc
    have HT2 : Hid (out ++ [l.name] = s.zones.map Sx.Zn.name ++ (s.links.map Sx.Lk.name).take (k + 1)) := by
     show _ = _
     rw [List.take_add_one, List.getElem?_map, hp, HT.out, List.append_assoc]; rfl
    have q : (k : Int) < (s.links.length : Int) := by omega
    clear hc hp
    go_wp2_with (at_builtin; refine wpList_append_own _ rfl _ _ 107 rfl (N + 1) 9 i0 (.string ⟨#[]⟩) 1 16 Tryz.underlying107 hi hz0 hz1 hz2 rfl (by decide) _ _ _ rfl (World.ownsRow.alloc OW.out _) _ 1 1 [strV l.name] rfl rfl (one_cell _ _) (by intro u hu; simp at hu; subst hu; rfl) (by have := hol.out; unfold maxLen; omega) (by have := hol.out; omega) (by simp; omega) ?_)
    intro v' w4 hown' hgrow _
    have hne : ∀ k, (Value.slice oa out.length ocap).ownBlock = some k → k ≠ N := fun k hk => by have := (OW.out.lt k hk).1; omega
    have B4 : Hid (Below N w w4) := Below.grown (B.out.alloc (by omega) _) hgrow (by simp; omega) (fun k hk => by have := (OW.out.lt k hk).1; omega)
    have X4 := hid (ca_grownO (ca_alloc X.out _) hgrow hne)
    have G4 := hid (srcIn_w G0.out B4.out hN)
    have O4 : Hid (OwnNames w4 (N + 1) v' (out ++ [l.name])) := by show World.ownsRow _ _ _ _ _ _ _; simpa using hown'
    have z4 : N + 1 ≤ w4.heap.size := by have := hgrow.size; simp at this; omega
    clear hown' hgrow hne B OW X zV G
    go_wp2
    go_roundw
    case rel => exact ⟨k + 1, out ++ [l.name], by omega, by go_num, by show _ = _; rw [List.length_append, hol.out]; rfl, HT2, O4, X4, G4, B4, z4⟩
    case measure => simp [intOf]; omega
   have e : k = s.links.length := by omega
   subst e
   have HT0 : Hid (out = NM) := by show _ = _; rw [HT.out, ← HNM.out, List.take_of_length_le (by rw [List.length_map]; exact Nat.le_refl _)]; rfl
   have q : ¬ (s.links.length : Int) < (s.links.length : Int) := by omega
   have hnl : NM.length ≤ 40 := by have := hol.out; rw [HT0.out] at this; omega
   have eO : NM = out := HT0.out.symm
   subst eO
   clear hlt HT hol hk HT0
   go_wp2_with fail
   clear s0 s1 s2 sx
   have NO : Hid ((NM.take 0).Nodup) := by show List.Nodup _; rw [List.take_zero]; exact List.nodup_nil
   go_loopw [7] (fun iv wr => ∃ i : Nat, i ≤ NM.length ∧ iv = .int .i64 i ∧ Hid ((NM.take i).Nodup) ∧ Hid (OwnNames wr (N + 1) (.slice oa NM.length ocap) NM) ∧ Hid (CellsAt wr N [.slice ra s.rules.length rcap, .slice za xs.length zcap, .slice la s.links.length lcap]) ∧ Hid (SrcIn s xs ra za la rcap zcap lcap m wr) ∧ Hid (Below N w wr) ∧ N + 1 ≤ wr.heap.size) (fun iv _ => NM.length - (intOf iv).toNat)
   case atStart => exact ⟨0, Nat.zero_le _, rfl, NO, OW, X, G, B, zV⟩
   case round =>
    clear X B zV G OW NO
    obtain ⟨i, hi, rfl, NO, OW, X, G, B, zV⟩ := hrel
    by_cases hlt : i < NM.length
    case pos =>
     obtain ⟨x, hx⟩ : ∃ x, NM[i]? = some x := ⟨_, List.getElem?_eq_getElem hlt⟩
     have HX := hid hx
     have q : (i : Int) < (NM.length : Int) := by omega
     have NI : Hid (¬ x ∈ NM.take 0) := by show ¬ _; rw [List.take_zero]; simp
     clear hx
     go_wp2_with fail
     go_loopw [8] (fun kv wr => ∃ k : Nat, k ≤ i ∧ kv = .int .i64 k ∧ Hid (¬ x ∈ NM.take k) ∧ Hid (OwnNames wr (N + 1) (.slice oa NM.length ocap) NM) ∧ Hid (CellsAt wr N [.slice ra s.rules.length rcap, .slice za xs.length zcap, .slice la s.links.length lcap]) ∧ Hid (SrcIn s xs ra za la rcap zcap lcap m wr) ∧ Hid (Below N w wr) ∧ N + 1 ≤ wr.heap.size) (fun kv _ => i - (intOf kv).toNat)
     case atStart => exact ⟨0, Nat.zero_le _, rfl, NI, OW, X, G, B, zV⟩
     case round =>
      clear X B zV G OW NI
      obtain ⟨k, hk, rfl, NI, OW, X, G, B, zV⟩ := hrel
      by_cases hlt2 : k < i
      case pos =>
       obtain ⟨y, hy⟩ : ∃ y, NM[k]? = some y := ⟨_, List.getElem?_eq_getElem (by omega)⟩
       obtain ⟨gb, go, e1, hgb, hc⟩ := rd_elem (ownNames_rd OW.out) HX.out
       subst e1
       have x0 : wr.cell? ⟨gb, go + i, none⟩ = some (strV x) := by have := hc 0 _ rfl; simpa using this
       obtain ⟨gb', go', e1, _, hc'⟩ := rd_elem (ownNames_rd OW.out) hy
       simp only [Option.some.injEq, Addr.mk.injEq] at e1
       obtain ⟨rfl, rfl, _⟩ := e1
       have y0 : wr.cell? ⟨gb, go + k, none⟩ = some (strV y) := by have := hc' 0 _ rfl; simpa using this
       have HY := hid hy
       have q2 : (k : Int) < (i : Int) := by omega
       have q3 : (k : Int) < (NM.length : Int) := by omega
       clear hc hc' hy
       cases e2 : (x == y)
       case true =>
        have hxy : x = y := by simpa using e2
        have hR : E = 6 := by
         have hn : ¬ NM.Nodup := by
          intro hd
          have := List.pairwise_iff_getElem.1 hd k i (by omega) hlt hlt2
          have ex := (List.getElem?_eq_some_iff.1 HX.out).2
          have ey := (List.getElem?_eq_some_iff.1 HY.out).2
          rw [ex, ey] at this
          exact this hxy.symm
         rw [← HE.out]
         have c0 : zoneC s xs 0 = 0 := HS0.out
         have c1 : zoneC s xs 1 = 6 := by show twiceE (namesOf s.zones s.links) = 6; rw [HNM.out]; unfold twiceE; rw [if_neg hn]
         unfold errsOf
         rw [if_neg (by rw [c0]; simp), if_pos (by rw [c1]; decide), c1]
        clear hxy
        go_wp2_with fail
        go_quiet (fail)
        go_wp2
        go_ret
        exact ⟨ret_int (by rw [hR]), below_drewN B.out _⟩
       have NI2 : Hid (¬ x ∈ NM.take (k + 1)) := by
        show ¬ _
        rw [List.take_add_one, HY.out]
        intro hm
        rcases List.mem_append.1 hm with hm | hm
        ·exact NI.out hm
        ·simp at hm; subst hm; simp at e2
       go_wp2_with fail
       go_quiet (fail)
       go_wp2
       go_roundw
       case rel => exact ⟨k + 1, by omega, by go_num, NI2, World.ownsRow.drew OW.out, ca_drew X.out, srcIn_w G0.out (below_drewN B.out _) hN, below_drewN B.out _, zV⟩
       case measure => simp [intOf]; omega
      have e : k = i := by omega
      subst e
      have NO2 : Hid ((NM.take (k + 1)).Nodup) := by
       show List.Nodup _
       rw [List.take_add_one, HX.out]
       refine nodup_snoc NO.out ?_
       cases h : (NM.take k).contains x
       ·rfl
       ·exact absurd (List.contains_iff_mem.1 h) NI.out
      have q2 : ¬ (k : Int) < (k : Int) := by omega
      clear hlt2
      go_wp2_with fail
      go_roundw
      case rel => exact ⟨k + 1, by omega, by go_num, NO2, OW, X, G, B, zV⟩
      case measure => simp [intOf]; omega
    have e : i = NM.length := by omega
    subst e
    have hnd : NM.Nodup := by have := NO.out; rw [List.take_length] at this; exact this
    have C1 : Hid (zoneC s xs 1 = 0) := by show twiceE (namesOf s.zones s.links) = 0; rw [HNM.out]; unfold twiceE; rw [if_pos hnd]
    have q : ¬ (NM.length : Int) < (NM.length : Int) := by omega
    clear hlt hnd hi NO
    go_wp2_with fail
    have LK : Hid (∀ (j : Nat) (l : Sx.Lk), j < 0 → s.links[j]? = some l → astrayB xs l = false) := fun j l h => absurd h (by omega)
    go_loopw [9] (fun iv wr => ∃ i : Nat, i ≤ s.links.length ∧ iv = .int .i64 i ∧ Hid (∀ (j : Nat) (l : Sx.Lk), j < i → s.links[j]? = some l → astrayB xs l = false) ∧ Hid (CellsAt wr N [.slice ra s.rules.length rcap, .slice za xs.length zcap, .slice la s.links.length lcap]) ∧ Hid (SrcIn s xs ra za la rcap zcap lcap m wr) ∧ Hid (Below N w wr) ∧ N + 1 ≤ wr.heap.size) (fun iv _ => s.links.length - (intOf iv).toNat)
    case atStart => exact ⟨0, Nat.zero_le _, rfl, LK, X, G, B, zV⟩
    case round =>
     clear X B zV G LK OW
     obtain ⟨i, hi, rfl, LK, X, G, B, zV⟩ := hrel
     obtain ⟨s0, _⟩ := ca_at X.out 0 rfl
     obtain ⟨s1, _⟩ := ca_at X.out 1 rfl
     obtain ⟨s2, _⟩ := ca_at X.out 2 rfl
     have sx := X.out.1
     by_cases hlt : i < s.links.length
     case pos =>
      obtain ⟨l, hp⟩ : ∃ x, s.links[i]? = some x := ⟨_, List.getElem?_eq_getElem hlt⟩
      obtain ⟨lb, lo, e1, hlb, hc⟩ := rd_elem G.out.links hp
      subst e1
      obtain ⟨c0, c1⟩ := rd_link hc
      have HP := hid hp
      have q : (i : Int) < (s.links.length : Int) := by omega
      have ZA : Hid (∀ W, Below wr.heap.size wr W → Calls Tryz.prog 58 #[.agg #[.slice ra s.rules.length rcap, .slice za xs.length zcap, .slice (some ⟨lb, lo, none⟩) s.links.length lcap], strV l.to] W fun e w' => e = .returned (.int .i64 (zPlace l.to xs 0)) ∧ Below W.heap.size W w') := fun W hW => zoneAt_any l.to s.zones xs ra za _ _ s.links.length rcap zcap lcap W (rdZv_below G.out.zv hW) (by omega)
      have SS := hid (show wr.cell? ⟨N, 0, none⟩ = some (.slice ra s.rules.length rcap) ∧ wr.cell? ⟨N, 1, none⟩ = some (.slice za xs.length zcap) ∧ wr.cell? ⟨N, 2, none⟩ = some (.slice (some ⟨lb, lo, none⟩) s.links.length lcap) ∧ wr.cell? ⟨lb, lo + i * 2, none⟩ = some (strV l.to) from ⟨s0, s1, s2, c0⟩)
      have KS : Hid (∀ wz, Below wr.heap.size wr wz → (wz.cell? ⟨N, 0, none⟩ = some (.slice ra s.rules.length rcap) ∧ wz.cell? ⟨N, 1, none⟩ = some (.slice za xs.length zcap) ∧ wz.cell? ⟨N, 2, none⟩ = some (.slice (some ⟨lb, lo, none⟩) s.links.length lcap) ∧ wz.cell? ⟨lb, lo + i * 2, none⟩ = some (strV l.to))) := fun wz hb => ⟨(hb.cell (p := ⟨N, 0, none⟩) sx).trans s0, (hb.cell (p := ⟨N, 1, none⟩) sx).trans s1, (hb.cell (p := ⟨N, 2, none⟩) sx).trans s2, (hb.cell (p := ⟨lb, lo + i * 2, none⟩) hlb).trans c0⟩
      clear hc hp
      obtain ⟨A, hA⟩ : ∃ A, zvHas xs l.to = A := ⟨_, rfl⟩
      obtain ⟨Pl, hPl⟩ : ∃ P, zPlace l.to xs 0 = P := ⟨_, rfl⟩
      rw [hPl] at ZA
      have hPA : (A = true → ¬ Pl < 0) ∧ (A = false → Pl < 0) := by
       refine ⟨fun h => ?_, fun h => ?_⟩
       ·obtain ⟨j, h1, _⟩ := zPlace_has xs 0 (hA.trans h)
        rw [← hPl, h1]; omega
       ·have := zPlace_none xs 0 (hA.trans h)
        rw [← hPl, this]; omega
      have HA := hid hA
      have HPA := hid hPA
      clear hA hPl hPA
      go_upto_region 24 with fail
      refine wp_region_held_drew (S := fun w' => w'.cell? ⟨N, 0, none⟩ = some (.slice ra s.rules.length rcap) ∧ w'.cell? ⟨N, 1, none⟩ = some (.slice za xs.length zcap) ∧ w'.cell? ⟨N, 2, none⟩ = some (.slice (some ⟨lb, lo, none⟩) s.links.length lcap) ∧ w'.cell? ⟨lb, lo + i * 2, none⟩ = some (strV l.to)) (by kernel_rfl) SS.out (fun hHeld => ?_)
      refine tkA 0 rfl ?_
      try simp only [Act.put, j]
      refine tkA 1 rfl ?_
      try simp only [Act.put, j]
      refine tkA 2 rfl ?_
      try simp only [Act.put, j]
      refine tkA 3 rfl ?_
      try simp only [Act.put, j]
      refine tkA 4 rfl ?_
      try simp only [Act.put, j]
      refine tkA 5 rfl ?_
      try simp only [Act.put, j]
      refine tkA 6 rfl ?_
      try simp only [Act.put, j]
      refine rdH 7 rfl fun K hK => ?_
      go_simp
      refine (ZA.out _ (show Below wr.heap.size wr wr.drew from ⟨rfl, rfl, rfl, Nat.le_refl _, fun _ _ => rfl⟩)).mono ?_
      rintro e w7 ⟨rfl, hb7⟩
      have hb : Below wr.heap.size wr w7 := below_drew1 hb7
      have S7 := KS.out w7 hb
      refine hK.out _ _ ?_ (fun hHeld => ?_)
      ·exact S7
      clear hK K
      try simp only [Act.put, j]
      refine tkA 8 rfl ?_
      try simp only [Act.put, j]
      refine wpAnyH_done (by kernel_rfl) ?_ _
      have B7 := hid (below_on B.out (by omega) hb)
      have X7 := hid (ca_below X.out hb)
      have G7 := hid (srcIn_w G0.out B7.out hN)
      have z7 : N + 1 ≤ w7.heap.size := Nat.le_trans zV hb.size
      clear SS KS ZA s0 s1 s2 sx c0 c1 hlb hb S7 hHeld B X G zV
      cases A
      case false =>
       have hneg : Pl < 0 := HPA.out.2 rfl
       have hd : decide (Pl < 0) = true := by simp [hneg]
       have hR : E = 5 := by
        rw [← HE.out]
        have k0 : zoneC s xs 0 = 0 := HS0.out
        have k2 : zoneC s xs 2 = 5 := by
         show thereE s.rules s.links xs = 5
         unfold thereE
         rw [if_pos]
         have : s.links.any (astrayB xs) = true := List.any_eq_true.2 ⟨l, List.mem_of_getElem? HP.out, by rw [astray_has, HA.out]; rfl⟩
         rw [this]; rfl
        unfold errsOf
        rw [if_neg (by rw [k0]; simp), if_neg (by rw [C1.out]; simp), if_pos (by rw [k2]; decide), k2]
       go_wp2
       go_ret
       exact ⟨ret_int (by first | rw [hR] | rfl), B7.out⟩
      have hpos : ¬ Pl < 0 := HPA.out.1 rfl
      have hd : decide (Pl < 0) = false := by simp; omega
      have LK2 : Hid (∀ (j : Nat) (u : Sx.Lk), j < i + 1 → s.links[j]? = some u → astrayB xs u = false) := fun j u hj hu => by
       rcases Nat.lt_or_ge j i with z | z
       ·exact LK.out j u z hu
       ·have e : j = i := by omega
        subst e
        rw [HP.out] at hu
        simp at hu; subst hu
        rw [astray_has, HA.out]; rfl
      go_wp2
      go_roundw
      case rel => exact ⟨i + 1, by omega, by go_num, LK2, X7, G7, B7, z7⟩
      case measure => simp [intOf]; omega
     have e : i = s.links.length := by omega
     subst e
     have C2 : Hid (s.links.any (astrayB xs) = false) := by
      show _ = _
      rw [List.any_eq_false]
      intro l hl
      obtain ⟨j, hj⟩ := List.mem_iff_getElem?.1 hl
      rw [LK.out j l (List.getElem?_eq_some_iff.1 hj).1 hj]; simp
     have q : ¬ (s.links.length : Int) < (s.links.length : Int) := by omega
     clear hlt LK hi
     go_wp2_with fail
     have EK : Hid (∀ (j : Nat) (p : ZV), j < 0 → xs[j]? = some p → ∀ x ∈ p.z.eras, lacksB s.rules x = false) := fun j p h => absurd h (by omega)
     clear s0 s1 s2 sx
     go_loopw [10] (fun iv wr => ∃ i : Nat, i ≤ xs.length ∧ iv = .int .i64 i ∧ Hid (∀ (j : Nat) (p : ZV), j < i → xs[j]? = some p → ∀ x ∈ p.z.eras, lacksB s.rules x = false) ∧ Hid (CellsAt wr N [.slice ra s.rules.length rcap, .slice za xs.length zcap, .slice la s.links.length lcap]) ∧ Hid (SrcIn s xs ra za la rcap zcap lcap m wr) ∧ Hid (Below N w wr) ∧ N + 1 ≤ wr.heap.size) (fun iv _ => xs.length - (intOf iv).toNat)
     case atStart => exact ⟨0, Nat.zero_le _, rfl, EK, X, G, B, zV⟩
     case round =>
      clear X B zV G EK
      obtain ⟨i, hi, rfl, EK, X, G, B, zV⟩ := hrel
      by_cases hlt : i < xs.length
      case pos =>
       obtain ⟨p, hp⟩ : ∃ x, xs[i]? = some x := ⟨_, List.getElem?_eq_getElem hlt⟩
       have HP := hid hp
       have q : (i : Int) < (xs.length : Int) := by omega
       have hpl : p.z.eras.length ≤ 8 := HEL.out p (List.mem_of_getElem? hp)
       have IK : Hid (∀ (j : Nat) (x : Sx.Er), j < 0 → p.z.eras[j]? = some x → lacksB s.rules x = false) := fun j x h => absurd h (by omega)
       obtain ⟨s1, _⟩ := ca_at X.out 1 rfl
       have sx := X.out.1
       clear hp
       go_wp2_with fail
       clear s1 sx
       go_loopw [11] (fun kv wr => ∃ k : Nat, k ≤ p.z.eras.length ∧ kv = .int .i64 k ∧ Hid (∀ (j : Nat) (x : Sx.Er), j < k → p.z.eras[j]? = some x → lacksB s.rules x = false) ∧ Hid (CellsAt wr N [.slice ra s.rules.length rcap, .slice za xs.length zcap, .slice la s.links.length lcap]) ∧ Hid (SrcIn s xs ra za la rcap zcap lcap m wr) ∧ Hid (Below N w wr) ∧ N + 1 ≤ wr.heap.size) (fun kv _ => p.z.eras.length - (intOf kv).toNat)
       case atStart => exact ⟨0, Nat.zero_le _, rfl, IK, X, G, B, zV⟩
       case round =>
        clear X B zV G IK
        obtain ⟨k, hk, rfl, IK, X, G, B, zV⟩ := hrel
        obtain ⟨s1, _⟩ := ca_at X.out 1 rfl
        have sx := X.out.1
        obtain ⟨zb, zo, e1, hzb, hc⟩ := rd_elem G.out.zv.rd HP.out
        subst e1
        have z1 : wr.cell? ⟨zb, zo + i * 2 + 1, none⟩ = some (.slice p.a p.z.eras.length p.c) := hc 1 _ rfl
        clear hc
        by_cases hlt2 : k < p.z.eras.length
        case pos =>
         obtain ⟨x, hx⟩ : ∃ x, p.z.eras[k]? = some x := ⟨_, List.getElem?_eq_getElem hlt2⟩
         obtain ⟨eb, eo, e1, heb, hc⟩ := rd_elem (G.out.zv.eras p (List.mem_of_getElem? HP.out)) hx
         rw [e1] at z1
         have HPA := hid e1
         have c1 : wr.cell? ⟨eb, eo + k * 10 + 1, none⟩ = some (strV x.rules) := hc 1 _ rfl
         have HX := hid hx
         have q2 : (k : Int) < (p.z.eras.length : Int) := by omega
         obtain ⟨TB, hTB⟩ : ∃ b, x.rules.isEmpty = b := ⟨_, rfl⟩
         have HTB := hid hTB
         clear hc hx e1 hTB
         have TH : Hid (TB = (x.rules.isEmpty || (s.rules.take 0).any fun r => r.name == x.rules)) := by show _ = _; rw [List.take_zero, HTB.out]; simp
         have hem : (x.rules == []) = TB := by rw [← HTB.out]; cases x.rules <;> rfl
         go_wp2_with fail
         clear s1 sx z1 c1 hzb heb hem
         go_loopw [12, 13] (fun tv nv wr => ∃ (n : Nat) (t : Bool), n ≤ s.rules.length ∧ nv = .int .i64 n ∧ tv = .bool t ∧ Hid (t = (x.rules.isEmpty || (s.rules.take n).any fun r => r.name == x.rules)) ∧ Hid (CellsAt wr N [.slice ra s.rules.length rcap, .slice (some ⟨zb, zo, none⟩) xs.length zcap, .slice la s.links.length lcap]) ∧ Hid (SrcIn s xs ra (some ⟨zb, zo, none⟩) la rcap zcap lcap m wr) ∧ Hid (Below N w wr) ∧ N + 1 ≤ wr.heap.size) (fun _ nv _ => s.rules.length - (intOf nv).toNat)
         case atStart => exact ⟨0, TB, Nat.zero_le _, rfl, rfl, TH, X, G, B, zV⟩
         case round =>
          clear X B zV G TH HTB
          obtain ⟨n, t, hn, rfl, rfl, TH, X, G, B, zV⟩ := hrel
          obtain ⟨s0, _⟩ := ca_at X.out 0 rfl
          obtain ⟨s1, _⟩ := ca_at X.out 1 rfl
          have sx := X.out.1
          by_cases hlt3 : n < s.rules.length
          case pos =>
           obtain ⟨r, hr⟩ : ∃ x, s.rules[n]? = some x := ⟨_, List.getElem?_eq_getElem hlt3⟩
           obtain ⟨rb, ro, e1, hrb, hc⟩ := rd_elem G.out.rules hr
           subst e1
           have r0 : wr.cell? ⟨rb, ro + n * 11, none⟩ = some (strV r.name) := by have := hc 0 _ rfl; simpa using this
           obtain ⟨zb', zo', e1, hzb, hc'⟩ := rd_elem G.out.zv.rd HP.out
           simp only [Option.some.injEq, Addr.mk.injEq] at e1
           obtain ⟨rfl, rfl, _⟩ := e1
           have z1 : wr.cell? ⟨zb, zo + i * 2 + 1, none⟩ = some (.slice p.a p.z.eras.length p.c) := hc' 1 _ rfl
           rw [HPA.out] at z1
           obtain ⟨eb', eo', e1, heb, hc''⟩ := rd_elem (G.out.zv.eras p (List.mem_of_getElem? HP.out)) HX.out
           rw [HPA.out] at e1
           simp only [Option.some.injEq, Addr.mk.injEq] at e1
           obtain ⟨rfl, rfl, _⟩ := e1
           have c1 : wr.cell? ⟨eb, eo + k * 10 + 1, none⟩ = some (strV x.rules) := hc'' 1 _ rfl
           have TH2 : Hid ((t || r.name == x.rules) = (x.rules.isEmpty || (s.rules.take (n + 1)).any fun r => r.name == x.rules)) := by
            show _ = _
            rw [TH.out, List.take_add_one, hr, Option.toList_some, List.any_append, Bool.or_assoc]; simp
           have q3 : (n : Int) < (s.rules.length : Int) := by omega
           clear hc hc' hc'' hr
           cases e4 : (r.name == x.rules) <;> cases t
           all_goals
            rw [e4] at TH2
            go_wp2_with fail
            go_quiet (fail)
            go_wp2
            go_roundw
            case rel => exact ⟨n + 1, _, by omega, by go_num, rfl, TH2, ca_drew X.out, srcIn_w G0.out (below_drewN B.out _) hN, below_drewN B.out _, zV⟩
            case measure => simp [intOf]; omega
          have e : n = s.rules.length := by omega
          subst e
          have TH3 : Hid (t = (x.rules.isEmpty || s.rules.any fun r => r.name == x.rules)) := by have := TH.out; rw [List.take_length] at this; exact this
          have q3 : ¬ (s.rules.length : Int) < (s.rules.length : Int) := by omega
          clear hlt3 hn TH
          cases t
          case false =>
           have hlk : lacksB s.rules x = true := by
            have := TH3.out
            unfold lacksB
            cases h1 : x.rules.isEmpty <;> cases h2 : (s.rules.any fun r => r.name == x.rules) <;> first | rfl | (rw [h1, h2] at this; cases this)
           have hR : E = 5 := by
            rw [← HE.out]
            have k0 : zoneC s xs 0 = 0 := HS0.out
            have k2 : zoneC s xs 2 = 5 := by
             show thereE s.rules s.links xs = 5
             unfold thereE
             rw [if_pos]
             have : (erasOf xs).any (lacksB s.rules) = true := List.any_eq_true.2 ⟨x, List.mem_flatMap.2 ⟨p, List.mem_of_getElem? HP.out, List.mem_of_getElem? HX.out⟩, hlk⟩
             rw [this, Bool.or_true]
            unfold errsOf
            rw [if_neg (by rw [k0]; simp), if_neg (by rw [C1.out]; simp), if_pos (by rw [k2]; decide), k2]
           clear hlk
           go_wp2
           go_ret
           exact ⟨ret_int (by first | rw [hR] | rfl), B.out⟩
          have IK2 : Hid (∀ (j : Nat) (u : Sx.Er), j < k + 1 → p.z.eras[j]? = some u → lacksB s.rules u = false) := fun j u hj hu => by
           rcases Nat.lt_or_ge j k with z | z
           ·exact IK.out j u z hu
           ·have e : j = k := by omega
            subst e
            rw [HX.out] at hu
            simp at hu; subst hu
            have := TH3.out
            unfold lacksB
            cases h1 : x.rules.isEmpty <;> cases h2 : (s.rules.any fun r => r.name == x.rules) <;> first | rfl | (rw [h1, h2] at this; cases this)
          go_wp2_with fail
          go_roundw
          case rel => exact ⟨k + 1, by omega, by go_num, IK2, X, G, B, zV⟩
          case measure => simp [intOf]; omega
        have e : k = p.z.eras.length := by omega
        subst e
        have EK2 : Hid (∀ (j : Nat) (u : ZV), j < i + 1 → xs[j]? = some u → ∀ x ∈ u.z.eras, lacksB s.rules x = false) := fun j u hj hu => by
         rcases Nat.lt_or_ge j i with z | z
         ·exact EK.out j u z hu
         ·have e : j = i := by omega
          subst e
          rw [HP.out] at hu
          simp at hu; subst hu
          intro x hx
          obtain ⟨n, hn⟩ := List.mem_iff_getElem?.1 hx
          exact IK.out n x (List.getElem?_eq_some_iff.1 hn).1 hn
        have q2 : ¬ (p.z.eras.length : Int) < (p.z.eras.length : Int) := by omega
        clear hlt2 hk IK
        go_wp2_with fail
        go_roundw
        case rel => exact ⟨i + 1, by omega, by go_num, EK2, X, G, B, zV⟩
        case measure => simp [intOf]; omega
      have e : i = xs.length := by omega
      subst e
      have C3 : Hid (zoneC s xs 2 = 0) := by
       show thereE s.rules s.links xs = 0
       unfold thereE
       have : (erasOf xs).any (lacksB s.rules) = false := by
        rw [List.any_eq_false]
        intro x hx
        obtain ⟨p, hp, hx⟩ := List.mem_flatMap.1 hx
        obtain ⟨j, hj⟩ := List.mem_iff_getElem?.1 hp
        rw [EK.out j p (List.getElem?_eq_some_iff.1 hj).1 hj x hx]; simp
       rw [C2.out, this, if_neg (by simp)]
      obtain ⟨s1, _⟩ := ca_at X.out 1 rfl
      have sx := X.out.1
      have q : ¬ (xs.length : Int) < (xs.length : Int) := by omega
      clear hlt EK hi
      go_wp2_with fail
      obtain ⟨A, hA⟩ : ∃ A, askE s.rules (erasOf xs) = A := ⟨_, rfl⟩
      have HA := hid hA
      have EK : Hid (askE s.rules (erasOf (xs.drop 0)) = A) := by show _ = _; rw [List.drop_zero]; exact hA
      have TO : Hid (∀ (x : Sx.Er) W, RdRules W (.slice ra s.rules.length rcap) s.rules → Calls Tryz.prog 59 #[.slice ra s.rules.length rcap, strV x.rules, .int .i64 x.shift] W (TmEnd s.rules x.rules x.shift W)) := fun x W hW => timesOf_any s.rules _ x.rules x.shift W hW G0.out.size.rules
      clear s1 sx hA
      go_loopw [14] (fun iv wr => ∃ i : Nat, i ≤ xs.length ∧ iv = .int .i64 i ∧ Hid (askE s.rules (erasOf (xs.drop i)) = A) ∧ Hid (CellsAt wr N [.slice ra s.rules.length rcap, .slice za xs.length zcap, .slice la s.links.length lcap]) ∧ Hid (SrcIn s xs ra za la rcap zcap lcap m wr) ∧ Hid (Below N w wr) ∧ N + 1 ≤ wr.heap.size) (fun iv _ => xs.length - (intOf iv).toNat)
      case atStart => exact ⟨0, Nat.zero_le _, rfl, EK, X, G, B, zV⟩
      case round =>
       clear X B zV G EK
       obtain ⟨i, hi, rfl, EK, X, G, B, zV⟩ := hrel
       by_cases hlt : i < xs.length
       case pos =>
        obtain ⟨p, hp⟩ : ∃ x, xs[i]? = some x := ⟨_, List.getElem?_eq_getElem hlt⟩
        have HP := hid hp
        have q : (i : Int) < (xs.length : Int) := by omega
        have hpl : p.z.eras.length ≤ 8 := HEL.out p (List.mem_of_getElem? hp)
        have IK : Hid (askE s.rules (p.z.eras.drop 0 ++ erasOf (xs.drop (i + 1))) = A) := by
         show _ = _
         have := EK.out
         rw [Sx.drop_get hp] at this
         rw [List.drop_zero]; exact this
        obtain ⟨s1, _⟩ := ca_at X.out 1 rfl
        have sx := X.out.1
        clear hp
        go_wp2_with fail
        clear s1 sx
        go_loopw [15] (fun kv wr => ∃ k : Nat, k ≤ p.z.eras.length ∧ kv = .int .i64 k ∧ Hid (askE s.rules (p.z.eras.drop k ++ erasOf (xs.drop (i + 1))) = A) ∧ Hid (CellsAt wr N [.slice ra s.rules.length rcap, .slice za xs.length zcap, .slice la s.links.length lcap]) ∧ Hid (SrcIn s xs ra za la rcap zcap lcap m wr) ∧ Hid (Below N w wr) ∧ N + 1 ≤ wr.heap.size) (fun kv _ => p.z.eras.length - (intOf kv).toNat)
        case atStart => exact ⟨0, Nat.zero_le _, rfl, IK, X, G, B, zV⟩
        case round =>
         clear X B zV G IK
         obtain ⟨k, hk, rfl, IK, X, G, B, zV⟩ := hrel
         obtain ⟨s1, _⟩ := ca_at X.out 1 rfl
         have sx := X.out.1
         obtain ⟨zb, zo, e1, hzb, hc⟩ := rd_elem G.out.zv.rd HP.out
         subst e1
         have z1 : wr.cell? ⟨zb, zo + i * 2 + 1, none⟩ = some (.slice p.a p.z.eras.length p.c) := hc 1 _ rfl
         clear hc
         by_cases hlt2 : k < p.z.eras.length
         case pos =>
          obtain ⟨x, hx⟩ : ∃ x, p.z.eras[k]? = some x := ⟨_, List.getElem?_eq_getElem hlt2⟩
          obtain ⟨eb, eo, e1, heb, hc⟩ := rd_elem (G.out.zv.eras p (List.mem_of_getElem? HP.out)) hx
          rw [e1] at z1
          obtain ⟨c0, c1, c2, c3, c4, c5, c6, c7, c8, c9⟩ := rd_era hc
          have HX := hid hx
          have IK1 : Hid (askE s.rules (x :: (p.z.eras.drop (k + 1) ++ erasOf (xs.drop (i + 1)))) = A) := by show _ = _; have := IK.out; rw [Sx.drop_get hx] at this; exact this
          have q2 : (k : Int) < (p.z.eras.length : Int) := by omega
          obtain ⟨w2, g2, L0, hb2, sz2⟩ := named_new wr #[.int .i64 x.shift, strV x.rules, .int .i64 x.save, strV x.format, .bool x.opn, .int .i64 x.uy, .int .i64 x.um, .int .i64 x.ud, .int .i64 x.uat, .int .i64 x.uclock] 67
          obtain ⟨bE, hbE⟩ : ∃ b, wr.heap.size = b := ⟨_, rfl⟩
          have LE : Hid (CellsAt w2 bE [.int .i64 x.shift, strV x.rules, .int .i64 x.save, strV x.format, .bool x.opn, .int .i64 x.uy, .int .i64 x.um, .int .i64 x.ud, .int .i64 x.uat, .int .i64 x.uclock]) := hbE ▸ L0
          have X2 := hid (ca_below X.out hb2)
          have B2 := hid (below_on B.out (by omega) hb2)
          have G2 := hid (srcIn_w G0.out B2.out hN)
          have z2 : N + 1 ≤ w2.heap.size := Nat.le_trans zV hb2.size
          clear hc hx e1 L0 hb2 sz2 IK
          obtain ⟨t0, _⟩ := ca_at X2.out 0 rfl
          have tx := X2.out.1
          obtain ⟨e0, _⟩ := ca_at LE.out 0 rfl
          obtain ⟨e1, _⟩ := ca_at LE.out 1 rfl
          have se := LE.out.1
          by_cases hre : x.rules = []
          case pos =>
           have hem : (x.rules == []) = true := by rw [hre]; rfl
           have IK2 : Hid (askE s.rules (p.z.eras.drop (k + 1) ++ erasOf (xs.drop (i + 1))) = A) := by show _ = _; have := IK1.out; rw [askE_cons, if_pos (.inl hre)] at this; exact this
           clear hre
           go_wp2_with fail
           go_roundw
           case rel => exact ⟨k + 1, by omega, by go_num, IK2, X2, G2, B2, z2⟩
           case measure => simp [intOf]; omega
          have hem : (x.rules == []) = false := by cases h : x.rules with
           | nil => exact absurd h hre
           | cons a l => rfl
          have HC := hid (TO.out x w2 G2.out.rules)
          have HRE := hid hre
          clear hre
          go_wp2_with fail
          refine HC.out.mono ?_
          rintro e w3 ⟨tv, rfl, _, hb3⟩
          have X3 := hid (ca_below X2.out hb3)
          have B3 := hid (below_on B2.out (by omega) hb3)
          have G3 := hid (srcIn_w G0.out B3.out hN)
          have z3 : N + 1 ≤ w3.heap.size := Nat.le_trans z2 hb3.size
          obtain ⟨TE, hTE⟩ : ∃ e, Sx.timesE s.rules x.rules x.shift = e := ⟨_, rfl⟩
          rw [hTE]
          have IK4 : Hid ((if TE = 0 then askE s.rules (p.z.eras.drop (k + 1) ++ erasOf (xs.drop (i + 1))) else TE) = A) := by
           show _ = _
           have := IK1.out
           rw [askE_cons, hTE] at this
           by_cases z : TE = 0
           ·rw [if_pos (.inr z)] at this; rw [if_pos z]; exact this
           ·rw [if_neg (by rintro (y | y); exact HRE.out y; exact z y)] at this; rw [if_neg z]; exact this
          clear hb3 hTE HC s1 sx z1 c0 c1 c2 c3 c4 c5 c6 c7 c8 c9 heb hzb g2 hbE t0 tx e0 e1 se X B G zV X2 B2 G2 z2 LE IK1
          by_cases hz : TE = 0
          case neg =>
           have hR : E = TE := by
            rw [← HE.out]
            have k0 : zoneC s xs 0 = 0 := HS0.out
            have k3 : zoneC s xs 3 = TE := by show askE s.rules (erasOf xs) = TE; rw [HA.out, ← IK4.out, if_neg hz]
            unfold errsOf
            rw [if_neg (by rw [k0]; simp), if_neg (by rw [C1.out]; simp), if_neg (by rw [C3.out]; simp), if_pos (by rw [k3]; exact hz), k3]
           have p1 : (TE != 0) = true := by simp [hz]
           have HR := hid hR
           clear hR
           go_wp2
           go_ret
           exact ⟨ret_int (by rw [HR.out]), B3.out⟩
          have IK5 : Hid (askE s.rules (p.z.eras.drop (k + 1) ++ erasOf (xs.drop (i + 1))) = A) := by show _ = _; have := IK4.out; rw [if_pos hz] at this; exact this
          subst hz
          go_wp2_with fail
          go_roundw
          case rel => exact ⟨k + 1, by omega, by go_num, IK5, X3, G3, B3, z3⟩
          case measure => simp [intOf]; omega
         have e : k = p.z.eras.length := by omega
         subst e
         have EK2 : Hid (askE s.rules (erasOf (xs.drop (i + 1))) = A) := by show _ = _; have := IK.out; rw [List.drop_length, List.nil_append] at this; exact this
         have q2 : ¬ (p.z.eras.length : Int) < (p.z.eras.length : Int) := by omega
         clear hlt2 hk IK
         go_wp2_with fail
         go_roundw
         case rel => exact ⟨i + 1, by omega, by go_num, EK2, X, G, B, zV⟩
         case measure => simp [intOf]; omega
       have e : i = xs.length := by omega
       subst e
       have C4 : Hid (zoneC s xs 3 = 0) := by show askE s.rules (erasOf xs) = 0; rw [HA.out, ← EK.out, List.drop_length]; rfl
       obtain ⟨s1, _⟩ := ca_at X.out 1 rfl
       have sx := X.out.1
       have q : ¬ (xs.length : Int) < (xs.length : Int) := by omega
       clear hlt EK hi
       go_wp2_with fail
       have SOK := Sx.src_okZ HS0.out
       have EO : Hid (∀ p ∈ xs, ∀ W, RdEras W (.slice p.a p.z.eras.length p.c) p.z.eras → Calls Tryz.prog 20 #[.agg #[strV p.z.name, .slice p.a p.z.eras.length p.c]] W fun e w' => ∃ v, e = .returned v ∧ OwnEnds w' W.heap.size v (endsE p.z.eras) ∧ Below W.heap.size W w') := fun p hp W hW =>
        rEndsOf_any p.z.name p.z.eras p.a p.c W hW (lastO_zone (SOK.zone p.z (zv_mem G.out.zv hp))) (by have := HEL.out p hp; omega) fun e he => (Sx.zone_eras (SOK.zone p.z (zv_mem G.out.zv hp)) e he).till
       have EK : Hid (∀ (j : Nat) (p : ZV), j < 0 → xs[j]? = some p → risingB (endsE p.z.eras) = true) := fun j p h => absurd h (by omega)
       clear s1 sx SOK
       go_loopw [19] (fun iv wr => ∃ i : Nat, i ≤ xs.length ∧ iv = .int .i64 i ∧ Hid (∀ (j : Nat) (p : ZV), j < i → xs[j]? = some p → risingB (endsE p.z.eras) = true) ∧ Hid (CellsAt wr N [.slice ra s.rules.length rcap, .slice za xs.length zcap, .slice la s.links.length lcap]) ∧ Hid (SrcIn s xs ra za la rcap zcap lcap m wr) ∧ Hid (Below N w wr) ∧ N + 1 ≤ wr.heap.size) (fun iv _ => xs.length - (intOf iv).toNat)
       case atStart => exact ⟨0, Nat.zero_le _, rfl, EK, X, G, B, zV⟩
       case round =>
        clear X B zV G EK
        obtain ⟨i, hi, rfl, EK, X, G, B, zV⟩ := hrel
        obtain ⟨s1, _⟩ := ca_at X.out 1 rfl
        have sx := X.out.1
        by_cases hlt : i < xs.length
        case pos =>
         obtain ⟨p, hp⟩ : ∃ x, xs[i]? = some x := ⟨_, List.getElem?_eq_getElem hlt⟩
         have HP := hid hp
         have q : (i : Int) < (xs.length : Int) := by omega
         obtain ⟨zb, zo, e1, hzb, hc⟩ := rd_elem G.out.zv.rd hp
         subst e1
         have z0 : wr.cell? ⟨zb, zo + i * 2, none⟩ = some (strV p.z.name) := by have := hc 0 _ rfl; simpa using this
         have z1 : wr.cell? ⟨zb, zo + i * 2 + 1, none⟩ = some (.slice p.a p.z.eras.length p.c) := hc 1 _ rfl
         have HC := hid (EO.out p (List.mem_of_getElem? hp) wr (G.out.zv.eras p (List.mem_of_getElem? hp)))
         have hL0 : (endsE p.z.eras).length ≤ 1000 := by
          have h1 := HEL.out p (List.mem_of_getElem? hp)
          have h2 : (endsE p.z.eras).length ≤ p.z.eras.length := by unfold endsE; rw [List.length_map]; exact List.length_filter_le _ _
          omega
         obtain ⟨L, hL⟩ : ∃ L, endsE p.z.eras = L := ⟨_, rfl⟩
         rw [hL] at HC hL0
         have HL := hid hL
         clear hc hp hL
         go_wp2_with fail
         refine HC.out.mono ?_
         rintro e w1 ⟨lv, rfl, hO, hb⟩
         have X1 := hid (ca_below X.out hb)
         have B1 := hid (below_on B.out (by omega) hb)
         have G1 := hid (srcIn_w G0.out B1.out hN)
         have z1' : N + 1 ≤ w1.heap.size := Nat.le_trans zV hb.size
         have RI := hid (ownEnds_rd hO)
         obtain ⟨oa2, oc2, rfl⟩ := owns_shape0 hO
         have AK : Hid (∀ (j : Nat) (a b : Int), j < 0 → L[j]? = some a → L[j + 1]? = some b → a < b) := fun j a b h => absurd h (by omega)
         clear hO hb HC X B G zV s1 sx z0 z1 hzb
         go_wp2_with fail
         go_loopw [21] (fun kv wr => ∃ k : Nat, k ≤ L.length ∧ kv = .int .i64 ((k : Int) + 1) ∧ Hid (∀ (j : Nat) (a b : Int), j < k → L[j]? = some a → L[j + 1]? = some b → a < b) ∧ Hid (RdInts wr (.slice oa2 L.length oc2) L) ∧ Hid (CellsAt wr N [.slice ra s.rules.length rcap, .slice (some ⟨zb, zo, none⟩) xs.length zcap, .slice la s.links.length lcap]) ∧ Hid (SrcIn s xs ra (some ⟨zb, zo, none⟩) la rcap zcap lcap m wr) ∧ Hid (Below N w wr) ∧ N + 1 ≤ wr.heap.size) (fun kv _ => L.length + 1 - (intOf kv).toNat)
         case atStart => exact ⟨0, Nat.zero_le _, rfl, AK, RI, X1, G1, B1, z1'⟩
         case round =>
          clear X1 B1 G1 z1' RI AK
          obtain ⟨k, hk, rfl, AK, RI, X, G, B, zV⟩ := hrel
          by_cases hlt2 : k + 1 < L.length
          case pos =>
           obtain ⟨a, ha⟩ : ∃ a, L[k]? = some a := ⟨_, List.getElem?_eq_getElem (by omega)⟩
           obtain ⟨b, hb⟩ : ∃ b, L[k + 1]? = some b := ⟨_, List.getElem?_eq_getElem hlt2⟩
           obtain ⟨pb, po, _, e1, pl, pc⟩ := rdInts_at RI.out ha
           simp only [Value.slice.injEq] at e1
           obtain ⟨rfl, _, rfl⟩ := e1
           obtain ⟨qb, qo, _, e2, ql, qc⟩ := rdInts_at RI.out hb
           simp only [Value.slice.injEq, Option.some.injEq, Addr.mk.injEq] at e2
           obtain ⟨⟨rfl, rfl, _⟩, _, rfl⟩ := e2
           have HAA := hid ha
           have HBB := hid hb
           have q2 : (k : Int) + 1 < (L.length : Int) := by omega
           have q3 : (k : Int) < (L.length : Int) := by omega
           have b3 : (0 : Int) ≤ (k : Int) + 1 := by omega
           clear ha hb
           by_cases hab : b ≤ a
           case pos =>
            have hR : E = 4 := by
             have hn : risingB L = false := by
              cases h : risingB L
              ·rfl
              ·have := rising_adj h HAA.out HBB.out; omega
             rw [← HE.out]
             have k0 : zoneC s xs 0 = 0 := HS0.out
             have k4 : zoneC s xs 4 = 4 := by
              show endsErr xs = 4
              unfold endsErr
              rw [if_pos (List.any_eq_true.2 ⟨p, List.mem_of_getElem? HP.out, by rw [HL.out, hn]; rfl⟩)]
             unfold errsOf
             rw [if_neg (by rw [k0]; simp), if_neg (by rw [C1.out]; simp), if_neg (by rw [C3.out]; simp), if_neg (by rw [C4.out]; simp), k4]
            have HR := hid hR
            clear hR
            go_wp2_with fail
            go_quiet (fail)
            go_wp2
            go_ret
            exact ⟨ret_int (by rw [HR.out]), below_drewN B.out _⟩
           have AK2 : Hid (∀ (j : Nat) (a b : Int), j < k + 1 → L[j]? = some a → L[j + 1]? = some b → a < b) := fun j u v hj hu hv => by
            rcases Nat.lt_or_ge j k with z | z
            ·exact AK.out j u v z hu hv
            ·have e : j = k := by omega
             subst e
             rw [HAA.out] at hu
             rw [HBB.out] at hv
             simp at hu hv
             omega
           go_wp2_with fail
           go_quiet (fail)
           go_wp2
           go_roundw
           case rel => exact ⟨k + 1, by omega, by go_num, AK2, RI.out, ca_drew X.out, srcIn_w G0.out (below_drewN B.out _) hN, below_drewN B.out _, zV⟩
           case measure => simp [intOf]; omega
          have hri : risingB L = true := rising_of fun j a b h1 h2 => AK.out j a b (by have := (List.getElem?_eq_some_iff.1 h2).1; omega) h1 h2
          have EK2 : Hid (∀ (j : Nat) (u : ZV), j < i + 1 → xs[j]? = some u → risingB (endsE u.z.eras) = true) := fun j u hj hu => by
           rcases Nat.lt_or_ge j i with z | z
           ·exact EK.out j u z hu
           ·have e : j = i := by omega
            subst e
            rw [HP.out] at hu
            simp at hu; subst hu
            rw [HL.out]; exact hri
          have q2 : ¬ (k : Int) + 1 < (L.length : Int) := by omega
          clear hri hlt2
          go_wp2_with fail
          go_roundw
          case rel => exact ⟨i + 1, by omega, by go_num, EK2, X, G, B, zV⟩
          case measure => simp [intOf]; omega
        have e : i = xs.length := by omega
        subst e
        have hR : E = 0 := by
         rw [← HE.out]
         have k0 : zoneC s xs 0 = 0 := HS0.out
         have k4 : zoneC s xs 4 = 0 := by
          show endsErr xs = 0
          unfold endsErr
          rw [if_neg]
          intro h
          obtain ⟨p, hp, h⟩ := List.any_eq_true.1 h
          obtain ⟨j, hj⟩ := List.mem_iff_getElem?.1 hp
          rw [EK.out j p (List.getElem?_eq_some_iff.1 hj).1 hj] at h
          cases h
         unfold errsOf
         rw [if_neg (by rw [k0]; simp), if_neg (by rw [C1.out]; simp), if_neg (by rw [C3.out]; simp), if_neg (by rw [C4.out]; simp), k4]
        have HR := hid hR
        have q : ¬ (xs.length : Int) < (xs.length : Int) := by omega
        clear hR hlt EK hi
        go_wp2
        go_ret
        exact ⟨ret_int (by rw [HR.out]), B.out⟩
end Go.Proofs.YtkhlkohlccndgaaGreat
namespace Go.Proofs.YtkhlkohlccndgaaGreat
open Go.RowKit Go.Shelf
attribute [local go_sem] Oper.semAt_some
attribute [local go_sem ↓] Go.wp_at_zero Go.wp_at_succ
theorem eraC_one (x : Sx.Er) : ∀ u ∈ eraCells x, u.oneCell' = true := by
 intro u hu
 simp only [eraCells, List.mem_cons, List.not_mem_nil, or_false] at hu
 rcases hu with rfl | rfl | rfl | rfl | rfl | rfl | rfl | rfl | rfl | rfl <;> rfl
theorem sameUntil_same (y m d a c : Int) (w : World) :
  Calls Tryz.prog 61 #[.agg #[.int .i64 y, .int .i64 m, .int .i64 d, .int .i64 a, .int .i64 c], .agg #[.int .i64 y, .int .i64 m, .int .i64 d, .int .i64 a, .int .i64 c]] w fun e w' => e = .returned (.bool true) ∧ Below w.heap.size w w' := by
 have B2 := hid (((Below.refl w.heap.size w).alloc (Nat.le_refl _) (.cells #[.int .i64 y, .int .i64 m, .int .i64 d, .int .i64 a, .int .i64 c] 65)).alloc (by simp) (.cells #[.int .i64 y, .int .i64 m, .int .i64 d, .int .i64 a, .int .i64 c] 65))
 go_enter Tryz.func61, Tryz.ntmps61
 go_wp2
 go_ret
 exact ⟨rfl, B2.out⟩
theorem sameZone_yes (nm : Tx.Bs) (es : List Sx.Er) (a b : Option Addr) (c d : Nat) (w : World) (h1 : RdEras w (.slice a es.length c) es) (h2 : RdEras w (.slice b es.length d) es) (hl : es.length ≤ 1000) :
  Calls Tryz.prog 21 #[.agg #[strV nm, .slice a es.length c], .agg #[strV nm, .slice b es.length d]] w fun e w' => e = .returned (.bool true) ∧ Below w.heap.size w w' := by
 obtain ⟨N, hN⟩ : ∃ N, w.heap.size = N := ⟨_, rfl⟩
 obtain ⟨V0, g0, X0, hb0, sz0⟩ := named_new w #[strV nm, .slice a es.length c] 44
 obtain ⟨V, g1, Y0, hb1, sz1⟩ := named_new V0 #[strV nm, .slice b es.length d] 44
 have gV : (w.alloc (.cells #[strV nm, .slice a es.length c] 44)).alloc (.cells #[strV nm, .slice b es.length d] 44) = V := by rw [g0]; exact g1
 rw [hN] at X0
 have e1 : V0.heap.size = N + 1 := by omega
 rw [e1] at Y0
 have X : Hid (CellsAt V N [strV nm, .slice a es.length c]) := ca_below X0 hb1
 have Y : Hid (CellsAt V (N + 1) [strV nm, .slice b es.length d]) := Y0
 have B : Hid (Below N w V) := by show Below _ _ _; rw [← hN]; exact hb0.trans (hb1.mono (by omega))
 have H1 := hid h1
 have H2 := hid h2
 have zV : N + 2 ≤ V.heap.size := by omega
 clear h1 h2 X0 Y0 hb0 hb1 sz0 sz1 g0 g1 e1
 obtain ⟨n0, _⟩ := ca_at X.out 0 rfl
 obtain ⟨n1, _⟩ := ca_at X.out 1 rfl
 have sx := X.out.1
 obtain ⟨m0, _⟩ := ca_at Y.out 0 rfl
 obtain ⟨m1, _⟩ := ca_at Y.out 1 rfl
 have sy := Y.out.1
 go_enter Tryz.func21, Tryz.ntmps21
 simp only [hN]
 go_wp2_with fail
 clear n0 n1 sx m0 m1 sy gV
 go_loopw [5] (fun iv wr => ∃ k : Nat, k ≤ es.length ∧ iv = .int .i64 k ∧ Hid (CellsAt wr N [strV nm, .slice a es.length c]) ∧ Hid (CellsAt wr (N + 1) [strV nm, .slice b es.length d]) ∧ Hid (Below N w wr) ∧ N + 2 ≤ wr.heap.size) (fun iv _ => es.length - (intOf iv).toNat)
 case atStart => exact ⟨0, Nat.zero_le _, rfl, X, Y, B, zV⟩
 case round =>
  clear X Y B zV
  obtain ⟨k, hk, rfl, X, Y, B, zV⟩ := hrel
  obtain ⟨n1, _⟩ := ca_at X.out 1 rfl
  have sx := X.out.1
  by_cases hlt : k < es.length
  case neg =>
   have q : ¬ (k : Int) < (es.length : Int) := by omega
   clear hlt
   go_wp2
   go_ret
   exact ⟨rfl, B.out⟩
  obtain ⟨m1, _⟩ := ca_at Y.out 1 rfl
  have sy := Y.out.1
  obtain ⟨x, hx⟩ : ∃ x, es[k]? = some x := ⟨_, List.getElem?_eq_getElem hlt⟩
  obtain ⟨eb, eo, e1, heb, R1⟩ := rd_elem (rd_below H1.out (hN ▸ B.out)) hx
  obtain ⟨fb, fo, e2, hfb, R2⟩ := rd_elem (rd_below H2.out (hN ▸ B.out)) hx
  subst e1
  subst e2
  have q : (k : Int) < (es.length : Int) := by omega
  have SS := hid (show wr.cell? ⟨N, 1, none⟩ = some (.slice (some ⟨eb, eo, none⟩) es.length c) ∧ wr.cell? ⟨N + 1, 1, none⟩ = some (.slice (some ⟨fb, fo, none⟩) es.length d) ∧ wr.rangeAt eb (eo + k * 10) (eraCells x) ∧ wr.rangeAt fb (fo + k * 10) (eraCells x) from ⟨n1, m1, R1, R2⟩)
  have KS : Hid (∀ wz, Below wr.heap.size wr wz → (wz.cell? ⟨N, 1, none⟩ = some (.slice (some ⟨eb, eo, none⟩) es.length c) ∧ wz.cell? ⟨N + 1, 1, none⟩ = some (.slice (some ⟨fb, fo, none⟩) es.length d) ∧ wz.rangeAt eb (eo + k * 10) (eraCells x) ∧ wz.rangeAt fb (fo + k * 10) (eraCells x))) := fun wz hb => ⟨(hb.cell (p := ⟨N, 1, none⟩) sx).trans n1, (hb.cell (p := ⟨N + 1, 1, none⟩) sy).trans m1, fun j v hv => (hb.cell (p := ⟨eb, eo + k * 10 + j, none⟩) heb).trans (R1 j v hv), fun j v hv => (hb.cell (p := ⟨fb, fo + k * 10 + j, none⟩) hfb).trans (R2 j v hv)⟩
  clear hx R1 R2
  go_upto_region 6 with fail
  go_cut [6, 7] from 29 to 38 (fun s6 s7 wc => ∃ D6 D7, s6 = .pointer (some ⟨D6, 0, none⟩) ∧ s7 = .pointer (some ⟨D7, 0, none⟩) ∧ wr.heap.size ≤ D6 ∧ wr.heap.size ≤ D7 ∧ Hid (CellsAt wc D6 [.int .i64 x.shift, strV x.rules, .int .i64 x.save, strV x.format, .bool x.opn, .int .i64 x.uy, .int .i64 x.um, .int .i64 x.ud, .int .i64 x.uat, .int .i64 x.uclock]) ∧ Hid (CellsAt wc D7 [.int .i64 x.shift, strV x.rules, .int .i64 x.save, strV x.format, .bool x.opn, .int .i64 x.uy, .int .i64 x.um, .int .i64 x.ud, .int .i64 x.uat, .int .i64 x.uclock]) ∧ Hid (Below wr.heap.size wr wc))
  case first =>
   refine wp_region_held_drew (S := fun w' => w'.cell? ⟨N, 1, none⟩ = some (.slice (some ⟨eb, eo, none⟩) es.length c) ∧ w'.cell? ⟨N + 1, 1, none⟩ = some (.slice (some ⟨fb, fo, none⟩) es.length d) ∧ w'.rangeAt eb (eo + k * 10) (eraCells x) ∧ w'.rangeAt fb (fo + k * 10) (eraCells x)) (by kernel_rfl) SS.out (fun hHeld => ?_)
   refine tkH 0 ?vz1 rfl ?z1 ?_
   case z1 => (intro w hSw; (obtain ⟨n1, m1, R1, R2⟩ := hSw); go_simp; try with_reducible rfl)
   try simp only [Act.put, j]
   refine tkH 1 ?vz2 rfl ?z2 ?_
   case z2 => (intro w hSw; (obtain ⟨n1, m1, R1, R2⟩ := hSw); go_simp; try with_reducible rfl)
   try simp only [Act.put, j]
   refine tkH 2 ?vz3 rfl ?z3 ?_
   case z3 => (intro w hSw; (obtain ⟨n1, m1, R1, R2⟩ := hSw); go_simp; try with_reducible rfl)
   try simp only [Act.put, j]
   refine tkH 3 ?vz4 rfl ?z4 ?_
   case z4 => (intro w hSw; (obtain ⟨n1, m1, R1, R2⟩ := hSw); go_simp; try with_reducible rfl)
   try simp only [Act.put, j]
   refine wpAnyH_take (i := 4) (v := .agg #[.int .i64 x.shift, strV x.rules, .int .i64 x.save, strV x.format, .bool x.opn, .int .i64 x.uy, .int .i64 x.um, .int .i64 x.ud, .int .i64 x.uat, .int .i64 x.uclock]) rfl (by kernel_rfl) (by kernel_rfl) (by kernel_rfl) (fun _ _ _ h => h) (yieldsIf_load_mid (by rfl) 67 (.tmp 32) rfl eb (eo + k * 10) rfl (eraCells x) _ (fun w hSw => hSw.2.2.1) Tryz.underlying67 rfl (by kernel_rfl)) (by assumption) ?_
   try simp only [Act.put, j]
   refine tkH 5 ?vz5 rfl ?z5 ?_
   case z5 => (intro w hSw; (obtain ⟨n1, m1, R1, R2⟩ := hSw); go_simp; try with_reducible rfl)
   try simp only [Act.put, j]
   refine tkH 6 ?vz6 rfl ?z6 ?_
   case z6 => (intro w hSw; (obtain ⟨n1, m1, R1, R2⟩ := hSw); go_simp; try with_reducible rfl)
   try simp only [Act.put, j]
   refine tkH 7 ?vz7 rfl ?z7 ?_
   case z7 => (intro w hSw; (obtain ⟨n1, m1, R1, R2⟩ := hSw); go_simp; try with_reducible rfl)
   try simp only [Act.put, j]
   refine tkH 8 ?vz8 rfl ?z8 ?_
   case z8 => (intro w hSw; (obtain ⟨n1, m1, R1, R2⟩ := hSw); go_simp; try with_reducible rfl)
   try simp only [Act.put, j]
   refine wpAnyH_take (i := 9) (v := .agg #[.int .i64 x.shift, strV x.rules, .int .i64 x.save, strV x.format, .bool x.opn, .int .i64 x.uy, .int .i64 x.um, .int .i64 x.ud, .int .i64 x.uat, .int .i64 x.uclock]) rfl (by kernel_rfl) (by kernel_rfl) (by kernel_rfl) (fun _ _ _ h => h) (yieldsIf_load_mid (by rfl) 67 (.tmp 37) rfl fb (fo + k * 10) rfl (eraCells x) _ (fun w hSw => hSw.2.2.2) Tryz.underlying67 rfl (by kernel_rfl)) (by assumption) ?_
   try simp only [Act.put, j]
   have Q0 : Below wr.heap.size wr wr.drew := ⟨rfl, rfl, rfl, Nat.le_refl _, fun _ _ => rfl⟩
   have Q1 : Below wr.heap.size wr (wr.drew.alloc (.cells #[.int .i64 0, .string ⟨#[]⟩, .int .i64 0, .string ⟨#[]⟩, .bool false, .int .i64 0, .int .i64 0, .int .i64 0, .int .i64 0, .int .i64 0] 67)) := Q0.trans ((Below.refl wr.drew.heap.size wr.drew).alloc (Nat.le_refl _) _)
   have Q2 : Below wr.heap.size wr ((wr.drew.alloc (.cells #[.int .i64 0, .string ⟨#[]⟩, .int .i64 0, .string ⟨#[]⟩, .bool false, .int .i64 0, .int .i64 0, .int .i64 0, .int .i64 0, .int .i64 0] 67)).alloc (.cells #[.int .i64 0, .string ⟨#[]⟩, .int .i64 0, .string ⟨#[]⟩, .bool false, .int .i64 0, .int .i64 0, .int .i64 0, .int .i64 0, .int .i64 0] 67)) := Q1.trans (((Below.refl _ _).alloc (Nat.le_refl _) _).mono Q1.size)
   have T1 : CellsAt ((wr.drew.alloc (.cells #[.int .i64 0, .string ⟨#[]⟩, .int .i64 0, .string ⟨#[]⟩, .bool false, .int .i64 0, .int .i64 0, .int .i64 0, .int .i64 0, .int .i64 0] 67)).alloc (.cells #[.int .i64 0, .string ⟨#[]⟩, .int .i64 0, .string ⟨#[]⟩, .bool false, .int .i64 0, .int .i64 0, .int .i64 0, .int .i64 0, .int .i64 0] 67)) wr.heap.size [.int .i64 0, .string ⟨#[]⟩, .int .i64 0, .string ⟨#[]⟩, .bool false, .int .i64 0, .int .i64 0, .int .i64 0, .int .i64 0, .int .i64 0] := ca_alloc (ca_new wr.drew [.int .i64 0, .string ⟨#[]⟩, .int .i64 0, .string ⟨#[]⟩, .bool false, .int .i64 0, .int .i64 0, .int .i64 0, .int .i64 0, .int .i64 0] 67) _
   have T2 : CellsAt ((wr.drew.alloc (.cells #[.int .i64 0, .string ⟨#[]⟩, .int .i64 0, .string ⟨#[]⟩, .bool false, .int .i64 0, .int .i64 0, .int .i64 0, .int .i64 0, .int .i64 0] 67)).alloc (.cells #[.int .i64 0, .string ⟨#[]⟩, .int .i64 0, .string ⟨#[]⟩, .bool false, .int .i64 0, .int .i64 0, .int .i64 0, .int .i64 0, .int .i64 0] 67)) (wr.heap.size + 1) [.int .i64 0, .string ⟨#[]⟩, .int .i64 0, .string ⟨#[]⟩, .bool false, .int .i64 0, .int .i64 0, .int .i64 0, .int .i64 0, .int .i64 0] := by have q := ca_new (wr.drew.alloc (.cells #[.int .i64 0, .string ⟨#[]⟩, .int .i64 0, .string ⟨#[]⟩, .bool false, .int .i64 0, .int .i64 0, .int .i64 0, .int .i64 0, .int .i64 0] 67)) [.int .i64 0, .string ⟨#[]⟩, .int .i64 0, .string ⟨#[]⟩, .bool false, .int .i64 0, .int .i64 0, .int .i64 0, .int .i64 0, .int .i64 0] 67; rw [World.size_alloc] at q; exact q
   refine wpAnyH_ready (rs := [10, 11]) (by kernel_rfl) (by simp) ?_
   refine AllReadyH.cons rfl (fun K hK => ?_) ?_
   ·go_simp
    refine hK.out _ _ (KS.out _ Q1) (fun hHeld2 => ?_)
    clear hK K
    try simp only [Act.put, j]
    refine rdH 11 rfl fun K hK => ?_
    go_simp
    refine hK.out _ _ (KS.out _ Q2) (fun hHeld2 => ?_)
    clear hK K
    try simp only [Act.put, j]
    obtain ⟨w2, hw2⟩ : ∃ y, ((wr.alloc (.cells #[.int .i64 0, .string ⟨#[]⟩, .int .i64 0, .string ⟨#[]⟩, .bool false, .int .i64 0, .int .i64 0, .int .i64 0, .int .i64 0, .int .i64 0] 67)).alloc (.cells #[.int .i64 0, .string ⟨#[]⟩, .int .i64 0, .string ⟨#[]⟩, .bool false, .int .i64 0, .int .i64 0, .int .i64 0, .int .i64 0, .int .i64 0] 67)).drew = y := ⟨_, rfl⟩
    have T1' : Hid (CellsAt w2 wr.heap.size [.int .i64 0, .string ⟨#[]⟩, .int .i64 0, .string ⟨#[]⟩, .bool false, .int .i64 0, .int .i64 0, .int .i64 0, .int .i64 0, .int .i64 0]) := by show CellsAt _ _ _; rw [← hw2]; exact T1
    have T2' : Hid (CellsAt w2 (wr.heap.size + 1) [.int .i64 0, .string ⟨#[]⟩, .int .i64 0, .string ⟨#[]⟩, .bool false, .int .i64 0, .int .i64 0, .int .i64 0, .int .i64 0, .int .i64 0]) := by show CellsAt _ _ _; rw [← hw2]; exact T2
    have QB : Hid (Below wr.heap.size wr w2) := by show Below _ _ _; rw [← hw2]; exact Q2
    rw [hw2]
    clear hw2
    have Q3 : Below wr.heap.size wr (w2.setCells wr.heap.size 0 [.int .i64 x.shift, strV x.rules, .int .i64 x.save, strV x.format, .bool x.opn, .int .i64 x.uy, .int .i64 x.um, .int .i64 x.ud, .int .i64 x.uat, .int .i64 x.uclock]) := below_setRow (by omega) _ QB.out
    refine rdH 12 rfl fun K hK => ?_
    rw [if_pos (by rfl)]
    refine wp_store_mid 67 (.tmp 6) (.tmp 33) rfl wr.heap.size 0 #[.int .i64 x.shift, strV x.rules, .int .i64 x.save, strV x.format, .bool x.opn, .int .i64 x.uy, .int .i64 x.um, .int .i64 x.ud, .int .i64 x.uat, .int .i64 x.uclock] rfl rfl (show World.there _ _ 0 10 from ca_there T1'.out) (by kernel_rfl) (all_oneCell_toArray (cs := eraCells x) (eraC_one x)) ?_
    refine hK.out _ _ (KS.out _ Q3) (fun hHeld2 => ?_)
    clear hK K
    try simp only [Act.put, j]
    obtain ⟨w3, hw3⟩ : ∃ y, w2.setCells wr.heap.size 0 [.int .i64 x.shift, strV x.rules, .int .i64 x.save, strV x.format, .bool x.opn, .int .i64 x.uy, .int .i64 x.um, .int .i64 x.ud, .int .i64 x.uat, .int .i64 x.uclock] = y := ⟨_, rfl⟩
    have U6 : Hid (CellsAt w3 wr.heap.size [.int .i64 x.shift, strV x.rules, .int .i64 x.save, strV x.format, .bool x.opn, .int .i64 x.uy, .int .i64 x.um, .int .i64 x.ud, .int .i64 x.uat, .int .i64 x.uclock]) := hw3 ▸ ca_setNew (cs := [.int .i64 x.shift, strV x.rules, .int .i64 x.save, strV x.format, .bool x.opn, .int .i64 x.uy, .int .i64 x.um, .int .i64 x.ud, .int .i64 x.uat, .int .i64 x.uclock]) T1'.out rfl
    have U7 : Hid (CellsAt w3 (wr.heap.size + 1) [.int .i64 0, .string ⟨#[]⟩, .int .i64 0, .string ⟨#[]⟩, .bool false, .int .i64 0, .int .i64 0, .int .i64 0, .int .i64 0, .int .i64 0]) := hw3 ▸ ca_setRow (by omega) _ T2'.out
    have QC : Hid (Below wr.heap.size wr w3) := hw3 ▸ Q3
    rw [show w2.setCells wr.heap.size 0 (#[.int .i64 x.shift, strV x.rules, .int .i64 x.save, strV x.format, .bool x.opn, .int .i64 x.uy, .int .i64 x.um, .int .i64 x.ud, .int .i64 x.uat, .int .i64 x.uclock].toList) = w3 from hw3]
    clear hw3 Q3
    have Q4 : Below wr.heap.size wr (w3.setCells (wr.heap.size + 1) 0 [.int .i64 x.shift, strV x.rules, .int .i64 x.save, strV x.format, .bool x.opn, .int .i64 x.uy, .int .i64 x.um, .int .i64 x.ud, .int .i64 x.uat, .int .i64 x.uclock]) := below_setRow (by omega) _ QC.out
    refine rdH 13 rfl fun K hK => ?_
    rw [if_pos (by rfl)]
    refine wp_store_mid 67 (.tmp 7) (.tmp 38) rfl (wr.heap.size + 1) 0 #[.int .i64 x.shift, strV x.rules, .int .i64 x.save, strV x.format, .bool x.opn, .int .i64 x.uy, .int .i64 x.um, .int .i64 x.ud, .int .i64 x.uat, .int .i64 x.uclock] rfl rfl (show World.there _ _ 0 10 from ca_there U7.out) (by kernel_rfl) (all_oneCell_toArray (cs := eraCells x) (eraC_one x)) ?_
    refine hK.out _ _ (KS.out _ Q4) (fun hHeld2 => ?_)
    clear hK K
    try simp only [Act.put, j]
    refine wpAnyH_done (by kernel_rfl) ?_ _
    go_wp2_with fail
    go_meet
    exact ⟨wr.heap.size, wr.heap.size + 1, rfl, rfl, by omega, by omega, ca_setRow (by omega) _ U6.out, ca_setNew (cs := [.int .i64 x.shift, strV x.rules, .int .i64 x.save, strV x.format, .bool x.opn, .int .i64 x.uy, .int .i64 x.um, .int .i64 x.ud, .int .i64 x.uat, .int .i64 x.uclock]) U7.out rfl, Q4⟩
   refine AllReadyH.cons rfl (fun K hK => ?_) AllReadyH.nil
   go_simp
   refine hK.out _ _ (KS.out _ Q1) (fun hHeld2 => ?_)
   clear hK K
   try simp only [Act.put, j]
   refine rdH 10 rfl fun K hK => ?_
   go_simp
   refine hK.out _ _ (KS.out _ Q2) (fun hHeld2 => ?_)
   clear hK K
   try simp only [Act.put, j]
   obtain ⟨w2, hw2⟩ : ∃ y, ((wr.alloc (.cells #[.int .i64 0, .string ⟨#[]⟩, .int .i64 0, .string ⟨#[]⟩, .bool false, .int .i64 0, .int .i64 0, .int .i64 0, .int .i64 0, .int .i64 0] 67)).alloc (.cells #[.int .i64 0, .string ⟨#[]⟩, .int .i64 0, .string ⟨#[]⟩, .bool false, .int .i64 0, .int .i64 0, .int .i64 0, .int .i64 0, .int .i64 0] 67)).drew = y := ⟨_, rfl⟩
   have T1' : Hid (CellsAt w2 wr.heap.size [.int .i64 0, .string ⟨#[]⟩, .int .i64 0, .string ⟨#[]⟩, .bool false, .int .i64 0, .int .i64 0, .int .i64 0, .int .i64 0, .int .i64 0]) := by show CellsAt _ _ _; rw [← hw2]; exact T1
   have T2' : Hid (CellsAt w2 (wr.heap.size + 1) [.int .i64 0, .string ⟨#[]⟩, .int .i64 0, .string ⟨#[]⟩, .bool false, .int .i64 0, .int .i64 0, .int .i64 0, .int .i64 0, .int .i64 0]) := by show CellsAt _ _ _; rw [← hw2]; exact T2
   have QB : Hid (Below wr.heap.size wr w2) := by show Below _ _ _; rw [← hw2]; exact Q2
   rw [hw2]
   clear hw2
   have Q3 : Below wr.heap.size wr (w2.setCells (wr.heap.size + 1) 0 [.int .i64 x.shift, strV x.rules, .int .i64 x.save, strV x.format, .bool x.opn, .int .i64 x.uy, .int .i64 x.um, .int .i64 x.ud, .int .i64 x.uat, .int .i64 x.uclock]) := below_setRow (by omega) _ QB.out
   refine rdH 12 rfl fun K hK => ?_
   rw [if_pos (by rfl)]
   refine wp_store_mid 67 (.tmp 6) (.tmp 33) rfl (wr.heap.size + 1) 0 #[.int .i64 x.shift, strV x.rules, .int .i64 x.save, strV x.format, .bool x.opn, .int .i64 x.uy, .int .i64 x.um, .int .i64 x.ud, .int .i64 x.uat, .int .i64 x.uclock] rfl rfl (show World.there _ _ 0 10 from ca_there T2'.out) (by kernel_rfl) (all_oneCell_toArray (cs := eraCells x) (eraC_one x)) ?_
   refine hK.out _ _ (KS.out _ Q3) (fun hHeld2 => ?_)
   clear hK K
   try simp only [Act.put, j]
   obtain ⟨w3, hw3⟩ : ∃ y, w2.setCells (wr.heap.size + 1) 0 [.int .i64 x.shift, strV x.rules, .int .i64 x.save, strV x.format, .bool x.opn, .int .i64 x.uy, .int .i64 x.um, .int .i64 x.ud, .int .i64 x.uat, .int .i64 x.uclock] = y := ⟨_, rfl⟩
   have U6 : Hid (CellsAt w3 (wr.heap.size + 1) [.int .i64 x.shift, strV x.rules, .int .i64 x.save, strV x.format, .bool x.opn, .int .i64 x.uy, .int .i64 x.um, .int .i64 x.ud, .int .i64 x.uat, .int .i64 x.uclock]) := hw3 ▸ ca_setNew (cs := [.int .i64 x.shift, strV x.rules, .int .i64 x.save, strV x.format, .bool x.opn, .int .i64 x.uy, .int .i64 x.um, .int .i64 x.ud, .int .i64 x.uat, .int .i64 x.uclock]) T2'.out rfl
   have U7 : Hid (CellsAt w3 wr.heap.size [.int .i64 0, .string ⟨#[]⟩, .int .i64 0, .string ⟨#[]⟩, .bool false, .int .i64 0, .int .i64 0, .int .i64 0, .int .i64 0, .int .i64 0]) := hw3 ▸ ca_setRow (by omega) _ T1'.out
   have QC : Hid (Below wr.heap.size wr w3) := hw3 ▸ Q3
   rw [show w2.setCells (wr.heap.size + 1) 0 (#[.int .i64 x.shift, strV x.rules, .int .i64 x.save, strV x.format, .bool x.opn, .int .i64 x.uy, .int .i64 x.um, .int .i64 x.ud, .int .i64 x.uat, .int .i64 x.uclock].toList) = w3 from hw3]
   clear hw3 Q3
   have Q4 : Below wr.heap.size wr (w3.setCells wr.heap.size 0 [.int .i64 x.shift, strV x.rules, .int .i64 x.save, strV x.format, .bool x.opn, .int .i64 x.uy, .int .i64 x.um, .int .i64 x.ud, .int .i64 x.uat, .int .i64 x.uclock]) := below_setRow (by omega) _ QC.out
   refine rdH 13 rfl fun K hK => ?_
   rw [if_pos (by rfl)]
   refine wp_store_mid 67 (.tmp 7) (.tmp 38) rfl wr.heap.size 0 #[.int .i64 x.shift, strV x.rules, .int .i64 x.save, strV x.format, .bool x.opn, .int .i64 x.uy, .int .i64 x.um, .int .i64 x.ud, .int .i64 x.uat, .int .i64 x.uclock] rfl rfl (show World.there _ _ 0 10 from ca_there U7.out) (by kernel_rfl) (all_oneCell_toArray (cs := eraCells x) (eraC_one x)) ?_
   refine hK.out _ _ (KS.out _ Q4) (fun hHeld2 => ?_)
   clear hK K
   try simp only [Act.put, j]
   refine wpAnyH_done (by kernel_rfl) ?_ _
   go_wp2_with fail
   go_meet
   exact ⟨wr.heap.size + 1, wr.heap.size, rfl, rfl, by omega, by omega, ca_setRow (by omega) _ U6.out, ca_setNew (cs := [.int .i64 x.shift, strV x.rules, .int .i64 x.save, strV x.format, .bool x.opn, .int .i64 x.uy, .int .i64 x.um, .int .i64 x.ud, .int .i64 x.uat, .int .i64 x.uclock]) U7.out rfl, Q4⟩
  case rest =>
  obtain ⟨D6, D7, rfl, rfl, _, _, C6, C7, BW⟩ := hcut
  obtain ⟨w9, hw9⟩ : ∃ W8, wc = W8 := ⟨_, rfl⟩
  rw [hw9] at C6 C7 BW ⊢
  clear hw9 SS KS n1 m1 sx sy heb hfb
  have X9 := hid (ca_below X.out BW.out)
  have Y9 := hid (ca_below Y.out BW.out)
  have B9 := hid (below_on B.out (by omega) BW.out)
  have z9 : N + 2 ≤ w9.heap.size := Nat.le_trans zV BW.out.size
  obtain ⟨p0, _⟩ := ca_at C6.out 0 rfl
  obtain ⟨r0, _⟩ := ca_at C7.out 0 rfl
  obtain ⟨p1, _⟩ := ca_at C6.out 1 rfl
  obtain ⟨r1, _⟩ := ca_at C7.out 1 rfl
  obtain ⟨p2, _⟩ := ca_at C6.out 2 rfl
  obtain ⟨r2, _⟩ := ca_at C7.out 2 rfl
  obtain ⟨p3, _⟩ := ca_at C6.out 3 rfl
  obtain ⟨r3, _⟩ := ca_at C7.out 3 rfl
  obtain ⟨p4, _⟩ := ca_at C6.out 4 rfl
  obtain ⟨r4, _⟩ := ca_at C7.out 4 rfl
  obtain ⟨p5, _⟩ := ca_at C6.out 5 rfl
  obtain ⟨r5, _⟩ := ca_at C7.out 5 rfl
  obtain ⟨p6, _⟩ := ca_at C6.out 6 rfl
  obtain ⟨r6, _⟩ := ca_at C7.out 6 rfl
  obtain ⟨p7, _⟩ := ca_at C6.out 7 rfl
  obtain ⟨r7, _⟩ := ca_at C7.out 7 rfl
  obtain ⟨p8, _⟩ := ca_at C6.out 8 rfl
  obtain ⟨r8, _⟩ := ca_at C7.out 8 rfl
  obtain ⟨p9, _⟩ := ca_at C6.out 9 rfl
  obtain ⟨r9, _⟩ := ca_at C7.out 9 rfl
  have sp := C6.out.1
  have sr := C7.out.1
  clear X Y B BW
  go_wp2_with fail
  refine (sameUntil_same _ _ _ _ _ _).mono ?_
  rintro e w10 ⟨rfl, hb⟩
  have X10 := hid (ca_below X9.out hb)
  have Y10 := hid (ca_below Y9.out hb)
  have B10 := hid (below_on B9.out (by omega) hb)
  have z10 : N + 2 ≤ w10.heap.size := Nat.le_trans z9 hb.size
  go_wp2
  go_roundw
  case rel => exact ⟨k + 1, by omega, by go_num, X10, Y10, B10, z10⟩
  case measure => simp [intOf]; omega
end Go.Proofs.YtkhlkohlccndgaaGreat
namespace Go.Proofs.YtkhlkohlccndgaaGreat
open Go.ChangeShapes Go.WideShapes Go.ChangeAt Go.RowKit Go.Joins

theorem own : ownKnob Tryz.prog.godebug = none := by kernel_rfl
theorem laidOut : laidOutB Tryz.prog = true := by kernel_rfl
theorem cellsT_int : Tryz.prog.cellsOf 3 = 1 := by kernel_rfl
theorem cellsT_str : Tryz.prog.cellsOf 9 = 1 := by kernel_rfl
theorem cellsT_fm : Tryz.prog.cellsOf 38 = 3 := by kernel_rfl
theorem cellsT_rl : Tryz.prog.cellsOf 40 = 11 := by kernel_rfl

section
variable {H : Type} {enc : TypeId × Value → H} {w : World} {sp : Nat → Bool} {held : Bool} {fuel : Nat} {cs : List Value} {x : DataW H × List MemPlace}
theorem addT_none (b o i : Nat) : (⟨b, o, none⟩ : Addr).add i = ⟨b, o + i, none⟩ := by simp [Addr.add]
theorem blockT_of_cell {a : Addr} {v : Value} (h : w.cell? a = some v) : a.block < w.heap.size := by
 unfold World.cell? at h
 split at h
 ·rename_i hb; exact (Array.getElem?_eq_some_iff.1 hb).1
 ·cases h
theorem strT_of (s : ByteArray) : strV s.data.toList = .string s := by unfold strV; congr 1
theorem open_form (h : DataW.trod enc Tryz.prog w 0 sp held fuel 38 cs = some x) : ∃ a b c : Int, cs = [.int .i64 a, .int .i64 b, .int .i64 c] := by
 cases fuel with
 | zero => simp [DataW.trod] at h
 | succ n =>
   unfold DataW.trod at h
   rw [Tryz.underlying38] at h
   simp [cellsT_fm, cellsT_int, List.mapM_cons, Option.bind_eq_some_iff] at h
   obtain ⟨hlen, a1, b1, h1, l, ⟨a2, b2, h2, l3, ⟨a3, b3, h3, _⟩, _⟩, _⟩ := h
   match cs, hlen with
   | [u, v, z], _ =>
     simp at h1 h2 h3
     obtain ⟨k1, e1, _⟩ := DataW.trod_int Tryz.underlying3 h1
     obtain ⟨k2, e2, _⟩ := DataW.trod_int Tryz.underlying3 h2
     obtain ⟨k3, e3, _⟩ := DataW.trod_int Tryz.underlying3 h3
     simp at e1 e2 e3
     subst e1 e2 e3
     exact ⟨k1, k2, k3, rfl⟩
theorem open_rule (h : DataW.trod enc Tryz.prog w 0 sp held fuel 40 cs = some x) : ∃ r : Sx.Rl, cs = ruleCells r ∧ r.name.length ≤ maxLen ∧ r.letter.length ≤ maxLen := by
 cases fuel with
 | zero => simp [DataW.trod] at h
 | succ n =>
   unfold DataW.trod at h
   rw [Tryz.underlying40] at h
   simp [cellsT_rl, cellsT_int, cellsT_str, cellsT_fm, List.mapM_cons, Option.bind_eq_some_iff] at h
   obtain ⟨hlen, a1, b1, h1, _, ⟨a2, b2, h2, _, ⟨a3, b3, h3, _, ⟨a4, b4, h4, _, ⟨a5, b5, h5, _, ⟨a6, b6, h6, _, ⟨a7, b7, h7, _, ⟨a8, b8, h8, _, ⟨a9, b9, h9, _⟩, _⟩, _⟩, _⟩, _⟩, _⟩, _⟩, _⟩, _⟩ := h
   match cs, hlen with
   | [c0, c1, c2, c3, c4, c5, c6, c7, c8, c9, c10], _ =>
     simp at h1 h2 h3 h4 h5 h6 h7 h8 h9
     obtain ⟨s1, e1, _, hs1⟩ := DataW.trod_string Tryz.underlying9 h1
     obtain ⟨k2, e2, _⟩ := DataW.trod_int Tryz.underlying3 h2
     obtain ⟨k3, e3, _⟩ := DataW.trod_int Tryz.underlying3 h3
     obtain ⟨k4, e4, _⟩ := DataW.trod_int Tryz.underlying3 h4
     obtain ⟨fa, fb, fc, e5⟩ := open_form h5
     obtain ⟨k6, e6, _⟩ := DataW.trod_int Tryz.underlying3 h6
     obtain ⟨k7, e7, _⟩ := DataW.trod_int Tryz.underlying3 h7
     obtain ⟨k8, e8, _⟩ := DataW.trod_int Tryz.underlying3 h8
     obtain ⟨s9, e9, _, hs9⟩ := DataW.trod_string Tryz.underlying9 h9
     simp at e1 e2 e3 e4 e5 e6 e7 e8 e9
     obtain ⟨rfl, rfl, rfl⟩ := e5
     subst e1 e2 e3 e4 e6 e7 e8 e9
     exact ⟨⟨s1.data.toList, k2, k3, k4, fa, fb, fc, k6, k7, k8, s9.data.toList⟩, by simp only [ruleCells, strT_of], by simpa using hs1, by simpa using hs9⟩
end
end Go.Proofs.YtkhlkohlccndgaaGreat
namespace Go.Proofs.YtkhlkohlccndgaaGreat
open Go.ChangeShapes Go.WideShapes Go.ChangeAt Go.RowKit Go.Joins Go.Shelf

theorem cellsT_bool : Tryz.prog.cellsOf 4 = 1 := by kernel_rfl
theorem cellsT_dt : Tryz.prog.cellsOf 63 = 3 := by kernel_rfl
theorem cellsT_ut : Tryz.prog.cellsOf 65 = 5 := by kernel_rfl
theorem cellsT_er : Tryz.prog.cellsOf 67 = 10 := by kernel_rfl
theorem cellsT_ers : Tryz.prog.cellsOf 42 = 1 := by kernel_rfl
theorem cellsT_zn : Tryz.prog.cellsOf 44 = 2 := by kernel_rfl
theorem cellsT_lk : Tryz.prog.cellsOf 35 = 2 := by kernel_rfl
theorem cellsT_rls : Tryz.prog.cellsOf 22 = 1 := by kernel_rfl
theorem cellsT_zns : Tryz.prog.cellsOf 23 = 1 := by kernel_rfl
theorem cellsT_lks : Tryz.prog.cellsOf 24 = 1 := by kernel_rfl
theorem cellsT_src : Tryz.prog.cellsOf 26 = 3 := by kernel_rfl

section
variable {H : Type} {enc : TypeId × Value → H} {w : World} {sp : Nat → Bool} {held : Bool} {fuel : Nat} {cs : List Value} {x : DataW H × List MemPlace}
/- a list whose elements lie cell by cell -/
theorem open_list {α : Type} (dflt : α) {T e : TypeId} {z : Nat} {cells : α → List Value} {Pr : α → Prop} (hT : Tryz.prog.underlying T = some (.slice e)) (hz : Tryz.prog.cellsOf e = z) (hz0 : 0 < z) (hcl : ∀ c, (cells c).length = z)
  (hel : ∀ (n : Nat) (cs : List Value) (y : DataW H × List MemPlace), DataW.trod enc Tryz.prog w 0 sp held n e cs = some y → ∃ c, cs = cells c ∧ Pr c)
  (h : DataW.trod enc Tryz.prog w 0 sp held fuel T cs = some x) : ∃ a n cap l, cs = [.slice a n cap] ∧ n = l.length ∧ Rd z cells w (.slice a n cap) l ∧ n ≤ cap ∧ cap ≤ maxLen ∧ ∀ c ∈ l, Pr c := by
 rcases Deep.open_slice hT h with ⟨rfl, _⟩ | ⟨a, len, cap, m, n, D, Pl, rfl, _, hl, hm, hmm, _, hc⟩
 ·exact ⟨none, 0, 0, [], rfl, rfl, rd_nil, Nat.le_refl _, Nat.zero_le _, by simp⟩
 ·have hlm : len ≤ m := by rw [hmm]; split <;> omega
  rw [hz] at hc
  have key : ∀ i, i < len → ∃ c : α, Pr c ∧ w.cells? 0 (a.add (i * z)) z = some (cells c) := by
   intro i hi
   obtain ⟨cs', h1, h2⟩ := hc i (by omega)
   obtain ⟨c, rfl, hs⟩ := hel _ _ _ h2
   exact ⟨c, hs, h1⟩
  have : Inhabited α := ⟨dflt⟩
  obtain ⟨L, hL⟩ := Deep.choose_lt key
  refine ⟨some a, len, cap, (List.range len).map L, rfl, by simp, ⟨some a, cap, by simp, fun hn => ?_⟩, by omega, by omega, ?_⟩
  ·have h0 : 0 < len := by
    rcases Nat.eq_zero_or_pos len with q | q
    ·subst q; simp at hn
    ·exact q
   obtain ⟨b, off, spot⟩ := a
   obtain ⟨_, _, g0⟩ := World.cells?_some (hL 0 h0).2
   have c0 : w.cell? (((⟨b, off, spot⟩ : Addr).add (0 * z)).add 0) = some ((cells (L 0))[0]'(by rw [hcl]; exact hz0)) := (g0 0 hz0).trans (List.getElem?_eq_getElem _)
   have hs : spot = none := by simpa [Addr.add] using World.cell?_spot c0
   subst hs
   simp only [addT_none] at c0 hL
   refine ⟨b, off, rfl, blockT_of_cell c0, fun i c hi k u hu => ?_⟩
   have hi' : i < len := by
    have := (List.getElem?_eq_some_iff.1 hi).1
    simpa using this
   simp [hi'] at hi
   subst hi
   obtain ⟨_, _, gi⟩ := World.cells?_some (hL i hi').2
   have hk := (List.getElem?_eq_some_iff.1 hu).1
   have := gi k (by rw [← hcl (L i)]; exact hk)
   rw [addT_none] at this
   rw [this]
   exact hu
  ·intro c hc'
   simp at hc'
   obtain ⟨i, hi, rfl⟩ := hc'
   exact (hL i hi).1
theorem open_dateC (h : DataW.trod enc Tryz.prog w 0 sp held fuel 63 cs = some x) : ∃ a b c : Int, cs = [.int .i64 a, .int .i64 b, .int .i64 c] := by
 cases fuel with
 | zero => simp [DataW.trod] at h
 | succ n =>
   unfold DataW.trod at h
   rw [Tryz.underlying63] at h
   simp [cellsT_dt, cellsT_int, List.mapM_cons, Option.bind_eq_some_iff] at h
   obtain ⟨hlen, a1, b1, h1, l, ⟨a2, b2, h2, l3, ⟨a3, b3, h3, _⟩, _⟩, _⟩ := h
   match cs, hlen with
   | [u, v, z], _ =>
     simp at h1 h2 h3
     obtain ⟨k1, e1, _⟩ := DataW.trod_int Tryz.underlying3 h1
     obtain ⟨k2, e2, _⟩ := DataW.trod_int Tryz.underlying3 h2
     obtain ⟨k3, e3, _⟩ := DataW.trod_int Tryz.underlying3 h3
     simp at e1 e2 e3
     subst e1 e2 e3
     exact ⟨k1, k2, k3, rfl⟩
theorem open_until (h : DataW.trod enc Tryz.prog w 0 sp held fuel 65 cs = some x) : ∃ a b c d e : Int, cs = [.int .i64 a, .int .i64 b, .int .i64 c, .int .i64 d, .int .i64 e] := by
 cases fuel with
 | zero => simp [DataW.trod] at h
 | succ n =>
   unfold DataW.trod at h
   rw [Tryz.underlying65] at h
   simp [cellsT_ut, cellsT_dt, cellsT_int, List.mapM_cons, Option.bind_eq_some_iff] at h
   obtain ⟨hlen, a1, b1, h1, l, ⟨a2, b2, h2, l3, ⟨a3, b3, h3, _⟩, _⟩, _⟩ := h
   match cs, hlen with
   | [u, v, z, y, s], _ =>
     simp at h1 h2 h3
     obtain ⟨a, b, c, e1⟩ := open_dateC h1
     obtain ⟨k2, e2, _⟩ := DataW.trod_int Tryz.underlying3 h2
     obtain ⟨k3, e3, _⟩ := DataW.trod_int Tryz.underlying3 h3
     simp at e1 e2 e3
     obtain ⟨rfl, rfl, rfl⟩ := e1
     subst e2 e3
     exact ⟨a, b, c, k2, k3, rfl⟩
theorem open_era (h : DataW.trod enc Tryz.prog w 0 sp held fuel 67 cs = some x) : ∃ r : Sx.Er, cs = eraCells r ∧ r.rules.length ≤ maxLen ∧ r.format.length ≤ maxLen := by
 cases fuel with
 | zero => simp [DataW.trod] at h
 | succ n =>
   unfold DataW.trod at h
   rw [Tryz.underlying67] at h
   simp [cellsT_er, cellsT_int, cellsT_str, cellsT_bool, cellsT_ut, List.mapM_cons, Option.bind_eq_some_iff] at h
   obtain ⟨hlen, a1, b1, h1, _, ⟨a2, b2, h2, _, ⟨a3, b3, h3, _, ⟨a4, b4, h4, _, ⟨a5, b5, h5, _, ⟨a6, b6, h6, _⟩, _⟩, _⟩, _⟩, _⟩, _⟩ := h
   match cs, hlen with
   | [c0, c1, c2, c3, c4, c5, c6, c7, c8, c9], _ =>
     simp at h1 h2 h3 h4 h5 h6
     obtain ⟨k1, e1, _⟩ := DataW.trod_int Tryz.underlying3 h1
     obtain ⟨s2, e2, _, hs2⟩ := DataW.trod_string Tryz.underlying9 h2
     obtain ⟨k3, e3, _⟩ := DataW.trod_int Tryz.underlying3 h3
     obtain ⟨s4, e4, _, hs4⟩ := DataW.trod_string Tryz.underlying9 h4
     obtain ⟨b5, e5, _⟩ := DataW.trod_bool Tryz.underlying4 h5
     obtain ⟨ua, ub, uc, ud, ue, e6⟩ := open_until h6
     simp at e1 e2 e3 e4 e5 e6
     obtain ⟨rfl, rfl, rfl, rfl, rfl⟩ := e6
     subst e1 e2 e3 e4 e5
     exact ⟨⟨k1, s2.data.toList, k3, s4.data.toList, b5, ua, ub, uc, ud, ue⟩, by simp only [eraCells, strT_of], by simpa using hs2, by simpa using hs4⟩
theorem open_link (h : DataW.trod enc Tryz.prog w 0 sp held fuel 35 cs = some x) : ∃ r : Sx.Lk, cs = linkCells r ∧ r.to.length ≤ maxLen ∧ r.name.length ≤ maxLen := by
 cases fuel with
 | zero => simp [DataW.trod] at h
 | succ n =>
   unfold DataW.trod at h
   rw [Tryz.underlying35] at h
   simp [cellsT_lk, cellsT_str, List.mapM_cons, Option.bind_eq_some_iff] at h
   obtain ⟨hlen, a1, b1, h1, _, ⟨a2, b2, h2, _⟩, _⟩ := h
   match cs, hlen with
   | [c0, c1], _ =>
     simp at h1 h2
     obtain ⟨s1, e1, _, hs1⟩ := DataW.trod_string Tryz.underlying9 h1
     obtain ⟨s2, e2, _, hs2⟩ := DataW.trod_string Tryz.underlying9 h2
     simp at e1 e2
     subst e1 e2
     exact ⟨⟨s1.data.toList, s2.data.toList⟩, by simp only [linkCells, strT_of], by simpa using hs1, by simpa using hs2⟩
/- a zone: its eras can be read, and are no more than there is room for -/
structure ZvOk (w : World) (p : ZV) : Prop where
 eras : RdEras w (.slice p.a p.z.eras.length p.c) p.z.eras
 cap : p.z.eras.length ≤ p.c
 most : p.c ≤ maxLen
 name : p.z.name.length ≤ maxLen
 texts : ∀ x ∈ p.z.eras, x.rules.length ≤ maxLen ∧ x.format.length ≤ maxLen
theorem open_zoneC (h : DataW.trod enc Tryz.prog w 0 sp held fuel 44 cs = some x) : ∃ p : ZV, cs = zvCells p ∧ ZvOk w p := by
 cases fuel with
 | zero => simp [DataW.trod] at h
 | succ n =>
   unfold DataW.trod at h
   rw [Tryz.underlying44] at h
   simp [cellsT_zn, cellsT_str, cellsT_ers, List.mapM_cons, Option.bind_eq_some_iff] at h
   obtain ⟨hlen, a1, b1, h1, _, ⟨a2, b2, h2, _⟩, _⟩ := h
   match cs, hlen with
   | [c0, c1], _ =>
     simp at h1 h2
     obtain ⟨s1, e1, _, hs1⟩ := DataW.trod_string Tryz.underlying9 h1
     obtain ⟨a, k, cap, l, e2, hk, hr, hc, hm, hp⟩ := open_list (⟨0, [], 0, [], false, 0, 0, 0, 0, 0⟩ : Sx.Er) (z := 10) (cells := eraCells) (Pr := fun x : Sx.Er => x.rules.length ≤ maxLen ∧ x.format.length ≤ maxLen) Tryz.underlying42 cellsT_er (by decide) eraCells_len (fun n cs y q => open_era q) h2
     simp at e1 e2
     subst e1 e2
     subst hk
     exact ⟨⟨⟨s1.data.toList, l⟩, a, cap⟩, by simp only [zvCells, strT_of], hr, hc, hm, by simpa using hs1, hp⟩
end
/- what is read one way can be read the other -/
theorem zip_zv : ∀ ps : List ZV, ((ps.map ZV.z).zip (ps.map zvS)).map (fun p => (p.1.name, p.2)) = ps.map fun p => (p.z.name, zvS p)
 | [] => rfl
 | a :: r => by rw [List.map_cons, List.map_cons, List.map_cons, List.zip_cons_cons, List.map_cons, zip_zv r]
theorem rdZones_zv {w : World} {v : Value} {zs : List Sx.Zn} {ps : List ZV} (h : RdZv w v zs ps) : RdZones w v zs := by
 obtain ⟨h1, h2, h3, h4⟩ := h
 subst h1
 have e := zip_zv ps
 refine ⟨ps.map zvS, by simp, ?_, ?_⟩
 ·rw [e]
  obtain ⟨a, cap, q1, q2⟩ := h2
  refine ⟨a, cap, by simpa using q1, fun hn => ?_⟩
  obtain ⟨b, o, q3, q4, q5⟩ := q2 (by intro q; rw [q] at hn; simp at hn)
  refine ⟨b, o, q3, q4, fun i x hx k u hu => ?_⟩
  rw [List.getElem?_map] at hx
  cases hp : ps[i]? with
  | none => rw [hp] at hx; cases hx
  | some p =>
    rw [hp] at hx
    simp at hx
    subst hx
    exact q5 i p hp k u hu
 ·intro i ev x hv hx
  rw [List.getElem?_map] at hv hx
  cases hp : ps[i]? with
  | none => rw [hp] at hx; cases hx
  | some p =>
    rw [hp] at hx hv
    simp at hx hv
    subst hx hv
    exact h3 p (List.mem_of_getElem? hp)
theorem capZs_zv {w : World} {v : Value} {zs : List Sx.Zn} {ps : List ZV} (h : RdZv w v zs ps) : CapZs w v zs := by
 obtain ⟨h1, h2, h3, h4⟩ := h
 subst h1
 intro i x b o cap hx hv ev he
 rw [List.getElem?_map] at hx
 cases hp : ps[i]? with
 | none => rw [hp] at hx; cases hx
 | some p =>
   rw [hp] at hx
   simp at hx
   subst hx
   rw [hv] at h2
   obtain ⟨b', o', e, _, hc⟩ := rd_elem h2 hp
   simp only [Option.some.injEq, Addr.mk.injEq] at e
   obtain ⟨rfl, rfl, _⟩ := e
   have := hc 1 (zvS p) rfl
   rw [this] at he
   simp at he
   exact ⟨p.a, p.c, he.symm, h4 p (List.mem_of_getElem? hp)⟩
structure SrcArg (s : Sx.Sr) (xs : List ZV) (ra za la : Option Addr) (rcap zcap lcap : Nat) (w : World) : Prop where
 rmost : rcap ≤ maxLen
 zmost : zcap ≤ maxLen
 lmost : lcap ≤ maxLen
 rules : RdRules w (.slice ra s.rules.length rcap) s.rules
 zv : RdZv w (.slice za xs.length zcap) s.zones xs
 links : RdLinks w (.slice la s.links.length lcap) s.links
 size : SizedS s
 rcap : s.rules.length ≤ rcap
 zcap : xs.length ≤ zcap
 lcap : s.links.length ≤ lcap
theorem srcIn_arg {s : Sx.Sr} {xs : List ZV} {ra za la : Option Addr} {rcap zcap lcap : Nat} {m : Int} {w : World} (h : SrcArg s xs ra za la rcap zcap lcap w) (hm : w.cell? ⟨0, 0, none⟩ = some (.int .i64 m)) (h0 : 0 < w.heap.size) : SrcIn s xs ra za la rcap zcap lcap m w :=
 ⟨h.rules, rdZones_zv h.zv, capZs_zv h.zv, h.zv, h.links, h.size, hm, h0⟩
section
variable {H : Type} {enc : TypeId × Value → H}
theorem open_source_arg {W : World} {base : Nat} {v : Value} {d : DataW H} {p : List MemPlace} (hv : Value.okWide Tryz.prog W .any base 26 v) (h : DataW.Trod enc Tryz.prog W 0 (fun _ => true) true 26 v d p) :
  (∃ (s : Sx.Sr) (xs : List ZV) (ra za la : Option Addr) (rcap zcap lcap : Nat), v = .agg #[.slice ra s.rules.length rcap, .slice za xs.length zcap, .slice la s.links.length lcap] ∧ SrcArg s xs ra za la rcap zcap lcap W) ∧ ∀ x ∈ p, x.block < W.heap.size := by
 obtain ⟨cs, rfl, hsz⟩ := okWide_struct Tryz.underlying26 hv
 obtain ⟨c0, c1, c2, rfl⟩ := array3 (hsz.trans cellsT_src)
 obtain ⟨fuel, hf⟩ := h
 refine ⟨?_, DataW.trod_lt fuel _ _ _ hf⟩
 cases fuel with
 | zero => simp [DataW.trod] at hf
 | succ n =>
   unfold DataW.trod at hf
   rw [Tryz.underlying26] at hf
   simp [Value.cells, cellsT_src, cellsT_rls, cellsT_zns, cellsT_lks, List.mapM_cons, Option.bind_eq_some_iff] at hf
   obtain ⟨a1, b1, h1, l, ⟨a2, b2, h2, _, ⟨a3, b3, h3, _⟩, _⟩, _⟩ := hf
   obtain ⟨ra, k1, rc, rs, e1, hk1, hr1, hc1, hm1, hp1⟩ := open_list (⟨[], 0, 0, 0, 0, 0, 0, 0, 0, 0, []⟩ : Sx.Rl) (z := 11) (cells := ruleCells) (Pr := fun x : Sx.Rl => x.name.length ≤ maxLen ∧ x.letter.length ≤ maxLen) Tryz.underlying22 cellsT_rl (by decide) ruleCells_len (fun n cs y q => open_rule q) h1
   obtain ⟨za, k2, zc, xs, e2, hk2, hr2, hc2, hm2, hp2⟩ := open_list (⟨⟨[], []⟩, none, 0⟩ : ZV) (z := 2) (cells := zvCells) (Pr := ZvOk W) Tryz.underlying23 cellsT_zn (by decide) (fun _ => rfl) (fun n cs y q => open_zoneC q) h2
   obtain ⟨la, k3, lc, ls, e3, hk3, hr3, hc3, hm3, hp3⟩ := open_list (⟨[], []⟩ : Sx.Lk) (z := 2) (cells := linkCells) (Pr := fun x : Sx.Lk => x.to.length ≤ maxLen ∧ x.name.length ≤ maxLen) Tryz.underlying24 cellsT_lk (by decide) linkCells_len (fun n cs y q => open_link q) h3
   simp at e1 e2 e3
   subst e1 e2 e3 hk1 hk2 hk3
   refine ⟨⟨rs, xs.map ZV.z, ls⟩, xs, ra, za, la, rc, zc, lc, rfl, hm1, hm2, hm3, hr1, ⟨rfl, hr2, fun p hp => (hp2 p hp).eras, fun p hp => (hp2 p hp).cap⟩, hr3, ⟨hp1, ?_, hp3⟩, hc1, hc2, hc3⟩
   intro z hz
   obtain ⟨p, hp, rfl⟩ := List.mem_map.1 hz
   exact ⟨(hp2 p hp).name, (hp2 p hp).texts⟩
theorem source_stays {W W' : World} {v : Value} {d : DataW H} {p : List MemPlace} (h : DataW.Trod enc Tryz.prog W 0 (fun _ => true) true 26 v d p) (bel : Below W.heap.size W W') (lt0 : ∀ x ∈ p, x.block < W.heap.size) : DataW.Trod enc Tryz.prog W' 0 (fun b => decide (b < W.heap.size)) true 26 v d p :=
 Below.trod laidOut (by kernel_rfl) (of_decide_eq_true (by kernel_rfl)) h bel lt0
end
end Go.Proofs.YtkhlkohlccndgaaGreat
namespace Go.Proofs.YtkhlkohlccndgaaGreat
open Go.RowKit

theorem sameInts_yes (u v : Value) (l : List Int) (w : World) (hu : RdInts w u l) (hv : RdInts w v l) (hl : l.length ≤ 1000000) :
  Calls Tryz.prog 22 #[u, v] w fun e w' => e = .returned (.bool true) ∧ Below w.heap.size w w' := by
 have hu' := hu
 have hv' := hv
 obtain ⟨ua, ucap, rfl, _⟩ := hu'
 obtain ⟨va, vcap, rfl, _⟩ := hv'
 have HU := hid hu
 have HV := hid hv
 clear hu hv
 go_enter Tryz.func22, Tryz.ntmps22
 go_wp2_with fail
 go_loopw [5] (fun b wr => ∃ i : Nat, i ≤ l.length ∧ b = .int .i64 i ∧ Hid (Below w.heap.size w wr)) (fun b _ => l.length - (intOf b).toNat)
 case atStart => exact ⟨0, by omega, rfl, Below.refl _ _⟩
 case round =>
  obtain ⟨i, hi, rfl, B0⟩ := hrel
  by_cases hlt : i < l.length
  ·obtain ⟨n, hn⟩ : ∃ n, l[i]? = some n := ⟨_, List.getElem?_eq_getElem hlt⟩
   obtain ⟨ub, uo, _, e1, ul, uc⟩ := rdInts_at (rd_below HU.out B0.out) hn
   obtain ⟨vb, vo, _, e2, vl, vc⟩ := rdInts_at (rd_below HV.out B0.out) hn
   simp only [Value.slice.injEq] at e1 e2
   obtain ⟨rfl, _, rfl⟩ := e1
   obtain ⟨rfl, _, rfl⟩ := e2
   clear hn
   go_wp2_with fail
   go_quiet (fail)
   go_wp2
   go_roundw
   case rel => exact ⟨i + 1, by omega, by go_num, below_drewN B0.out _⟩
   case measure => simp [intOf]; omega
  ·go_wp2
   go_ret
   exact ⟨rfl, B0.out⟩

end Go.Proofs.YtkhlkohlccndgaaGreat
