/- Part of the proof: PaT RrP RrA Zl Za Zv Zu Zy TbP TbA PrA PrB Zx Zd Ya Yb Yc Yo Yp Ee Ef. -/
import Derived.Test.YtkhlkohlccndgaaGreatQz
import Derived.Test.YtkhlkohlccndgaaGreatQao
import Derived.Test.YtkhlkohlccndgaaGreatQak
import Derived.Test.YtkhlkohlccndgaaGreatQal
import Derived.Test.YtkhlkohlccndgaaGreatQah
import Derived.Lib.SliceRun
import Derived.Test.YtkhlkohlccndgaaGreatQai
import Derived.Test.YtkhlkohlccndgaaGreatQaa
import Derived.Test.YtkhlkohlccndgaaGreatQac
import Derived.Test.YtkhlkohlccndgaaGreatQaj
import Derived.Test.YtkhlkohlccndgaaGreatQae
set_option linter.unusedVariables false
set_option linter.unusedSimpArgs false
set_option maxRecDepth 100000
set_option maxHeartbeats 16000000
namespace Go.Proofs.YtkhlkohlccndgaaGreat
section
open Go.RowKit

def Tf : Tx.Bs := [82, 117, 108, 101, 32, 101, 117, 32, 49, 57, 56, 49, 32, 109, 97, 120, 32, 77, 97, 114, 32, 108, 97, 115, 116, 83, 117, 110, 32, 49, 58, 48, 48, 117, 32, 49, 58, 48, 48, 32, 83, 10, 82, 117, 108, 101, 32, 101, 117, 32, 49, 57, 57, 54, 32, 109, 97, 120, 32, 79, 99, 116, 32, 108, 97, 115, 116, 83, 117, 110, 32, 49, 58, 48, 48, 117, 32, 48, 32, 45, 10, 90, 111, 110, 101, 32, 72, 101, 114, 101, 47, 84, 111, 119, 110, 32, 48, 58, 49, 48, 32, 45, 32, 76, 77, 84, 32, 49, 56, 56, 48, 32, 74, 97, 110, 32, 49, 32, 48, 10, 32, 32, 49, 58, 48, 48, 32, 101, 117, 32, 67, 69, 37, 115, 84, 10, 76, 105, 110, 107, 32, 72, 101, 114, 101, 47, 84, 111, 119, 110, 32, 79, 108, 100, 10]
def euB : Tx.Bs := [101, 117]
def CU : Tx.Bs := [72, 101, 114, 101, 47, 84, 111, 119, 110]
def kL : Sx.Sr :=
 ⟨[⟨euB, 1981, 2100, 3, 2, 0, 0, 3600, 3, 3600, [83]⟩, ⟨euB, 1996, 2100, 10, 2, 0, 0, 3600, 3, 0, []⟩],
  [⟨CU, [⟨600, [], 0, [76, 77, 84], false, 1880, 1, 1, 0, 2⟩, ⟨3600, euB, 0, [67, 69, 37, 115, 84], true, 0, 0, 0, 0, 0⟩]⟩],
  [⟨CU, [79, 108, 100]⟩]⟩
theorem JI : Sx.parse Tf = ⟨kL, 0, 0⟩ := by kernel_rfl
theorem JJ (w : World) :
  Calls Tryz.prog 41 #[] w fun e w' => ∃ r z l, e = .returned (.agg #[r, z, l]) ∧ gN w' w.heap.size r z l kL ∧ Below w.heap.size w w' := by
 have RX0 := hid (aC w [cu, cu, cu] 26)
 have BW0 := hid ((q4B w.heap.size w).alloc (Nat.le_refl _) (.cells [cu, cu, cu].toArray 26))
 go_enter Tryz.func41, Tryz.ntmps41
 go_wp2_with fail
 refine (Gs _ _).mono ?_
 intro e w1 h
 have h2 : xW Tf (w.alloc (.cells #[.slice none 0 0, .slice none 0 0, .slice none 0 0] 26)) e w1 := h
 clear h
 obtain ⟨⟨r, z, l, rfl, hown⟩, hb⟩ := h2
 rw [JI] at hown ⊢
 have hown2 : gN w1 (w.heap.size + 1) r z l kL := by simpa using hown
 have H := hid hown2
 have B1 : Hid (Below w.heap.size w w1) := BW0.out.trans (hb.mono BW0.out.size)
 have R1 := hid (ah RX0.out hb)
 obtain ⟨ra, rcap, rfl⟩ := aF hown2.rules
 obtain ⟨za, zcap, rfl⟩ := Cj hown2
 obtain ⟨la, lcap, rfl⟩ := aF hown2.links
 clear hown hown2 hb RX0 BW0
 obtain ⟨⟨r0, rf0⟩, ⟨r1, rf1⟩, ⟨r2, rf2⟩, hR⟩ := cp3 R1.out
 go_wp2
 refine bodyPost_ret (v := .agg #[.slice ra kL.rules.length rcap, .slice za kL.zones.length zcap, .slice la kL.links.length lcap]) (by simp [results, Tryz.results41, go_sem, *]) rfl ⟨_, _, _, rfl, ?_, ?_⟩
 ·exact Gn (uB (jZ (jZ (jZ H.out (by omega)) (by omega)) (by omega)) ((q4B _ _).alloc (Nat.le_refl _) _)) (by omega)
 ·exact (aB (aB (aB B1.out (Nat.le_refl _) _) (Nat.le_refl _) _) (Nat.le_refl _) _).alloc (by have := B1.out.size; simpa using this) _
end
section

theorem Kc : ∀ r ∈ kL.rules, r.name.length ≤ maxLen ∧ r.letter.length ≤ maxLen := by
 intro r hr
 simp [kL, euB] at hr
 rcases hr with rfl | rfl <;> simp [maxLen]
end
section
open Go.RowKit

theorem pU {w : World} {B : Nat} {v : Value} {l : List Sx.Tm} (h : lG w B v l) : xH w v l := jD (fun _ => rfl) h
end
section
open Go.RowKit Go.Shelf
attribute [local go_sem] Oper.semAt_some

theorem BI {α : Type} {z : Nat} {cells : α → List Value} (hz : ∀ x, (cells x).length = z) (l : List α) : (l.flatMap cells).length = l.length * z := by
 induction l with
 | nil => simp
 | cons x r ih => rw [List.flatMap_cons, List.length_append, ih, hz, List.length_cons, Nat.succ_mul]; omega
theorem GH {α : Type} {z : Nat} {cells : α → List Value} (hz : ∀ x, (cells x).length = z) (h0 : 0 < z) {w : World} {a : Option Addr} {n cap : Nat} {l : List α} (h : Rd z cells w (.slice a n cap) l) : ∀ ad, a = some ad → ∀ j u, (l.flatMap cells)[j]? = some u → w.cell? (ad.add j) = some u := by
 intro ad e j u hj
 subst e
 by_cases hn : l = []
 ·subst hn; simp at hj
 obtain ⟨a', cap', e1, h2⟩ := h
 obtain ⟨b, o, e2, _, hc⟩ := h2 hn
 simp only [Value.slice.injEq] at e1
 obtain ⟨rfl, _, _⟩ := e1
 simp only [Option.some.injEq] at e2
 subst e2
 have hlen := BI hz l
 have hj' := (q4L.1 hj).1
 rw [hlen] at hj'
 have hq : j / z < l.length := (Nat.div_lt_iff_lt_mul h0).2 hj'
 obtain ⟨x, hx⟩ : ∃ x, l[j / z]? = some x := ⟨_, q4G hq⟩
 have hk : ∃ y, (cells x)[j % z]? = some y := ⟨_, q4G (by rw [hz]; exact Nat.mod_lt _ h0)⟩
 obtain ⟨y, hy⟩ := hk
 have hdm : j / z * z + j % z = j := Nat.div_add_mod' j z
 have := flat_get cells hz l (j / z) x hx (j % z) y hy
 rw [hdm, hj] at this
 simp at this
 subst this
 have := hc (j / z) x hx (j % z) u hy
 rw [show o + j / z * z + j % z = o + j by rw [Nat.add_assoc, hdm]] at this
 unfold Addr.add
 split
 ·rename_i q
  have q' : j = 0 := by simpa using q
  rw [q'] at this
  exact this
 ·exact this
theorem Qv {α : Type} {z : Nat} {cells : α → List Value} {w : World} {n cap : Nat} {l : List α} (h : Rd z cells w (.slice none n cap) l) : l = [] := by
 obtain ⟨a', cap', e1, h2⟩ := h
 by_cases hn : l = []
 ·exact hn
 ·obtain ⟨b, o, e2, _⟩ := h2 hn
  simp only [Value.slice.injEq] at e1
  obtain ⟨rfl, _, _⟩ := e1
  cases e2
theorem Bt (es : List Sx.Er) (ra : Option Addr) (rcap : Nat) (w : World) (h : fA w (.slice ra es.length rcap) es) (he : es.length ≤ 10000) :
  Calls Tryz.prog 55 #[.slice ra es.length rcap] w fun e w' => ∃ v, e = .returned v ∧ fI w' w.heap.size v es ∧ Below w.heap.size w w' := by
 cases ra with
 | none =>
   obtain rfl := Qv h
   clear h
   have hcmp := fun w => Lib.run_eql_slice_nil (P := Tryz.prog) w 42 67 none 0 rcap 0 0 Tryz.underlying42
   simp only [Option.isNone_none] at hcmp
   go_enter Tryz.func55, Tryz.ntmps55
   go_wp2
   go_ret
   exact ⟨_, rfl, World.ownsRow_nil _ _ _ _, q4B _ _⟩
 | some ad =>
   obtain ⟨i0, hi, hz0, hz1, hz2⟩ := info_parts Tryz.Le
   have hc := GH iE (by omega) h
   have B0 := hid ((q4B w.heap.size w).alloc (Nat.le_refl _) (.cells #[] 67))
   have c2 : ∀ ad', some ad = some ad' → ∀ j u, (es.flatMap ay)[j]? = some u → (w.alloc (.cells #[] 67)).cell? (ad'.add j) = some u := by
    intro ad' e j u hj
    have hh := GH iE (by omega) (au h B0.out)
    exact hh ad' e j u hj
   have w2 : (w.alloc (.cells #[] 67)).ownsRow w.heap.size 67 10 (.slice (some ⟨w.heap.size, 0, none⟩) 0 0) 0 [] := World.ownsRow_made w #[] 0 (Nat.le_refl _) (Nat.zero_le _) (by simp)
   have f2 : (es.flatMap ay).length = es.length * 10 := BI iE es
   have o2 : ∀ u ∈ es.flatMap ay, u.oneCell' = true := by
    intro u hu
    obtain ⟨c, _, hc⟩ := List.mem_flatMap.1 hu
    exact Dr c u hc
   clear hc h
   have hcmp := fun w => Lib.run_eql_slice_nil (P := Tryz.prog) w 42 67 (some ad) es.length rcap 0 0 Tryz.underlying42
   simp only [Option.isNone_some] at hcmp
   go_enter Tryz.func55, Tryz.ntmps55
   go_wp2_with (at_builtin; refine jJ rfl (.tmp 5) (.tmp 6) 42 rfl w.heap.size 67 i0 (.agg #[.int .i64 0, .string ⟨#[]⟩, .int .i64 0, .string ⟨#[]⟩, .bool false, .int .i64 0, .int .i64 0, .int .i64 0, .int .i64 0, .int .i64 0]) 10 96 Tryz.underlying42 hi hz0 hz1 hz2 rfl (by decide) (.slice (some ⟨w.heap.size, 0, none⟩) 0 0) 0 [] rfl w2 (some ad) es.length rcap (es.flatMap ay) rfl f2 c2 (fun q => by cases q) o2 (by unfold maxLen; omega) (by omega) (by simp) ?_; intro v3 w3 hown hgrow)
   have O3 : Hid (fI w3 w.heap.size v3 es) := by
    show World.ownsRow _ _ _ _ _ _ _
    simpa using hown
   have B3 : Hid (Below w.heap.size w w3) := Below.grown B0.out hgrow (by simp) (fun k hk => (w2.lt k hk).1)
   clear hown hgrow c2 f2 o2 w2 B0
   go_wp2
   go_ret
   exact ⟨_, rfl, O3.out, B3.out⟩
theorem set2 {w : World} {b q o : Nat} {u x y : Value} (hne : ¬ b = q) (h : w.cell? ⟨b, 0, none⟩ = some x ∧ w.cell? ⟨b, 1, none⟩ = some y) : (w.setCell ⟨q, o, none⟩ u).cell? ⟨b, 0, none⟩ = some x ∧ (w.setCell ⟨q, o, none⟩ u).cell? ⟨b, 1, none⟩ = some y := by
 have e : ∀ k, (w.setCell ⟨q, o, none⟩ u).cell? ⟨b, k, none⟩ = w.cell? ⟨b, k, none⟩ := fun k => World.cell?_of_block (Below.heap_setCell _ _ _ _ hne)
 rw [e, e]; exact h
/- what Find answers -/
def lL (E : Int) (xs : List ZV) (ls : List Sx.Lk) (nm : Tx.Bs) : Int := if E ≠ 0 then E else if gZ xs (eY ls nm) = true then 0 else 5
def pJ (E : Int) (xs : List ZV) (ls : List Sx.Lk) (nm : Tx.Bs) : Sx.Zn := if lL E xs ls nm = 0 then (lh xs (eY ls nm)).z else ⟨[], []⟩
theorem Ir {xs : List ZV} {nm : Tx.Bs} (h : gZ xs nm = true) : lh xs nm ∈ xs := by
 unfold lh
 unfold gZ at h
 rw [List.any_eq_true] at h
 obtain ⟨x, hx, hp⟩ := h
 cases hf : xs.find? (fun p => p.z.name == nm) with
 | none => rw [List.find?_eq_none] at hf; exact absurd hp (hf x hx)
 | some y => exact List.mem_of_find?_eq_some hf
theorem Pf (E : Int) (nm : Tx.Bs) (zs : List Sx.Zn) (ls : List Sx.Lk) (xs : List ZV) (ra za la : Option Addr) (n1 rcap zcap lcap : Nat) (w : World) (h2 : kC w (.slice za xs.length zcap) zs xs) (h3 : fJ w (.slice la ls.length lcap) ls)
  (hE : E = 0 → xs.length ≤ 10000 ∧ ls.length ≤ 10000 ∧ ∀ p ∈ xs, p.z.eras.length ≤ 10000)
  (hC : ∀ W, Below w.heap.size w W → Calls Tryz.prog 14 #[.agg #[.slice ra n1 rcap, .slice za xs.length zcap, .slice la ls.length lcap]] W fun e w' => e = .returned (.int .i64 E) ∧ Below W.heap.size W w') :
  Calls Tryz.prog 16 #[.agg #[.slice ra n1 rcap, .slice za xs.length zcap, .slice la ls.length lcap], af nm] w fun e w' =>
   ∃ v, e = .returned (.tuple #[.agg #[af (pJ E xs ls nm).name, v], .int .i64 (lL E xs ls nm)]) ∧ fI w' w.heap.size v (pJ E xs ls nm).eras ∧ Below w.heap.size w w' := by
 have HC := hid hC
 have H2 := hid h2
 have H3 := hid h3
 have HEE := hid hE
 obtain ⟨N, hN⟩ : ∃ N, w.heap.size = N := ⟨_, rfl⟩
 obtain ⟨V, hV⟩ : ∃ V, (w.alloc (.cells #[.slice ra n1 rcap, .slice za xs.length zcap, .slice la ls.length lcap] 26)).alloc (.cells #[.string ⟨#[]⟩, .slice none 0 0] 44) = V := ⟨_, rfl⟩
 have XS := aH (aC w [.slice ra n1 rcap, .slice za xs.length zcap, .slice la ls.length lcap] 26) (.cells #[.string ⟨#[]⟩, .slice none 0 0] 44)
 have XZ := aC (w.alloc (.cells #[.slice ra n1 rcap, .slice za xs.length zcap, .slice la ls.length lcap] 26)) [.string ⟨#[]⟩, .slice none 0 0] 44
 have BV : Hid (Below w.heap.size w V) := by show Below _ _ _; rw [← hV]; exact ((q4B _ w).alloc (Nat.le_refl _) _).alloc (by simp) _
 have e1 : (w.alloc (.cells [.slice ra n1 rcap, .slice za xs.length zcap, .slice la ls.length lcap].toArray 26)).alloc (.cells #[.string ⟨#[]⟩, .slice none 0 0] 44) = V := hV
 have e2 : (w.alloc (.cells #[.slice ra n1 rcap, .slice za xs.length zcap, .slice la ls.length lcap] 26)).alloc (.cells [.string ⟨#[]⟩, .slice none 0 0].toArray 44) = V := hV
 rw [e1, hN] at XS
 rw [e2] at XZ
 simp only [World.size_alloc, hN] at XZ
 have HXS := hid XS
 have HXZ := hid XZ
 have HNN := hid hN
 have CC := hid (hC V BV.out)
 obtain ⟨⟨s0, _⟩, ⟨s1, _⟩, ⟨s2, _⟩, sx⟩ := cp3 XS
 clear XS XZ e1 e2 hC h2 h3 hE
 go_enter Tryz.func16, Tryz.ntmps16
 simp only [hN]
 go_wp2_with fail
 refine CC.out.mono ?_
 rintro e w1 ⟨rfl, hb⟩
 have X1 := hid (ah HXS.out hb)
 have Z1 := hid (ah HXZ.out hb)
 have B1 : Hid (Below w.heap.size w w1) := BV.out.trans (hb.mono BV.out.size)
 clear s0 s1 s2 sx hb CC
 obtain ⟨⟨s0, _⟩, ⟨s1, _⟩, ⟨s2, _⟩, -⟩ := cp3 X1.out
 obtain ⟨⟨q0, k0⟩, ⟨q1, k1⟩, -⟩ := cp2 Z1.out
 have sx := X1.out.1
 have zx := Z1.out.1
 by_cases hq : E = 0
 case neg =>
  have hq2 : (E == 0) = false := by simp [hq]
  have F1 : lL E xs ls nm = E := by unfold lL; rw [if_pos hq]
  have F2 : pJ E xs ls nm = ⟨[], []⟩ := by unfold pJ; rw [F1, if_neg hq]
  have G1 := hid F1
  have G2 := hid F2
  clear F1 F2
  go_wp2
  have h1 : w.heap.size ≤ N + 1 := by rw [HNN.out]; omega
  refine bodyPost_ret (v := .tuple #[.agg #[.string ⟨#[]⟩, .slice none 0 0], .int .i64 E]) (by simp [results, Tryz.results16, go_sem, *]) rfl ⟨.slice none 0 0, by rw [G1.out, G2.out], by rw [G2.out]; exact World.ownsRow_nil _ _ _ _, ?_⟩
  have h2 := ax (ax B1.out h1 0 (.string ⟨#[]⟩)) h1 1 (.slice none 0 0)
  rw [HNN.out] at h2
  exact h2
 subst hq
 obtain ⟨hx, hl, hes⟩ := HEE.out rfl
 have CZ := hid (KJ nm zs ls xs ra za la n1 rcap zcap lcap w1 (dP H2.out B1.out) (au H3.out B1.out) hx hl)
 have HES := hid hes
 clear HEE hx hl hes
 go_wp2_with fail
 refine CZ.out.mono ?_
 rintro e w2 ⟨rfl, hb⟩
 have B2 : Hid (Below w.heap.size w w2) := B1.out.trans (hb.mono B1.out.size)
 have Z2 : Hid (ag w2 (N + 1) [.string ⟨#[]⟩, .slice none 0 0]) := ah Z1.out hb
 clear s0 s1 s2 sx q0 k0 q1 k1 zx CZ hb
 obtain ⟨⟨q0, k0⟩, ⟨q1, k1⟩, zx⟩ := cp2 Z2.out
 obtain ⟨C, hC⟩ : ∃ C, gZ xs (eY ls nm) = C := ⟨_, rfl⟩
 have HCC := hid hC
 rw [hC]
 clear hC
 have h1 := hid (show w.heap.size ≤ N + 1 by rw [HNN.out]; omega)
 cases C
 case false =>
  have F1 : lL 0 xs ls nm = 5 := by unfold lL; rw [if_neg (by simp), HCC.out]; rfl
  have F2 : pJ 0 xs ls nm = ⟨[], []⟩ := by unfold pJ; rw [F1]; rfl
  have G1 := hid F1
  have G2 := hid F2
  clear F1 F2
  go_wp2
  refine bodyPost_ret (v := .tuple #[.agg #[.string ⟨#[]⟩, .slice none 0 0], .int .i64 5]) (by simp [results, Tryz.results16, go_sem, *]) rfl ⟨.slice none 0 0, by rw [G1.out, G2.out], by rw [G2.out]; exact World.ownsRow_nil _ _ _ _, ?_⟩
  have h2 := ax (ax B2.out h1.out 0 (.string ⟨#[]⟩)) h1.out 1 (.slice none 0 0)
  rw [HNN.out] at h2
  exact h2.alloc (by have := h2.size; rw [HNN.out] at this; exact this) _
 have F1 : lL 0 xs ls nm = 0 := by unfold lL; rw [if_neg (by simp), HCC.out]; rfl
 have F2 : pJ 0 xs ls nm = (lh xs (eY ls nm)).z := by unfold pJ; rw [F1]; rfl
 have HM := Ir HCC.out
 have HL := hid (HES.out _ HM)
 have RE := hid (H2.out.eras _ HM)
 obtain ⟨y, hy⟩ : ∃ y, lh xs (eY ls nm) = y := ⟨_, rfl⟩
 rw [hy] at F2 HL RE ⊢
 have G1 := hid F1
 have G2 := hid F2
 clear F1 F2 HM hy
 obtain ⟨M, hM⟩ : ∃ M, w2.heap.size = M := ⟨_, rfl⟩
 obtain ⟨V3, hV3⟩ : ∃ V3, w2.alloc (.cells #[.string ⟨y.z.name.toArray⟩, .slice y.a y.z.eras.length y.c] 44) = V3 := ⟨_, rfl⟩
 have Y3 : Hid (ag V3 M [af y.z.name, .slice y.a y.z.eras.length y.c]) := by
  show ag _ _ _
  rw [← hV3, ← hM]; exact aC w2 [af y.z.name, .slice y.a y.z.eras.length y.c] 44
 have Z3 : Hid (ag V3 (N + 1) [.string ⟨#[]⟩, .slice none 0 0]) := by show ag _ _ _; rw [← hV3]; exact aH Z2.out _
 have B3 : Hid (Below w.heap.size w V3) := by show Below _ _ _; rw [← hV3]; exact B2.out.alloc B2.out.size _
 have UU : V3.cell? ⟨M, 0, none⟩ = some (af y.z.name) ∧ V3.cell? ⟨M, 1, none⟩ = some (.slice y.a y.z.eras.length y.c) := ⟨(aa Y3.out 0 rfl).1, (aa Y3.out 1 rfl).1⟩
 have UUd : V3.drew.cell? ⟨M, 0, none⟩ = some (af y.z.name) ∧ V3.drew.cell? ⟨M, 1, none⟩ = some (.slice y.a y.z.eras.length y.c) := UU
 have neM : ¬ M = N + 1 := by have := zx; omega
 have CL := hid (Bt y.z.eras y.a y.c V3.drew (au RE.out (B3.out.trans ((show Below V3.heap.size V3 V3.drew from ⟨rfl, rfl, rfl, Nat.le_refl _, fun _ _ => rfl⟩).mono B3.out.size))) HL.out)
 have CL2 := hid (Bt y.z.eras y.a y.c V3 (au RE.out B3.out) HL.out)
 have sY := Y3.out.1
 have after : Hid (∀ w6, Below V3.heap.size V3 w6 → (w6.cell? ⟨M, 0, none⟩ = some (af y.z.name) ∧ w6.cell? ⟨M, 1, none⟩ = some (.slice y.a y.z.eras.length y.c)) ∧ ag w6 (N + 1) [.string ⟨#[]⟩, .slice none 0 0] ∧ Below w.heap.size w w6) := by
  intro w6 hb
  have Y6 := ah Y3.out hb
  exact ⟨⟨(aa Y6 0 rfl).1, (aa Y6 1 rfl).1⟩, ah Z3.out hb, B3.out.trans (hb.mono B3.out.size)⟩
 have S3 := hid B3.out.size
 clear q0 k0 q1 k1 zx
 have HM3 := hid hM
 go_wp2_with fail
 have UUx := hid UU
 go_region_held3 (fun w' => w'.cell? ⟨M, 0, none⟩ = some (af y.z.name) ∧ w'.cell? ⟨M, 1, none⟩ = some (.slice y.a y.z.eras.length y.c))
  (first | with_reducible exact UU | with_reducible exact UUd | with_reducible exact UU6 | with_reducible exact set2 neM (set2 neM UU6) | go_keep)
  (first | (go_at_call 55; (with_reducible refine CL.out.mono ?_); rintro e w6 ⟨cv, rfl, O6, hb6⟩; obtain ⟨UU6, Z6, B6⟩ := after.out w6 (bq hb6); obtain ⟨q0, k0⟩ := aa Z6 0 rfl; obtain ⟨q1, k1⟩ := aa Z6 1 rfl; have zx := Z6.1; have O7 := hid O6; have B7 := hid B6; obtain ⟨ca, ccap, rfl⟩ := aF O6; clear O6 hb6 B6))
 all_goals
  go_wp2
  have o1 : fI w6 w.heap.size (.slice ca y.z.eras.length ccap) y.z.eras := dC O7.out S3.out
  have ne : ∀ o, Value.ownBlock (.slice ca y.z.eras.length ccap) ≠ some (⟨N + 1, o, none⟩ : Addr).block := by
   intro o q
   have h8 := (O7.out.lt _ q).1
   have h9 : V3.drew.heap.size = V3.heap.size := rfl
   have h10 := Z3.out.1
   have h11 : V3.heap.size = M + 1 := by rw [← hV3, World.size_alloc, HM3.out]
   simp only at h8
   omega
  have h2 := ax (ax B7.out h1.out 0 (.string ⟨y.z.name.toArray⟩)) h1.out 1 (.slice ca y.z.eras.length ccap)
  rw [HNN.out] at h2 o1
  refine bodyPost_ret (v := .tuple #[.agg #[af y.z.name, .slice ca y.z.eras.length ccap], .int .i64 0]) (by simp [results, Tryz.results16, go_sem, *]) rfl ⟨.slice ca y.z.eras.length ccap, by rw [G1.out, G2.out], ?_, h2⟩
  rw [G2.out]
  refine ownsRow_setCell_other ?_ (ne _) _
  refine ownsRow_setCell_other ?_ (ne _) _
  exact o1
end
section
open Go.RowKit Go.Shelf

/- the name that a format makes of a saving and its letter -/
def jQ (fmt : Tx.Bs) (sv : Int) (lt : Tx.Bs) : Tx.Bs :=
 if (Lib.cut fmt Sx.pct).2.2 = true then (Lib.cut fmt Sx.pct).1 ++ lt ++ (Lib.cut fmt Sx.pct).2.1
 else if (Lib.cut fmt Sx.slash).2.2 = true ∧ 0 < sv then (Lib.cut fmt Sx.slash).2.1 else (Lib.cut fmt Sx.slash).1
theorem xO {a b : ByteArray} (h : a = b) : Ending.returned (.string a) = .returned (.string b) := by rw [h]
theorem Bc (a b : Tx.Bs) : (⟨a.toArray⟩ : ByteArray) ++ ⟨b.toArray⟩ = ⟨(a ++ b).toArray⟩ := by
 apply ByteArray.ext; simp
theorem Jt (fmt lt : Tx.Bs) (at_ sv m : Int) (w : World) (hf : fmt.length ≤ 1000000) (hl : lt.length ≤ 1000000) (hm : w.cell? ⟨0, 0, none⟩ = some (.int .i64 m)) (h0 : 0 < w.heap.size) :
  Calls Tryz.prog 111 #[af fmt, .agg #[.int .i64 at_, .int .i64 sv, af lt]] w fun e w' => e = .returned (.string ⟨(jQ fmt sv lt).toArray⟩) ∧ Below w.heap.size w w' := by
 obtain ⟨V, hV⟩ : ∃ V, w.alloc (.cells #[.int .i64 at_, .int .i64 sv, af lt] 72) = V := ⟨_, rfl⟩
 have XV : ag V w.heap.size [.int .i64 at_, .int .i64 sv, af lt] := by rw [← hV]; exact aC w [.int .i64 at_, .int .i64 sv, af lt] 72
 have BV : Hid (Below w.heap.size w V) := by show Below _ _ _; rw [← hV]; exact (q4B _ w).alloc (Nat.le_refl _) _
 have mV : V.cell? ⟨0, 0, none⟩ = some (.int .i64 m) := (BV.out.cell (p := ⟨0, 0, none⟩) h0).trans hm
 have C1 := hid (xI fmt Sx.pct m V (by omega) mV)
 have HX := hid XV
 have HF := hid hf
 have HM := hid mV
 obtain ⟨l1, l2⟩ := Dm fmt Sx.pct
 obtain ⟨a, ha⟩ : ∃ a, (Lib.cut fmt Sx.pct).1 = a := ⟨_, rfl⟩
 obtain ⟨b, hb⟩ : ∃ b, (Lib.cut fmt Sx.pct).2.1 = b := ⟨_, rfl⟩
 obtain ⟨c, hc⟩ : ∃ c, (Lib.cut fmt Sx.pct).2.2 = c := ⟨_, rfl⟩
 rw [ha, hb, hc] at C1
 rw [ha] at l1
 rw [hb] at l2
 have HN : Hid (jQ fmt sv lt = if c = true then a ++ lt ++ b else if (Lib.cut fmt Sx.slash).2.2 = true ∧ 0 < sv then (Lib.cut fmt Sx.slash).2.1 else (Lib.cut fmt Sx.slash).1) := by
  show _ = _
  unfold jQ; rw [ha, hb, hc]
 clear ha hb hc XV mV hm h0
 go_enter Tryz.func111, Tryz.ntmps111
 go_wp2_with fail
 refine C1.out.mono ?_
 rintro e w1 ⟨rfl, n, rfl⟩
 obtain ⟨⟨x0, _⟩, ⟨x1, _⟩, ⟨x2, _⟩, sx⟩ := cp3 HX.out
 cases c
 case true =>
  have EN : Hid (jQ fmt sv lt = a ++ lt ++ b) := by show _ = _; rw [HN.out]; rfl
  go_wp2
  go_ret
  exact ⟨xO (by rw [EN.out, ← Bc, ← Bc]), BV.out.trans ((IA V n).mono BV.out.size)⟩
 case false =>
  have C2 := hid (xI fmt Sx.slash m (V.drewN n) (by omega) HM.out)
  obtain ⟨c, hc⟩ : ∃ c, (Lib.cut fmt Sx.slash).1 = c := ⟨_, rfl⟩
  obtain ⟨d, hd⟩ : ∃ d, (Lib.cut fmt Sx.slash).2.1 = d := ⟨_, rfl⟩
  obtain ⟨e, he⟩ : ∃ e, (Lib.cut fmt Sx.slash).2.2 = e := ⟨_, rfl⟩
  rw [hc, hd, he] at C2
  rw [hc, hd, he] at HN
  have BD := hid (BV.out.trans ((IA V n).mono BV.out.size))
  clear hc hd he
  go_wp2_with fail
  refine C2.out.mono ?_
  rintro _ w2 ⟨rfl, n2, rfl⟩
  have BE := hid (fun k => BV.out.trans ((IA V k).mono BV.out.size))
  cases e
  case false =>
   have EN : Hid (jQ fmt sv lt = c) := by show _ = _; rw [HN.out]; simp
   go_wp2
   go_ret
   exact ⟨xO (by rw [EN.out]), BE.out _⟩
  case true =>
   by_cases hs : 0 < sv
   ·have HS := hid hs
    have EN : Hid (jQ fmt sv lt = d) := by show _ = _; rw [HN.out]; simp [hs]
    have hs2 : decide (0 < sv) = true := by simp [hs]
    have hs3 : sv > 0 := hs
    go_wp2
    go_ret
    exact ⟨xO (by rw [EN.out]), BE.out _⟩
   ·have HS := hid hs
    have EN : Hid (jQ fmt sv lt = c) := by show _ = _; rw [HN.out]; simp [hs]
    have hs2 : decide (0 < sv) = false := by simp [hs]
    go_wp2
    go_ret
    exact ⟨xO (by rw [EN.out]), BE.out _⟩
theorem Rn {b c : Nat} {u0 u1 v0 v1 v2 : Value} {w w' : World} (h : w.cell? ⟨b, 0, none⟩ = some u0 ∧ w.cell? ⟨b, 3, none⟩ = some u1 ∧ w.cell? ⟨c, 0, none⟩ = some v0 ∧ w.cell? ⟨c, 1, none⟩ = some v1 ∧ w.cell? ⟨c, 2, none⟩ = some v2) (hb : b < w.heap.size) (hc : c < w.heap.size) (hw : Below w.heap.size w w') :
  w'.cell? ⟨b, 0, none⟩ = some u0 ∧ w'.cell? ⟨b, 3, none⟩ = some u1 ∧ w'.cell? ⟨c, 0, none⟩ = some v0 ∧ w'.cell? ⟨c, 1, none⟩ = some v1 ∧ w'.cell? ⟨c, 2, none⟩ = some v2 :=
 ⟨(hw.cell (p := ⟨b, 0, none⟩) hb).trans h.1, (hw.cell (p := ⟨b, 3, none⟩) hb).trans h.2.1, (hw.cell (p := ⟨c, 0, none⟩) hc).trans h.2.2.1, (hw.cell (p := ⟨c, 1, none⟩) hc).trans h.2.2.2.1, (hw.cell (p := ⟨c, 2, none⟩) hc).trans h.2.2.2.2⟩
theorem yn {b c q o : Nat} {u u0 u1 v0 v1 v2 : Value} {w : World} (hb : ¬ b = q) (hc : ¬ c = q) (h : w.cell? ⟨b, 0, none⟩ = some u0 ∧ w.cell? ⟨b, 3, none⟩ = some u1 ∧ w.cell? ⟨c, 0, none⟩ = some v0 ∧ w.cell? ⟨c, 1, none⟩ = some v1 ∧ w.cell? ⟨c, 2, none⟩ = some v2) :
  (w.setCell ⟨q, o, none⟩ u).cell? ⟨b, 0, none⟩ = some u0 ∧ (w.setCell ⟨q, o, none⟩ u).cell? ⟨b, 3, none⟩ = some u1 ∧ (w.setCell ⟨q, o, none⟩ u).cell? ⟨c, 0, none⟩ = some v0 ∧ (w.setCell ⟨q, o, none⟩ u).cell? ⟨c, 1, none⟩ = some v1 ∧ (w.setCell ⟨q, o, none⟩ u).cell? ⟨c, 2, none⟩ = some v2 := by
 have e1 : ∀ k, (w.setCell ⟨q, o, none⟩ u).cell? ⟨b, k, none⟩ = w.cell? ⟨b, k, none⟩ := fun k => World.cell?_of_block (Below.heap_setCell _ _ _ _ hb)
 have e2 : ∀ k, (w.setCell ⟨q, o, none⟩ u).cell? ⟨c, k, none⟩ = w.cell? ⟨c, k, none⟩ := fun k => World.cell?_of_block (Below.heap_setCell _ _ _ _ hc)
 simp only [e1, e2]
 exact h
theorem MH (x : Sx.Er) (t : Sx.Tm) (m : Int) (w : World) (hf : x.format.length ≤ 1000000) (hl : t.letter.length ≤ 1000000) (hm : w.cell? ⟨0, 0, none⟩ = some (.int .i64 m)) (h0 : 0 < w.heap.size)
  (b1 : -1000000000000 ≤ x.shift ∧ x.shift ≤ 1000000000000) (b2 : -1000000000000 ≤ t.save ∧ t.save ≤ 1000000000000) :
  Calls Tryz.prog 52 #[iF x, H7 t] w fun e w' => e = .returned (lcV ⟨x.shift + t.save, t.save, jQ x.format t.save t.letter⟩) ∧ Below w.heap.size w w' := by
 obtain ⟨ta, ts, tl⟩ := t
 dsimp only at hl b2
 obtain ⟨N, hN⟩ : ∃ N, w.heap.size = N := ⟨_, rfl⟩
 obtain ⟨V, hV⟩ : ∃ V, ((w.alloc (.cells (ay x).toArray 67)).alloc (.cells #[.int .i64 ta, .int .i64 ts, af tl] 72)).alloc (.cells #[.int .i64 0, .int .i64 0, .string ⟨#[]⟩] 31) = V := ⟨_, rfl⟩
 have XE := aH (aH (aC w (ay x) 67) (.cells #[.int .i64 ta, .int .i64 ts, af tl] 72)) (.cells #[.int .i64 0, .int .i64 0, .string ⟨#[]⟩] 31)
 have XT := aH (aC (w.alloc (.cells (ay x).toArray 67)) [.int .i64 ta, .int .i64 ts, af tl] 72) (.cells #[.int .i64 0, .int .i64 0, .string ⟨#[]⟩] 31)
 have XL := aC ((w.alloc (.cells (ay x).toArray 67)).alloc (.cells #[.int .i64 ta, .int .i64 ts, af tl] 72)) [.int .i64 0, .int .i64 0, .string ⟨#[]⟩] 31
 have e2 : ((w.alloc (.cells (ay x).toArray 67)).alloc (.cells [.int .i64 ta, .int .i64 ts, af tl].toArray 72)).alloc (.cells #[.int .i64 0, .int .i64 0, .string ⟨#[]⟩] 31) = V := hV
 have e3 : ((w.alloc (.cells (ay x).toArray 67)).alloc (.cells #[.int .i64 ta, .int .i64 ts, af tl] 72)).alloc (.cells [.int .i64 0, .int .i64 0, .string ⟨#[]⟩].toArray 31) = V := hV
 rw [hV, hN] at XE
 rw [e2] at XT
 rw [e3] at XL
 simp only [World.size_alloc, hN] at XT XL
 have BV : Hid (Below N w V) := by show Below _ _ _; rw [← hV]; exact (((q4B N w).alloc (by omega) _).alloc (by simp; omega) _).alloc (by simp; omega) _
 have mV : V.cell? ⟨0, 0, none⟩ = some (.int .i64 m) := (BV.out.cell (p := ⟨0, 0, none⟩) (by show 0 < N; omega)).trans hm
 have sV := XL.1
 have EV := tQ XE
 have UU : V.cell? ⟨N, 0, none⟩ = some (.int .i64 x.shift) ∧ V.cell? ⟨N, 3, none⟩ = some (af x.format) ∧ V.cell? ⟨N + 1, 0, none⟩ = some (.int .i64 ta) ∧ V.cell? ⟨N + 1, 1, none⟩ = some (.int .i64 ts) ∧ V.cell? ⟨N + 1, 2, none⟩ = some (af tl) := ⟨EV.1, EV.2.2.2.1, (aa XT 0 rfl).1, (aa XT 1 rfl).1, (aa XT 2 rfl).1⟩
 have UUd : V.drew.cell? ⟨N, 0, none⟩ = some (.int .i64 x.shift) ∧ V.drew.cell? ⟨N, 3, none⟩ = some (af x.format) ∧ V.drew.cell? ⟨N + 1, 0, none⟩ = some (.int .i64 ta) ∧ V.drew.cell? ⟨N + 1, 1, none⟩ = some (.int .i64 ts) ∧ V.drew.cell? ⟨N + 1, 2, none⟩ = some (af tl) := UU
 have CN := hid (Jt x.format tl ta ts m V.drew hf hl mV (by show 0 < V.heap.size; omega))
 have after : Hid (∀ w6, Below V.drew.heap.size V.drew w6 → (w6.cell? ⟨N, 0, none⟩ = some (.int .i64 x.shift) ∧ w6.cell? ⟨N, 3, none⟩ = some (af x.format) ∧ w6.cell? ⟨N + 1, 0, none⟩ = some (.int .i64 ta) ∧ w6.cell? ⟨N + 1, 1, none⟩ = some (.int .i64 ts) ∧ w6.cell? ⟨N + 1, 2, none⟩ = some (af tl)) ∧ ag w6 (N + 1 + 1) [.int .i64 0, .int .i64 0, .string ⟨#[]⟩] ∧ Below N w w6) := by
  intro w6 hb
  have hb' := bq hb
  exact ⟨Rn UU (by omega) (by omega) hb', ah XL hb', BV.out.trans (hb'.mono (by omega))⟩
 have ne1 : ¬ N = N + 1 + 1 := by omega
 have ne2 : ¬ N + 1 = N + 1 + 1 := by omega
 obtain ⟨nm, hnm⟩ : ∃ nm, jQ x.format ts tl = nm := ⟨_, rfl⟩
 rw [hnm] at CN
 have HNM := hid hnm
 have HNN := hid hN
 have HB1 := hid b1
 have HB2 := hid b2
 have B1 := b1.1
 have B1' := b1.2
 have B2 := b2.1
 have B2' := b2.2
 clear XE XT XL e2 e3 EV mV hm h0 hf hl hnm b1 b2
 go_enter Tryz.func52, Tryz.ntmps52
 simp only [hN]
 have hVx : ((w.alloc (.cells #[.int .i64 x.shift, af x.rules, .int .i64 x.save, af x.format, .bool x.opn, .int .i64 x.uy, .int .i64 x.um, .int .i64 x.ud, .int .i64 x.uat, .int .i64 x.uclock] 67)).alloc (.cells #[.int .i64 ta, .int .i64 ts, af tl] 72)).alloc (.cells #[.int .i64 0, .int .i64 0, .string ⟨#[]⟩] 31) = V := hV
 go_wp2_with fail
 go_region_held3 (fun w' => w'.cell? ⟨N, 0, none⟩ = some (.int .i64 x.shift) ∧ w'.cell? ⟨N, 3, none⟩ = some (af x.format) ∧ w'.cell? ⟨N + 1, 0, none⟩ = some (.int .i64 ta) ∧ w'.cell? ⟨N + 1, 1, none⟩ = some (.int .i64 ts) ∧ w'.cell? ⟨N + 1, 2, none⟩ = some (af tl))
  (first | with_reducible exact UU | with_reducible exact UUd | with_reducible exact UU6 | with_reducible exact yn ne1 ne2 (yn ne1 ne2 (yn ne1 ne2 UU6)) | go_keep)
  (first | (go_at_call 111; (with_reducible refine CN.out.mono ?_); rintro e w6 ⟨rfl, hb6⟩; obtain ⟨UU6, L6, B6⟩ := after.out w6 hb6; obtain ⟨q0, k0⟩ := aa L6 0 rfl; obtain ⟨q1, k1⟩ := aa L6 1 rfl; obtain ⟨q2, k2⟩ := aa L6 2 rfl; have zx := L6.1; have B7 := hid B6; clear hb6 B6))
 all_goals
  have hw : IntKind.i64.wrap (x.shift + ts) = x.shift + ts := IntWalk.i64_in _ (by omega)
  rw [hw]
  have h1 : N ≤ N + 1 + 1 := by omega
  have h2 := ax (ax (ax B7.out h1 0 (.int .i64 (x.shift + ts))) h1 1 (.int .i64 ts)) h1 2 (.string ⟨nm.toArray⟩)
  go_wp2
  refine bodyPost_ret (v := lcV ⟨x.shift + ts, ts, nm⟩) (by simp [results, Tryz.results52, go_sem, *]) rfl ⟨by rw [HNM.out], h2⟩
end
section
open Go.RowKit Go.Shelf
attribute [local go_sem] Oper.semAt_some

/- what is saved at a time, and by what letter -/
def iR (rs : List Sx.Rl) (x : Sx.Er) (at_ : Int) : Sx.Tm := if x.rules = [] then ⟨0, x.save, []⟩ else lastT (fun t => decide (t.at_ ≤ at_)) (Sx.times rs x.rules x.shift)
end
section
open Go.RowKit Go.Shelf
attribute [local go_sem] Oper.semAt_some

end
section
open Go.RowKit Go.Shelf
attribute [local go_sem] Oper.semAt_some

/- what Find answers, whatever world comes behind w -/
def FindAt (src : Value) (nm : Tx.Bs) (F : Int) (z : Sx.Zn) (w : World) : Prop :=
 ∀ W, Below w.heap.size w W → Calls Tryz.prog 16 #[src, af nm] W fun e w' => ∃ v, e = .returned (.tuple #[.agg #[af z.name, v], .int .i64 F]) ∧ fI w' W.heap.size v z.eras ∧ Below W.heap.size W w'
theorem zP {w : World} {B : Nat} {v : Value} {l : List Sx.Er} (h : fI w B v l) : fA w v l := jD iE h
theorem wV {w : World} {B : Nat} {a : Option Addr} {n c : Nat} {l : List Sx.Er} (h : fI w B (.slice a n c) l) : n ≤ c := by
 rcases h.2 with h' | h'
 ·obtain ⟨e, _⟩ := h'; simp at e; omega
 ·obtain ⟨b, cap, cur, e, _, _, q, _⟩ := h'; simp at e; omega
theorem OU (nm : Tx.Bs) (z : Sx.Zn) (F : Int) (ra za la : Option Addr) (n1 n2 n3 rcap zcap lcap : Nat) (w : World) (hF : FindAt (.agg #[.slice ra n1 rcap, .slice za n2 zcap, .slice la n3 lcap]) nm F z w)
  (hz : F = 0 → z.eras.length ≤ 1000 ∧ ∀ e ∈ z.eras, e.opn = true ∨ lC e) :
  Calls Tryz.prog 17 #[.agg #[.slice ra n1 rcap, .slice za n2 zcap, .slice la n3 lcap], af nm] w fun e w' => ∃ v, e = .returned (.tuple #[v, .int .i64 F]) ∧ bK w' w.heap.size v (if F = 0 then aT z.eras else []) ∧ Below w.heap.size w w' := by
 have HZ := hid hz
 obtain ⟨V, hV⟩ : ∃ V, w.alloc (.cells #[.slice ra n1 rcap, .slice za n2 zcap, .slice la n3 lcap] 26) = V := ⟨_, rfl⟩
 have BV : Hid (Below w.heap.size w V) := by show Below _ _ _; rw [← hV]; exact (q4B _ w).alloc (Nat.le_refl _) _
 have XV : ag V w.heap.size [.slice ra n1 rcap, .slice za n2 zcap, .slice la n3 lcap] := by rw [← hV]; exact aC w [.slice ra n1 rcap, .slice za n2 zcap, .slice la n3 lcap] 26
 have CF := hid (hF V BV.out)
 obtain ⟨⟨s0, _⟩, ⟨s1, _⟩, ⟨s2, _⟩, sx⟩ := cp3 XV
 clear hF hz XV
 go_enter Tryz.func17, Tryz.ntmps17
 go_wp2_with fail
 refine CF.out.mono ?_
 rintro e w1 ⟨v, rfl, hO, hb⟩
 have R1 := hid (zP hO)
 obtain ⟨ca, cc, rfl⟩ := aF hO
 have CAP := hid (wV hO)
 have B1 : Hid (Below w.heap.size w w1) := BV.out.trans (hb.mono BV.out.size)
 clear hO hb CF s0 s1 s2 sx
 by_cases hq : F = 0
 case neg =>
  have hq2 : (F == 0) = false := by simp [hq]
  have E1 : Hid ((if F = 0 then aT z.eras else []) = []) := by show _ = _; rw [if_neg hq]
  go_wp2
  refine bodyPost_ret (v := .tuple #[.slice none 0 0, .int .i64 F]) (by simp [results, Tryz.results17, go_sem]) rfl ⟨_, rfl, World.ownsRow_nil _ _ _ _, B1.out.alloc B1.out.size _⟩
 subst hq
 obtain ⟨hl, hok⟩ := HZ.out rfl
 have CE := hid (fun W hW => Fe ⟨z, ca, cc⟩ W (au R1.out hW) hl CAP.out hok)
 have E1 : Hid ((if (0 : Int) = 0 then aT z.eras else []) = aT z.eras) := by show _ = _; rw [if_pos rfl]
 clear HZ hl hok
 go_wp2_with fail
 refine (CE.out _ ((q4B w1.heap.size w1).alloc (Nat.le_refl _) _)).mono ?_
 rintro e w2 ⟨v2, rfl, hO2, hb2⟩
 have HO2 := hid hO2
 have B2 : Hid (Below w.heap.size w w2) := B1.out.trans ((((q4B w1.heap.size w1).alloc (Nat.le_refl _) _).trans (hb2.mono (by simp))).mono B1.out.size)
 have S2 := hid B1.out.size
 clear hO2 hb2 CE
 go_wp2
 refine bodyPost_ret (v := .tuple #[v2, .int .i64 0]) (by simp [results, Tryz.results17, go_sem]) rfl ⟨v2, rfl, dC HO2.out (by have := S2.out; simp; omega), B2.out⟩
end
section
open Go.RowKit

theorem JU (s : ByteArray) (w : World) (hs : s.size ≤ maxLen) :
  Calls Tryz.prog 138 #[.string s] w fun e w' => e = .returned (.bool (Sx.aU s.data.toList)) ∧ w' = w := by
 unfold maxLen at hs
 have HG : Hid (Sx.aU s.data.toList = s.data.toList.all Sx.dK) := rfl
 go_enter Tryz.func138, Tryz.ntmps138
 go_wp2_with fail
 go_loop [3] (fun a => ∃ k : Nat, k ≤ s.size ∧ a = .int .i64 k ∧ Hid ((s.data.toList.take k).all Sx.dK = true)) (fun a => s.size - (intOf a).toNat)
 case atStart => exact ⟨0, by omega, rfl, by show _ = _; simp⟩
 case round =>
  obtain ⟨k, hk, rfl, HA⟩ := hrel
  by_cases hlt : k < s.size
  ·obtain ⟨c, hc⟩ : ∃ c, s[k] = c := ⟨_, rfl⟩
   have HN : Hid (Sx.dK c = (Sx.gP c || Sx.fZ c || c == 43 || c == 45)) := rfl
   have HC := hid hc
   cases h1 : Sx.gP c
   case true =>
    have H1 := hid h1
    clear h1
    go_wp2_with (go_at_call 165; refine (bI _ _ H1.out).mono ?_; rintro e w1 ⟨rfl, rfl⟩)
    go_round
    case rel => exact ⟨k + 1, by omega, by go_num, eP s _ k hlt HA.out (by rw [HC.out, HN.out, H1.out]; rfl)⟩
    case measure => simp [intOf]; omega
   case false =>
    have H1 := hid h1
    clear h1
    cases h2 : Sx.fZ c
    case true =>
     have H2 := hid h2
     clear h2
     go_wp2_with (first | (go_at_call 165; refine (bI _ _ H1.out).mono ?_; rintro e w1 ⟨rfl, rfl⟩) | (go_at_call 166; refine (bH _ _ H2.out).mono ?_; rintro e w1 ⟨rfl, rfl⟩))
     go_round
     case rel => exact ⟨k + 1, by omega, by go_num, eP s _ k hlt HA.out (by rw [HC.out, HN.out, H1.out, H2.out]; rfl)⟩
     case measure => simp [intOf]; omega
    case false =>
     have H2 := hid h2
     clear h2
     cases h3 : (c == 43)
     case true =>
      have e3 : ((c.toNat : Int) != 43) = false := jR h3
      have H3 := hid h3
      clear h3
      go_wp2_with (first | (go_at_call 165; refine (bI _ _ H1.out).mono ?_; rintro e w1 ⟨rfl, rfl⟩) | (go_at_call 166; refine (bH _ _ H2.out).mono ?_; rintro e w1 ⟨rfl, rfl⟩))
      go_round
      case rel => exact ⟨k + 1, by omega, by go_num, eP s _ k hlt HA.out (by rw [HC.out, HN.out, H1.out, H2.out, H3.out]; rfl)⟩
      case measure => simp [intOf]; omega
     case false =>
      have e3 : ((c.toNat : Int) != 43) = true := jR h3
      have H3 := hid h3
      clear h3
      cases h4 : (c == 45)
      case true =>
       have e4 : ((c.toNat : Int) != 45) = false := jR h4
       have H4 := hid h4
       clear h4
       go_wp2_with (first | (go_at_call 165; refine (bI _ _ H1.out).mono ?_; rintro e w1 ⟨rfl, rfl⟩) | (go_at_call 166; refine (bH _ _ H2.out).mono ?_; rintro e w1 ⟨rfl, rfl⟩))
       go_round
       case rel => exact ⟨k + 1, by omega, by go_num, eP s _ k hlt HA.out (by rw [HC.out, HN.out, H1.out, H2.out, H3.out, H4.out]; rfl)⟩
       case measure => simp [intOf]; omega
      case false =>
       have e4 : ((c.toNat : Int) != 45) = true := jR h4
       have H4 := hid h4
       clear h4
       go_wp2_with (first | (go_at_call 165; refine (bI _ _ H1.out).mono ?_; rintro e w1 ⟨rfl, rfl⟩) | (go_at_call 166; refine (bH _ _ H2.out).mono ?_; rintro e w1 ⟨rfl, rfl⟩))
       go_ret
       exact ⟨az (by rw [HG.out, rU s _ k hlt (by rw [HC.out, HN.out, H1.out, H2.out, H3.out, H4.out]; rfl)]), rfl⟩
  ·go_wp2
   go_ret
   exact ⟨az (by rw [HG.out, nJ s _ k (by omega) HA.out]), rfl⟩
theorem Nr (s : ByteArray) (w : World) (hs : s.size ≤ maxLen) {b : Bool} (h : Sx.aU s.data.toList = b) :
  Calls Tryz.prog 138 #[.string s] w fun e w' => e = .returned (.bool b) ∧ w' = w := by subst h; exact JU s w hs
end
section
open Go.RowKit

theorem qE (w : World) : Calls Tryz.prog 23 #[] w fun e w' => e = .returned (.int .i64 (-62135596800)) ∧ Below w.heap.size w w' := by
 go_enter Tryz.func23, Tryz.ntmps23
 go_wp2_with fail
 refine (mY _).mono ?_
 rintro e w1 ⟨rfl, hb⟩
 go_wp2
 go_ret
 exact ⟨rfl, hb⟩
theorem Ga (w : World) : Calls Tryz.prog 24 #[] w fun e w' => e = .returned (.int .i64 253402300799) ∧ Below w.heap.size w w' := by
 go_enter Tryz.func24, Tryz.ntmps24
 go_wp2_with fail
 refine (pO _).mono ?_
 rintro e w1 ⟨rfl, hb⟩
 go_wp2
 go_ret
 exact ⟨rfl, hb⟩
theorem pz (l : Tb.Lc) (w : World) (hl : l.name.length ≤ maxLen) :
  Calls Tryz.prog 76 #[lcV l] w fun e w' => e = .returned (.int .i64 (Tb.aI l)) ∧ Below w.heap.size w w' := by
 obtain ⟨shift, save, name⟩ := l
 obtain ⟨E, hE⟩ : ∃ E, Tb.aI ⟨shift, save, name⟩ = E := ⟨_, rfl⟩
 rw [hE]
 have HE : Hid (E = if (Sx.inB shift (-75600) 75600 && Sx.inB save 0 10800) = false then 3 else if (!name.isEmpty && decide (name.length ≤ 24) && Sx.aU name) = false then 1 else 0) := by show _ = _; rw [← hE]; rfl
 have hb : Below w.heap.size w (w.alloc (.cells #[.int .i64 shift, .int .i64 save, af name] 31)) := (q4B _ _).alloc (Nat.le_refl _) _
 have HB := hid hb
 clear hE hb
 have hn : (⟨name.toArray⟩ : ByteArray).size ≤ maxLen := by simpa [ByteArray.size] using hl
 have HN := hid hn
 clear hn hl
 have G1 : ∀ b, decide ((-75600 : Int) ≤ shift ∧ shift ≤ 75600) = b → Sx.inB shift (-75600) 75600 = b := fun b h => h
 have G2 : ∀ b, decide ((0 : Int) ≤ save ∧ save ≤ 10800) = b → Sx.inB save 0 10800 = b := fun b h => h
 have HG1 := hid G1
 have HG2 := hid G2
 clear G1 G2
 by_cases h1 : (-75600 : Int) ≤ shift ∧ shift ≤ 75600
 case neg =>
  go_enter Tryz.func76, Tryz.ntmps76
  go_wp2_with (go_at_call 77; refine (fE _ _ _ _).mono ?_; rintro e w1 ⟨rfl, rfl⟩; simp only [h1])
  go_ret
  exact ⟨ai (by rw [HE.out, HG1.out false (by simp [h1])]; rfl), HB.out⟩
 by_cases h2 : (0 : Int) ≤ save ∧ save ≤ 10800
 case neg =>
  go_enter Tryz.func76, Tryz.ntmps76
  go_wp2_with (go_at_call 77; refine (fE _ _ _ _).mono ?_; rintro e w1 ⟨rfl, rfl⟩; simp only [h1, h2])
  go_ret
  exact ⟨ai (by rw [HE.out, HG1.out true (by simp [h1]), HG2.out false (by simp [h2])]; rfl), HB.out⟩
 have HE2 : Hid (E = if (!name.isEmpty && decide (name.length ≤ 24) && Sx.aU name) = false then 1 else 0) := by show _ = _; rw [HE.out, HG1.out true (by simp [h1]), HG2.out true (by simp [h2])]; rfl
 clear HE HG1 HG2
 cases h3 : name.isEmpty
 case true =>
  have H3 : Hid (E = 1) := by show _ = _; rw [HE2.out, h3]; rfl
  go_enter Tryz.func76, Tryz.ntmps76
  go_wp2_with (go_at_call 77; refine (fE _ _ _ _).mono ?_; rintro e w1 ⟨rfl, rfl⟩; simp only [h1, h2])
  go_ret
  exact ⟨ai (by rw [H3.out]), HB.out⟩
 case false =>
  by_cases h4 : 24 < name.length
  ·have H3 : Hid (E = 1) := by show _ = _; rw [HE2.out, h3]; simp; omega
   have h4' : 24 < (⟨name.toArray⟩ : ByteArray).size := by simpa [ByteArray.size] using h4
   go_enter Tryz.func76, Tryz.ntmps76
   go_wp2_with (go_at_call 77; refine (fE _ _ _ _).mono ?_; rintro e w1 ⟨rfl, rfl⟩; simp only [h1, h2])
   go_ret
   exact ⟨ai (by rw [H3.out]), HB.out⟩
  ·have h4' : ¬ 24 < (⟨name.toArray⟩ : ByteArray).size := by simpa [ByteArray.size] using h4
   have HE3 : Hid (E = if Sx.aU name = false then 1 else 0) := by show _ = _; rw [HE2.out, h3]; simp [show name.length ≤ 24 by omega]
   clear HE2
   obtain ⟨b, h5⟩ : ∃ b, Sx.aU name = b := ⟨_, rfl⟩
   have H5 : Hid (Sx.aU (⟨name.toArray⟩ : ByteArray).data.toList = b) := by show _ = _; rw [← h5]
   have HE4 : Hid (E = if b = false then 1 else 0) := by show _ = _; rw [HE3.out, h5]
   clear h5 HE3
   go_enter Tryz.func76, Tryz.ntmps76
   cases b
   all_goals
    go_wp2_with (first | (go_at_call 77; refine (fE _ _ _ _).mono ?_; rintro e w1 ⟨rfl, rfl⟩; simp only [h1, h2]) | (go_at_call 138; refine (Nr _ _ HN.out H5.out).mono ?_; rintro e w1 ⟨rfl, rfl⟩))
    go_ret
    exact ⟨ai (by rw [HE4.out]; rfl), HB.out⟩
end

section
open Go.RowKit

def aW (l : Tx.Bs) : Bool := !l.isEmpty && decide (l.length ≤ 24) && Sx.aU l
theorem mI (l : Tx.Bs) (w : World) (hs : l.length ≤ maxLen) {b : Bool} (h : aW l = b) :
  Calls Tryz.prog 134 #[af l] w fun e w' => e = .returned (.bool b) ∧ w' = w := by
 have hn : (⟨l.toArray⟩ : ByteArray).size ≤ maxLen := by simpa [ByteArray.size] using hs
 have HS : Hid (∀ r, (decide (l.length ≤ 24) && Sx.aU l) = r → Calls Tryz.prog 178 #[af l] w fun e w' => e = .returned (.bool r) ∧ w' = w) := fun r hr => Co ⟨l.toArray⟩ w hn (by simpa [ByteArray.size] using hr)
 clear hn hs
 cases h1 : l.isEmpty
 case true =>
  have HB : Hid (b = false) := by show _ = _; rw [← h, aW, h1]; rfl
  clear h
  go_enter Tryz.func134, Tryz.ntmps134
  go_wp2_with fail
  go_ret
  exact ⟨az (by rw [HB.out]), rfl⟩
 case false =>
  have HB : Hid ((decide (l.length ≤ 24) && Sx.aU l) = b) := by show _ = _; rw [← h, aW, h1]; simp
  clear h
  have HC := hid (HS.out b HB.out)
  clear HS HB
  go_enter Tryz.func134, Tryz.ntmps134
  go_wp2_with (go_at_call 178; refine HC.out.mono ?_; rintro e w1 ⟨rfl, rfl⟩)
  go_ret
  exact ⟨az rfl, rfl⟩
theorem oZ (l : Tb.Lc) (w : World) (hl : l.name.length ≤ maxLen) :
  Calls Tryz.prog 73 #[lcV l] w fun e w' => e = .returned (.int .i64 (Tb.aI l)) ∧ Below w.heap.size w w' := by
 obtain ⟨shift, save, name⟩ := l
 obtain ⟨E, hE⟩ : ∃ E, Tb.aI ⟨shift, save, name⟩ = E := ⟨_, rfl⟩
 rw [hE]
 have HE : Hid (E = if (Sx.inB shift (-75600) 75600 && Sx.inB save 0 10800) = false then 3 else if aW name = false then 1 else 0) := by show _ = _; rw [← hE]; rfl
 have hb : Below w.heap.size w (w.alloc (.cells #[.int .i64 shift, .int .i64 save, af name] 31)) := (q4B _ _).alloc (Nat.le_refl _) _
 have HB := hid hb
 have HL := hid hl
 clear hE hb hl
 have h5 : shift < -75600 ∨ (-75600 ≤ shift ∧ 75600 < shift) ∨ (-75600 ≤ shift ∧ shift ≤ 75600 ∧ save < 0) ∨ (-75600 ≤ shift ∧ shift ≤ 75600 ∧ 0 ≤ save ∧ 10800 < save) ∨ (-75600 ≤ shift ∧ shift ≤ 75600 ∧ 0 ≤ save ∧ save ≤ 10800) := by omega
 have HX : Hid ((¬ ((-75600 : Int) ≤ shift ∧ shift ≤ 75600 ∧ 0 ≤ save ∧ save ≤ 10800)) → E = 3) := by
  intro q
  rw [HE.out, if_pos]
  by_cases q1 : (-75600 : Int) ≤ shift ∧ shift ≤ 75600
  ·have q2 : ¬ (0 ≤ save ∧ save ≤ 10800) := by omega
   simp [Sx.inB, q2]
  ·simp [Sx.inB, q1]
 rcases h5 with h1 | ⟨h1, h2⟩ | ⟨h1, h2, h3⟩ | ⟨h1, h2, h3, h4⟩ | ⟨h1, h2, h3, h4⟩
 case inr.inr.inr.inr =>
  obtain ⟨b, h5⟩ : ∃ b, aW name = b := ⟨_, rfl⟩
  have HY : Hid (E = if b = false then 1 else 0) := by show _ = _; rw [HE.out, if_neg (by simp [Sx.inB, h1, h2, h3, h4]), h5]
  have H5 := hid h5
  clear HE HX h5
  cases b
  all_goals
   go_enter Tryz.func73, Tryz.ntmps73
   go_wp2_with (go_at_call 134; refine (mI _ _ HL.out H5.out).mono ?_; rintro e w1 ⟨rfl, rfl⟩)
   go_ret
   exact ⟨ai (by rw [HY.out]; rfl), HB.out⟩
 all_goals
  have H3 : Hid (E = 3) := HX.out (by omega)
  clear HE HX
  go_enter Tryz.func73, Tryz.ntmps73
  go_wp2_with fail
  go_ret
  exact ⟨ai (by rw [H3.out]), HB.out⟩
theorem kH (n : Int) (w : World) {b : Bool} (h : Tb.mq n = b) :
  Calls Tryz.prog 47 #[.int .i64 n] w fun e w' => e = .returned (.bool b) ∧ w' = w := by
 have H : Hid (b = decide ((-62135596800 : Int) ≤ n ∧ n ≤ 253402300799)) := h.symm
 clear h
 have h5 : n < -62135596800 ∨ (-62135596800 ≤ n ∧ n ≤ 253402300799) ∨ (-62135596800 ≤ n ∧ 253402300799 < n) := by omega
 rcases h5 with h1 | ⟨h1, h2⟩ | ⟨h1, h2⟩
 all_goals
  go_enter Tryz.func47, Tryz.ntmps47
  go_wp2
  go_ret
  exact ⟨az (by rw [H.out, Bool.eq_iff_iff]; simp only [Bool.or_eq_true, Bool.and_eq_true, decide_eq_true_eq, Bool.false_eq_true, iff_false, false_iff, iff_true, true_iff]; omega), rfl⟩
end
section
open Go.RowKit Go.Shelf
attribute [local go_sem] Oper.semAt_some
attribute [local go_sem ↓] Go.wp_at_zero Go.wp_at_succ

/- the era at a time, and what stands there -/
def fM (z : Sx.Zn) (at_ : Int) : Sx.Er := (z.eras.find? fun x => x.opn || decide (at_ < dM x)).getD zeroE
def aI (rs : List Sx.Rl) (z : Sx.Zn) (at_ : Int) : Tb.Lc := ⟨(fM z at_).shift + (iR rs (fM z at_) at_).save, (iR rs (fM z at_) at_).save, jQ (fM z at_).format (iR rs (fM z at_) at_).save (iR rs (fM z at_) at_).letter⟩
def atE (F at_ : Int) : Int := if F ≠ 0 then F else if Tb.mq at_ = true then 0 else 3
def atL (F at_ : Int) (rs : List Sx.Rl) (z : Sx.Zn) : Tb.Lc := if atE F at_ = 0 then aI rs z at_ else lc0
end
namespace Sx
theorem rM {sh : Int} : ∀ {l : List Tn} {s : Int} {x : Tm}, x ∈ bV sh s l → ∃ t ∈ l, x.letter = t.letter ∧ x.save = t.save
 | [], _, _, h => by cases h
 | t :: r, s, x, h => by
   rcases List.mem_cons.1 h with rfl | h
   ·exact ⟨t, by simp, rfl, rfl⟩
   ·obtain ⟨u, hu, q⟩ := rM h
    exact ⟨u, List.mem_cons_of_mem _ hu, q⟩
theorem Ew {rs : List Rl} {nm : Tx.Bs} {t : Tn} (h : t ∈ turnsOf rs nm) : ∃ r ∈ rs, t.letter = r.letter ∧ t.save = r.save := by
 unfold turnsOf at h
 obtain ⟨r, hr, q⟩ := List.mem_flatMap.1 h
 obtain ⟨k, _, rfl⟩ := List.mem_map.1 q
 exact ⟨r, (List.mem_filter.1 hr).1, rfl, rfl⟩
theorem oJ (rs : List Rl) (nm : Tx.Bs) (sh : Int) : (times rs nm sh).length ≤ 1000 := by
 unfold times
 split
 ·rename_i h
  rw [ky, (jW _).length_eq]
  by_cases q : 1000 < (turnsOf rs nm).length
  ·exfalso
   unfold aY at h
   rw [if_pos q] at h
   split at h
   ·rename_i h2; exact h2 h
   ·split at h
    ·omega
    ·split at h
     ·omega
     ·split at h <;> omega
  ·omega
 ·simp
theorem Ad {rs : List Rl} {nm : Tx.Bs} {sh : Int} {x : Tm} (h : x ∈ times rs nm sh) : ∃ r ∈ rs, x.letter = r.letter ∧ x.save = r.save := by
 unfold times at h
 split at h
 ·obtain ⟨t, ht, e1, e2⟩ := rM h
  obtain ⟨r, hr, e3, e4⟩ := Ew ((jW _).mem_iff.1 ht)
  exact ⟨r, hr, e1.trans e3, e2.trans e4⟩
 ·cases h
end Sx
section
open Go.RowKit Go.Shelf
theorem ll {c : Nat → Int} (h : iO c = 0) : ∀ i < 5, c i = 0 := by
 unfold iO at h
 split at h
 ·rename_i q; exact absurd h q
 rename_i q0
 split at h
 ·rename_i q; exact absurd h q
 rename_i q1
 split at h
 ·rename_i q; exact absurd h q
 rename_i q2
 split at h
 ·rename_i q; exact absurd h q
 rename_i q3
 simp at q0 q1 q2 q3
 intro i hi
 rcases (show i = 0 ∨ i = 1 ∨ i = 2 ∨ i = 3 ∨ i = 4 by omega) with rfl | rfl | rfl | rfl | rfl <;> assumption
def gY (s : Sx.Sr) (xs : List ZV) (nm : Tx.Bs) : Int := lL (jL s xs) xs s.links nm
def dJ (s : Sx.Sr) (xs : List ZV) (nm : Tx.Bs) : Sx.Zn := pJ (jL s xs) xs s.links nm
theorem qR {s : Sx.Sr} {xs : List ZV} {nm : Tx.Bs} (h : gY s xs nm = 0) : jL s xs = 0 ∧ gZ xs (eY s.links nm) = true := by
 unfold gY lL at h
 split at h
 ·rename_i q; exact absurd h q
 ·rename_i q
  simp at q
  split at h
  ·rename_i q2; exact ⟨q, q2⟩
  ·cases h
theorem Dg (s : Sx.Sr) (xs : List ZV) (ra za la : Option Addr) (rcap zcap lcap : Nat) (m : Int) (nm : Tx.Bs) (w : World) (h : gG s xs ra za la rcap zcap lcap m w) :
  FindAt (.agg #[.slice ra s.rules.length rcap, .slice za xs.length zcap, .slice la s.links.length lcap]) nm (gY s xs nm) (dJ s xs nm) w := by
 intro W hW
 have g := aM h hW
 refine Pf (jL s xs) nm s.zones s.links xs ra za la s.rules.length rcap zcap lcap W g.zv g.links ?_ (fun W' hW' => KG s xs ra za la rcap zcap lcap m W' (aM g hW'))
 intro hE
 have ok := Sx.ow (ll hE 0 (by omega))
 obtain ⟨f1, f2, f3, f4⟩ := nk ok.many
 have hl := lY h.zv
 exact ⟨by omega, by omega, fun p hp => by have := f4 p.z (qy h.zv hp); omega⟩
/- what a zone that is found is -/
theorem uX {s : Sx.Sr} {xs : List ZV} {v : Value} {w : World} {nm : Tx.Bs} (hz : kC w v s.zones xs) (h : gY s xs nm = 0) : Sx.EH s ∧ dJ s xs nm ∈ s.zones ∧ (dJ s xs nm).eras.length ≤ 8 ∧ ∀ e ∈ (dJ s xs nm).eras, Sx.EA e := by
 obtain ⟨h1, h2⟩ := qR h
 have ok := Sx.ow (ll h1 0 (by omega))
 obtain ⟨f1, f2, f3, f4⟩ := nk ok.many
 have e : dJ s xs nm = (lh xs (eY s.links nm)).z := by unfold dJ pJ; rw [show lL (jL s xs) xs s.links nm = 0 from h]; rfl
 have hm : dJ s xs nm ∈ s.zones := by rw [e]; exact qy hz (Ir h2)
 exact ⟨ok, hm, f4 _ hm, Sx.qU (ok.zone _ hm)⟩
theorem Ol (s : Sx.Sr) (xs : List ZV) (ra za la : Option Addr) (rcap zcap lcap : Nat) (m : Int) (nm : Tx.Bs) (w : World) (h : gG s xs ra za la rcap zcap lcap m w) :
  Calls Tryz.prog 17 #[.agg #[.slice ra s.rules.length rcap, .slice za xs.length zcap, .slice la s.links.length lcap], af nm] w fun e w' => ∃ v, e = .returned (.tuple #[v, .int .i64 (gY s xs nm)]) ∧ bK w' w.heap.size v (if gY s xs nm = 0 then aT (dJ s xs nm).eras else []) ∧ Below w.heap.size w w' := by
 refine OU nm (dJ s xs nm) (gY s xs nm) ra za la _ _ _ rcap zcap lcap w (Dg s xs ra za la rcap zcap lcap m nm w h) ?_
 intro hF
 obtain ⟨_, _, h3, h4⟩ := uX h.zv hF
 exact ⟨by omega, fun e he => (h4 e he).till⟩
theorem OV (z : Sx.Zn) (at_ : Int) : fM z at_ = zeroE ∨ fM z at_ ∈ z.eras := by
 unfold fM
 cases hf : z.eras.find? (fun x => x.opn || decide (at_ < dM x)) with
 | none => exact .inl rfl
 | some y => exact .inr (List.mem_of_find?_eq_some hf)
end
section
open Go.RowKit Go.Shelf
theorem LM {w : World} {B : Nat} {v : Value} {zs : List Sx.Zn} (h : EF w B v zs) : rq w v zs := by
 obtain ⟨ps, hz⟩ := h
 intro i x b o cap hx hv ev hev
 subst hv
 have hrd : Rd 2 di w (.slice (some ⟨b, o, none⟩) zs.length cap) ps := jD (fun _ => rfl) hz.row
 obtain ⟨p, hp⟩ : ∃ p, ps[i]? = some p := ⟨_, q4G (by rw [hz.len]; exact (q4L.1 hx).1)⟩
 obtain ⟨a', cap', e1, h2⟩ := hrd
 obtain ⟨b', o', e2, _, hc⟩ := h2 (by rintro rfl; simp at hp)
 simp only [Value.slice.injEq] at e1
 obtain ⟨rfl, _, _⟩ := e1
 simp only [Option.some.injEq, Addr.mk.injEq] at e2
 obtain ⟨rfl, rfl, _⟩ := e2
 have q := hc i p hp 1 p.2 rfl
 rw [hev] at q
 simp only [Option.some.injEq] at q
 subst q
 have ho := (hz.eras i p x hp hx).2
 obtain ⟨a, c, e⟩ := aF ho
 rw [e] at ho
 exact ⟨a, c, e, wV ho⟩
theorem NT {w : World} {B : Nat} {r z l : Value} {s : Sx.Sr} {m : Int} (h : gN w B r z l s) (hs : rT s) (hm : w.cell? ⟨0, 0, none⟩ = some (.int .i64 m)) (h0 : 0 < w.heap.size) :
  ∃ ra za la rcap zcap lcap xs, r = .slice ra s.rules.length rcap ∧ z = .slice za xs.length zcap ∧ l = .slice la s.links.length lcap ∧ xs.map ZV.z = s.zones ∧ gG s xs ra za la rcap zcap lcap m w := by
 obtain ⟨h1, h2, h3⟩ := Ci h
 obtain ⟨ra, rcap, rfl⟩ := bQ h1
 obtain ⟨za, zcap, rfl⟩ := ja h2
 obtain ⟨la, lcap, rfl⟩ := bQ h3
 have hc := LM h.zones
 obtain ⟨xs, hx⟩ := Sa h2 hc
 have hl := lY hx
 rw [← hl] at h2 hc hx ⊢
 exact ⟨ra, za, la, rcap, zcap, lcap, xs, rfl, rfl, rfl, hx.fst, h1, h2, hc, hx, h3, hs, hm, h0⟩
theorem QL {xs : List ZV} (h : xs.map ZV.z = kL.zones) : ∃ a c, xs = [⟨⟨CU, [⟨600, [], 0, [76, 77, 84], false, 1880, 1, 1, 0, 2⟩, ⟨3600, euB, 0, [67, 69, 37, 115, 84], true, 0, 0, 0, 0, 0⟩]⟩, a, c⟩] := by
 match xs, h with
 | [⟨z, a, c⟩], h =>
   simp [kL] at h
   exact ⟨a, c, by rw [h]⟩
 | [], h => simp [kL] at h
 | _ :: _ :: _, h => simp [kL] at h
/- what the fixed text's zones answer -/
def Qj : Tx.Bs := [79, 108, 100]
theorem Ha : rT kL := by
 refine ⟨Kc, ?_, ?_⟩
 ·intro z hz
  simp [kL] at hz
  subst hz
  refine ⟨by simp [CU, maxLen], ?_⟩
  intro x hx
  simp at hx
  rcases hx with rfl | rfl <;> simp [euB, maxLen]
 ·intro l hl
  simp [kL] at hl
  subst hl
  simp [CU, maxLen]
def xq : Sx.Zn := ⟨CU, [⟨600, [], 0, [76, 77, 84], false, 1880, 1, 1, 0, 2⟩, ⟨3600, euB, 0, [67, 69, 37, 115, 84], true, 0, 0, 0, 0, 0⟩]⟩
theorem at0 : atL 0 1585443600 kL.rules xq = ⟨7200, 3600, [67, 69, 83, 84]⟩ := by kernel_rfl
theorem Sn {xs : List ZV} (h : xs.map ZV.z = kL.zones) : ∃ a c, xs = [⟨xq, a, c⟩] := QL h
/- what zone's functions answer of the parsed text -/
structure Made (w : World) (r z l : Value) : Prop where
 src : ∃ B, gN w B r z l kL
 max : ∃ m, w.cell? ⟨0, 0, none⟩ = some (.int .i64 m)
 pos : 0 < w.heap.size
theorem RH {w : World} {r z l : Value} (h : Made w r z l) : ∃ ra za la rcap zcap lcap a c m, r = .slice ra kL.rules.length rcap ∧ z = .slice za [(⟨xq, a, c⟩ : ZV)].length zcap ∧ l = .slice la kL.links.length lcap ∧ gG kL [⟨xq, a, c⟩] ra za la rcap zcap lcap m w := by
 obtain ⟨⟨B, hB⟩, ⟨m, hm⟩, h0⟩ := h
 obtain ⟨ra, za, la, rcap, zcap, lcap, xs, rfl, rfl, rfl, hx, hs⟩ := NT hB Ha hm h0
 obtain ⟨a, c, rfl⟩ := Sn hx
 exact ⟨ra, za, la, rcap, zcap, lcap, a, c, m, rfl, rfl, rfl, hs⟩
end
section
open Go.RowKit Go.Shelf

end
section
open Go.RowKit Go.Shelf
end
section
open Go.RowKit Go.Shelf
theorem xn {s : Sx.Sr} {xs : List ZV} (h : jL s xs = 0) {e : Sx.Er} (he : e ∈ aQ xs) (hr : e.rules ≠ []) : Sx.aY s.rules e.rules e.shift = 0 := by
 have c3 : fP s.rules (aQ xs) = 0 := ll h 3 (by omega)
 rcases yg c3 e he with q | q
 ·exact absurd q hr
 ·exact q
theorem Ap {s : Sx.Sr} {xs : List ZV} {nm : Tx.Bs} (h : gY s xs nm = 0) : dJ s xs nm = (lh xs (eY s.links nm)).z := by
 unfold dJ pJ
 rw [show lL (jL s xs) xs s.links nm = 0 from h]
 rfl
theorem LB {xs : List ZV} {n : Tx.Bs} (h : gZ xs n = true) : lh xs n ∈ xs ∧ (lh xs n).z.name = n := by
 unfold gZ at h
 obtain ⟨p, hp, e⟩ := List.any_eq_true.1 h
 unfold lh
 cases hf : xs.find? (fun p => p.z.name == n) with
 | none => rw [List.find?_eq_none] at hf; exact absurd e (hf p hp)
 | some y =>
   have h1 := List.mem_of_find?_eq_some hf
   have h2 := List.find?_some hf
   exact ⟨h1, by simpa using h2⟩
theorem OX {xs : List ZV} {n : Tx.Bs} (h : gZ xs n = true) {e : Sx.Er} (he : e ∈ (lh xs n).z.eras) : e ∈ aQ xs := List.mem_flatMap.2 ⟨_, (LB h).1, he⟩
end
section
open Go.RowKit Go.Shelf
/- all eras but the last have an end -/
def lD : List Sx.Er → Prop
 | [] => False
 | [a] => a.opn = true
 | a :: b :: r => a.opn = false ∧ lD (b :: r)
theorem Ql {x : Sx.Er} {b : Bool} (h : Sx.dS x b = 0) : x.opn = b := by
 unfold Sx.dS at h
 split at h
 ·cases h
 split at h
 ·cases h
 split at h
 ·cases h
 split at h
 ·cases h
 split at h
 ·cases h
 rename_i q
 simpa using q
theorem FL : ∀ {l : List Sx.Er}, l ≠ [] → Sx.iW l = 0 → lD l
 | [], h, _ => absurd rfl h
 | [a], _, h => Ql (b := true) h
 | a :: b :: r, _, h => by
   have h' : (if Sx.dS a false ≠ 0 then Sx.dS a false else Sx.iW (b :: r)) = 0 := h
   by_cases q : Sx.dS a false = 0
   ·rw [if_neg (by simp [q])] at h'
    exact ⟨Ql q, FL (by simp) h'⟩
   ·rw [if_pos q] at h'; exact absurd h' q
theorem nU {z : Sx.Zn} (h : Sx.dm z = 0) : lD z.eras := by
 unfold Sx.dm at h
 split at h
 ·cases h
 ·rename_i q
  refine FL (fun e => ?_) h
  rw [e] at q; simp at q
theorem pI : ∀ {l : List Sx.Er}, lD l → (aT l).length + 1 = l.length
 | [], h => h.elim
 | [a], h => by simp [lD] at h; simp [aT, h]
 | a :: b :: r, h => by
   have ih := pI h.2
   have e : aT (a :: b :: r) = dM a :: aT (b :: r) := by simp [aT, List.filter_cons, h.1]
   rw [e, List.length_cons, ih]; rfl
theorem Ff : ∀ {l : List Sx.Er}, lD l → ∀ {i : Nat} {n : Int}, (aT l)[i]? = some n → ∃ x, l[i]? = some x ∧ x.opn = false ∧ n = dM x
 | [], h, _, _, _ => h.elim
 | [a], h, i, n, q => by simp [lD] at h; simp [aT, h] at q
 | a :: b :: r, h, i, n, q => by
   have e : aT (a :: b :: r) = dM a :: aT (b :: r) := by simp [aT, List.filter_cons, h.1]
   rw [e] at q
   cases i with
   | zero => simp at q; exact ⟨a, rfl, h.1, q.symm⟩
   | succ i => obtain ⟨x, h1, h2⟩ := Ff h.2 (i := i) (by simpa using q); exact ⟨x, by simpa using h1, h2⟩
/- the era at a time: the first whose end is later -/
theorem Dp : ∀ {l : List Sx.Er}, lD l → ∀ {k : Nat} {x : Sx.Er} {at_ : Int}, l[k]? = some x → (∀ (j : Nat) (n : Int), j < k → (aT l)[j]? = some n → n ≤ at_) → (k = (aT l).length ∨ ∃ n, (aT l)[k]? = some n ∧ at_ < n) →
  l.find? (fun x => x.opn || decide (at_ < dM x)) = some x
 | [], h, _, _, _, _, _, _ => h.elim
 | [a], h, k, x, at_, hx, _, _ => by
   simp [lD] at h
   have : k = 0 := by
    have := (q4L.1 hx).1
    simp at this; exact this
   subst this
   simp at hx; subst hx
   simp [List.find?_cons, h]
 | a :: b :: r, h, k, x, at_, hx, hj, hk => by
   have e : aT (a :: b :: r) = dM a :: aT (b :: r) := by simp [aT, List.filter_cons, h.1]
   rw [e] at hj hk
   cases k with
   | zero =>
     simp at hx; subst hx
     have h1 : at_ < dM a := by
      rcases hk with hk | ⟨n, hn, q⟩
      ·simp at hk
      ·simp at hn; rw [hn]; exact q
     simp [List.find?_cons, h1]
   | succ k =>
     have h0 := hj 0 (dM a) (by omega) rfl
     have hf : (a.opn || decide (at_ < dM a)) = false := by simp [h.1]; omega
     rw [List.find?_cons, hf]
     refine Dp h.2 (by simpa using hx) (fun j n hlt hn => hj (j + 1) n (by omega) (by simpa using hn)) ?_
     rcases hk with hk | ⟨n, hn, q⟩
     ·left; simpa using hk
     ·right; exact ⟨n, by simpa using hn, q⟩
theorem Jl {p q : Sx.Tm → Bool} : ∀ {l : List Sx.Tm}, (∀ t ∈ l, p t = q t) → lastT p l = lastT q l := by
 intro l h
 unfold lastT
 have : ∀ (l : List Sx.Tm) (a : Sx.Tm), (∀ t ∈ l, p t = q t) → l.foldl (fun a x => if p x = true then x else a) a = l.foldl (fun a x => if q x = true then x else a) a := by
  intro l
  induction l with
  | nil => intro a _; rfl
  | cons t r ih =>
    intro a h
    rw [List.foldl_cons, List.foldl_cons, h t (by simp)]
    exact ih _ fun x hx => h x (List.mem_cons_of_mem _ hx)
 exact this l LA h
/- what the law asks, in its own order -/
theorem He {rs : List Sx.Rl} {z : Sx.Zn} {k : Nat} {x : Sx.Er} {at_ later : Int} (ho : lD z.eras) (hl : at_ ≤ later) (hx : z.eras[k]? = some x)
  (h1 : ∀ (j : Nat) (n : Int), j < k → (aT z.eras)[j]? = some n → n ≤ at_) (h2 : k = (aT z.eras).length ∨ ∃ n, (aT z.eras)[k]? = some n ∧ later < n) :
  fM z at_ = x ∧ fM z later = x := by
 unfold fM
 rw [Dp ho hx h1 (h2.imp id fun ⟨n, a, b⟩ => ⟨n, a, by omega⟩), Dp ho hx (fun j n a b => by have := h1 j n a b; omega) h2]
 exact ⟨rfl, rfl⟩
theorem Kh {rs : List Sx.Rl} {z : Sx.Zn} {x : Sx.Er} {at_ later : Int} (h1 : fM z at_ = x) (h2 : fM z later = x) (hr : x.rules = []) : aI rs z at_ = aI rs z later ∧ (aI rs z at_).save = x.save := by
 unfold aI iR
 rw [h1, h2, if_pos hr, if_pos hr]
 exact ⟨rfl, rfl⟩
theorem Hf {rs : List Sx.Rl} {z : Sx.Zn} {x : Sx.Er} {at_ later : Int} (hl : at_ ≤ later) (h1 : fM z at_ = x) (h2 : fM z later = x) (hr : ¬ x.rules = [])
  (ht : ∀ (i : Nat) (t : Sx.Tm), (Sx.times rs x.rules x.shift)[i]? = some t → ¬ (at_ < t.at_ ∧ t.at_ ≤ later)) : aI rs z at_ = aI rs z later := by
 have e : lastT (fun t => decide (t.at_ ≤ at_)) (Sx.times rs x.rules x.shift) = lastT (fun t => decide (t.at_ ≤ later)) (Sx.times rs x.rules x.shift) := by
  refine Jl fun t hm => ?_
  obtain ⟨i, hi⟩ := List.mem_iff_getElem?.1 hm
  have := ht i t hi
  exact decide_eq_decide.2 (by omega)
 unfold aI iR
 rw [h1, h2, if_neg hr, if_neg hr, e]
end
section
open Go.RowKit Go.Shelf
attribute [local go_sem] Oper.semAt_some
attribute [local go_sem ↓] Go.wp_at_zero Go.wp_at_succ

theorem JR (x : Sx.Er) (w : World) (h : lC x) : Calls Tryz.prog 60 #[iF x] w fun e w' => e = .returned (.int .i64 (dM x)) ∧ Below w.heap.size w w' := by
 obtain ⟨sh, rl, sv, fm, op, uy, um, ud, ua, uc⟩ := x
 obtain ⟨hv, a0, a1, s0, s1⟩ := h
 dsimp only at hv a0 a1 s0 s1
 have nb := Cv.jC hv
 obtain ⟨v1, v2, v3, v4, v5, v6⟩ := Cv.jg.1 hv
 obtain ⟨n, hn⟩ : ∃ n, Cv.num uy um ud = n := ⟨_, rfl⟩
 obtain ⟨R, hR⟩ : ∃ R, dM ⟨sh, rl, sv, fm, op, uy, um, ud, ua, uc⟩ = R := ⟨_, rfl⟩
 rw [hR]
 have HE : Hid (R = n * 86400 + ua - (if uc = 2 then sh else 0)) := by show _ = _; rw [← hn, ← hR]; rfl
 have DA : Hid (∀ W, Calls Tryz.prog 123 #[.agg #[.int .i64 uy, .int .i64 um, .int .i64 ud]] W fun e w' => e = .returned (.int .i64 n) ∧ Below W.heap.size W w') := fun W => by
  have := fC uy um ud W v1 (by omega) v3 v4 (by omega) (by have := Cv.jU uy um; omega)
  rw [hn] at this
  exact this
 rw [hn] at nb
 obtain ⟨N, hN⟩ : ∃ N, w.heap.size = N := ⟨_, rfl⟩
 obtain ⟨V, gV, X0, hb, sz⟩ := aR w (ay ⟨sh, rl, sv, fm, op, uy, um, ud, ua, uc⟩).toArray 67
 rw [hN] at X0
 have gV2 : w.alloc (.cells #[.int .i64 sh, af rl, .int .i64 sv, af fm, .bool op, .int .i64 uy, .int .i64 um, .int .i64 ud, .int .i64 ua, .int .i64 uc] 67) = V := gV
 have X : Hid (ag V N (ay ⟨sh, rl, sv, fm, op, uy, um, ud, ua, uc⟩)) := X0
 have B : Hid (Below N w V) := hN ▸ hb
 have w1 : IntKind.i64.wrap (n * 86400) = n * 86400 := IntWalk.i64_in _ (by omega)
 have w2 : IntKind.i64.wrap (n * 86400 + ua) = n * 86400 + ua := IntWalk.i64_in _ (by omega)
 have w3 : wrap64 (n * 86400 + ua - sh) = n * 86400 + ua - sh := by unfold wrap64; omega
 have w4 : IntKind.i64.wrap (n * 86400 + ua - sh) = n * 86400 + ua - sh := IntWalk.i64_in _ (by omega)
 obtain ⟨x5, _⟩ := aa X.out 5 rfl
 obtain ⟨x6, _⟩ := aa X.out 6 rfl
 obtain ⟨x7, _⟩ := aa X.out 7 rfl
 obtain ⟨x8, _⟩ := aa X.out 8 rfl
 have sx := X.out.1
 have SS := hid (show V.cell? ⟨N, 5, none⟩ = some (.int .i64 uy) ∧ V.cell? ⟨N, 6, none⟩ = some (.int .i64 um) ∧ V.cell? ⟨N, 7, none⟩ = some (.int .i64 ud) ∧ V.cell? ⟨N, 8, none⟩ = some (.int .i64 ua) from ⟨x5, x6, x7, x8⟩)
 have KS : Hid (∀ wz, Below V.heap.size V wz → (wz.cell? ⟨N, 5, none⟩ = some (.int .i64 uy) ∧ wz.cell? ⟨N, 6, none⟩ = some (.int .i64 um) ∧ wz.cell? ⟨N, 7, none⟩ = some (.int .i64 ud) ∧ wz.cell? ⟨N, 8, none⟩ = some (.int .i64 ua))) := fun wz hb => ⟨(hb.cell (p := ⟨N, 5, none⟩) sx).trans x5, (hb.cell (p := ⟨N, 6, none⟩) sx).trans x6, (hb.cell (p := ⟨N, 7, none⟩) sx).trans x7, (hb.cell (p := ⟨N, 8, none⟩) sx).trans x8⟩
 clear hv hn hR v1 v2 v3 v4 v5 v6 X0 hb gV
 go_enter Tryz.func60, Tryz.ntmps60
 simp only [hN]
 go_upto_region 1 with fail
 clear gV2
 refine wp_region_held_drew (S := fun w' => w'.cell? ⟨N, 5, none⟩ = some (.int .i64 uy) ∧ w'.cell? ⟨N, 6, none⟩ = some (.int .i64 um) ∧ w'.cell? ⟨N, 7, none⟩ = some (.int .i64 ud) ∧ w'.cell? ⟨N, 8, none⟩ = some (.int .i64 ua)) (by kernel_rfl) SS.out (fun hHeld => ?_)
 refine tkA 0 rfl ?_
 refine tkA 1 rfl ?_
 refine tkA 2 rfl ?_
 refine tkA 5 rfl ?_
 refine tkA 6 rfl ?_
 refine tkA 7 rfl ?_
 refine rdH 3 rfl fun K hK => ?_
 go_simp
 refine (DA.out _).mono ?_
 rintro e w7 ⟨rfl, hb7⟩
 have hb : Below V.heap.size V w7 := bq hb7
 have S7 := KS.out w7 hb
 refine hK.out _ _ ?_ (fun hHeld => ?_)
 ·exact S7
 clear hK K
 try simp only [Act.put, j]
 refine tkA 4 rfl ?_
 refine tkA 8 rfl ?_
 refine tkA 9 rfl ?_
 refine wpAnyH_done (by kernel_rfl) ?_ _
 have X7 := ah X.out hb
 have B7 : Hid (Below N w w7) := aL B.out (hN ▸ B.out.size) hb
 clear x5 x6 x7 x8 sx SS KS
 obtain ⟨y0, _⟩ := aa X7 0 rfl
 obtain ⟨y9, _⟩ := aa X7 9 rfl
 have sy := X7.1
 clear X7 hb
 by_cases hc : uc = 2
 ·have hc2 : (uc == 2) = true := by simp [hc]
  go_wp2
  go_ret
  exact ⟨ai (by rw [HE.out, if_pos hc]), B7.out⟩
 ·have hc2 : (uc == 2) = false := by simp [hc]
  go_wp2
  go_ret
  exact ⟨ai (by rw [HE.out, if_neg hc, Int.sub_zero]), B7.out⟩
theorem wY (nm : Tx.Bs) (es : List Sx.Er) (a : Option Addr) (c : Nat) (w : World) (h : fA w (.slice a es.length c) es) (ho : lD es) (hl : es.length ≤ 1000) (hok : ∀ e ∈ es, e.opn = true ∨ lC e) :
  Calls Tryz.prog 20 #[.agg #[af nm, .slice a es.length c]] w fun e w' => ∃ v, e = .returned v ∧ bK w' w.heap.size v (aT es) ∧ Below w.heap.size w w' := by
 obtain ⟨i0, hi, hz0, hz1, hz2⟩ := info_parts Tryz.Dx
 obtain ⟨N, hN⟩ : ∃ N, w.heap.size = N := ⟨_, rfl⟩
 obtain ⟨V, gV, X0, hb, sz⟩ := aR w #[af nm, .slice a es.length c] 44
 rw [hN] at X0
 have X : Hid (ag V N [af nm, .slice a es.length c]) := X0
 have B : Hid (Below N w V) := hN ▸ hb
 have H := hid h
 have hel := pI ho
 have HO := hid ho
 have HOK := hid hok
 obtain ⟨L, hL⟩ : ∃ L, aT es = L := ⟨_, rfl⟩
 have HL := hid hL
 rw [hL] at hel ⊢
 have zV : N + 1 ≤ V.heap.size := by omega
 have wl : wrap64 ((es.length : Int) - 1) = (L.length : Int) := by unfold wrap64; omega
 have wl2 : IntKind.i64.wrap ((es.length : Int) - 1) = (L.length : Int) := (IntWalk.i64_in _ (by omega)).trans (by omega)
 clear h ho hok hL X0 hb sz
 obtain ⟨x1, _⟩ := aa X.out 1 rfl
 have sx := X.out.1
 go_enter Tryz.func20, Tryz.ntmps20
 simp only [hN]
 go_wp2_with fail
 clear x1 sx
 go_loopw [3, 4] (fun ov kv wr => ∃ (k : Nat) (out : List Int), k ≤ L.length ∧ kv = .int .i64 k ∧ Hid (out.length = k) ∧ Hid (out = L.take k) ∧ Hid (bK wr (N + 1) ov out) ∧ Hid (ag wr N [af nm, .slice a es.length c]) ∧ Hid (Below N w wr) ∧ N + 1 ≤ wr.heap.size) (fun _ kv _ => L.length - (intOf kv).toNat)
 case atStart => exact ⟨0, [], Nat.zero_le _, rfl, rfl, rfl, World.ownsRow_nil _ _ _ _, X, B, zV⟩
 case round =>
  clear X B zV
  obtain ⟨k, out, hk, rfl, hol, HT, OW, X, B, zV⟩ := hrel
  obtain ⟨oa, ocap, rfl⟩ := aF OW.out
  have hol1 : out.length ≤ 1000 := by have := hol.out; omega
  obtain ⟨x1, _⟩ := aa X.out 1 rfl
  have sx := X.out.1
  by_cases hlt : k < L.length
  case neg =>
   have e : k = L.length := by omega
   subst e
   have e2 : out = L := by rw [HT.out, List.take_length]
   subst e2
   have q : ¬ (out.length : Int) < (out.length : Int) := by omega
   clear hlt HT
   go_wp2
   go_ret
   exact ⟨_, rfl, hN ▸ dC OW.out (by omega), hN ▸ B.out⟩
  obtain ⟨n, hn⟩ : ∃ n, L[k]? = some n := ⟨_, q4G hlt⟩
  obtain ⟨x, hx, hop, hxe⟩ := Ff HO.out (i := k) (n := n) (by rw [HL.out]; exact hn)
  have hXO : lC x := (HOK.out x (List.mem_of_getElem? hx)).resolve_left (by rw [hop]; simp)
  have HC : Hid (∀ W, Calls Tryz.prog 60 #[iF x] W fun e w' => e = .returned (.int .i64 n) ∧ Below W.heap.size W w') := fun W => by rw [hxe]; exact JR x W hXO
  obtain ⟨eb, eo, e1, heb, hc⟩ := aN (au H.out (hN ▸ B.out)) hx
  subst e1
  obtain ⟨c0, c1, c2, c3, c4, c5, c6, c7, c8, c9⟩ := sI hc
  have hkx : (k : Int) < (es.length : Int) := by omega
  have q : (k : Int) < (L.length : Int) := by omega
  have HT2 : Hid (out ++ [n] = L.take (k + 1)) := by show _ = _; rw [List.take_add_one, hn, HT.out]; rfl
  clear hc hx hn hxe hXO hop
  go_wp2_with fail
  refine (HC.out _).mono ?_
  rintro e w1 ⟨rfl, hb⟩
  have X1 := hid (ah X.out hb)
  have B1 : Hid (Below N w w1) := aL B.out (by omega) hb
  have O1 := hid (aJ OW.out hb)
  have z1 : N + 1 ≤ w1.heap.size := Nat.le_trans zV hb.size
  clear X B OW zV hb x1 sx c0 c1 c2 c3 c4 c5 c6 c7 c8 c9 heb HC
  go_wp2_with (at_builtin; refine wpList_append_own _ rfl _ _ 47 rfl (N + 1) 3 i0 (.int .i64 0) 1 8 Tryz.underlying47 hi hz0 hz1 hz2 rfl (by decide) _ _ _ rfl (World.ownsRow.alloc O1.out _) _ 1 1 [.int .i64 n] rfl rfl (one_cell _ _) (by intro u hu; simp at hu; subst hu; rfl) (by unfold maxLen; omega) (by omega) (by simp; omega) ?_)
  intro v' w4 hown' hgrow _
  have B4 : Hid (Below N w w4) := Below.grown (B1.out.alloc (by omega) _) hgrow (by simp; omega) (fun k hk => by have := (O1.out.lt k hk).1; omega)
  have X4 := hid (ca_grownO (aH X1.out _) hgrow (fun k hk => by have := (O1.out.lt k hk).1; omega))
  have O4 : Hid (bK w4 (N + 1) v' (out ++ [n])) := by show World.ownsRow _ _ _ _ _ _ _; simpa using hown'
  have z4 : N + 1 ≤ w4.heap.size := by have := hgrow.size; simp at this; omega
  clear hown' hgrow B1 O1 X1 z1
  go_wp2
  go_roundw
  case rel => exact ⟨k + 1, out ++ [n], by omega, by go_num, by show _ = _; rw [List.length_append, hol.out]; rfl, HT2, O4, X4, B4, z4⟩
  case measure => simp [intOf]; omega
end
section
open Go.RowKit Go.Shelf
attribute [local go_sem] Oper.semAt_some
attribute [local go_sem ↓] Go.wp_at_zero Go.wp_at_succ

def lF (w : World) (B : Nat) (v : Value) (l : List Tx.Bs) : Prop := w.ownsRow B 9 1 v l.length (l.map af)
theorem zR : ∀ {l : List Int}, bX l = true → ∀ {k : Nat} {a b : Int}, l[k]? = some a → l[k + 1]? = some b → a < b
 | [], _, _, _, _, h, _ => by simp at h
 | [x], _, k, a, b, _, h => by simp at h
 | x :: y :: r, hr, k, a, b, h1, h2 => by
   simp [bX] at hr
   cases k with
   | zero => simp at h1 h2; omega
   | succ k => exact zR hr.2 (by simpa using h1) (by simpa using h2)
theorem Cr : ∀ {l : List Int}, (∀ (j : Nat) (a b : Int), l[j]? = some a → l[j + 1]? = some b → a < b) → bX l = true
 | [], _ => rfl
 | [x], _ => rfl
 | x :: y :: r, h => by
   show (decide (x < y) && bX (y :: r)) = true
   rw [decide_eq_true (h 0 x y rfl rfl), Cr (fun j a b h1 h2 => h (j + 1) a b (by simpa using h1) (by simpa using h2))]; rfl
theorem yh (xs : List ZV) (l : Sx.Lk) : iD xs l = !gZ xs l.to := by
 unfold iD gZ
 first | rfl | simp
theorem wW {w : World} {B : Nat} {v : Value} {l : List Tx.Bs} (h : lF w B v l) : Rd 1 (fun x => [af x]) w v l := by
 have e : ∀ l : List Tx.Bs, (l.flatMap fun x => [af x]) = l.map af := by intro l; induction l <;> simp_all
 exact jD (B := B) (e := 9) (cells := fun x => [af x]) (fun _ => rfl) (by rw [e]; exact h)
theorem lg {s : Sx.Sr} {xs : List ZV} {ra za la : Option Addr} {rcap zcap lcap : Nat} {m : Int} {w W : World} {N : Nat} (h : gG s xs ra za la rcap zcap lcap m w) (hb : Below N w W) (hN : w.heap.size = N) : gG s xs ra za la rcap zcap lcap m W := aM h (hN ▸ hb)
theorem yx (s : Sx.Sr) (xs : List ZV) (ra za la : Option Addr) (rcap zcap lcap : Nat) (m : Int) (w : World) (h : gG s xs ra za la rcap zcap lcap m w) :
  Calls Tryz.prog 18 #[.agg #[.slice ra s.rules.length rcap, .slice za xs.length zcap, .slice la s.links.length lcap]] w fun e w' => e = .returned (.int .i64 (jL s xs)) ∧ Below w.heap.size w w' := by
 obtain ⟨i0, hi, hz0, hz1, hz2⟩ := info_parts Tryz.Dy
 obtain ⟨N, hN⟩ : ∃ N, w.heap.size = N := ⟨_, rfl⟩
 obtain ⟨V, gV, X0, hb, sz⟩ := aR w #[.slice ra s.rules.length rcap, .slice za xs.length zcap, .slice la s.links.length lcap] 26
 rw [hN] at X0
 have X : Hid (ag V N [.slice ra s.rules.length rcap, .slice za xs.length zcap, .slice la s.links.length lcap]) := X0
 have B : Hid (Below N w V) := hN ▸ hb
 have G := hid (aM h hb)
 have G0 := hid h
 have zV : N + 1 ≤ V.heap.size := by omega
 obtain ⟨E, hE⟩ : ∃ E, jL s xs = E := ⟨_, rfl⟩
 rw [hE]
 have HE : Hid (iO (jK s xs) = E) := hE
 have HLX : Hid (xs.length = s.zones.length) := lY h.zv
 have CS : Hid (∀ W, Below V.heap.size V W → Calls Tryz.prog 57 #[.agg #[.slice ra s.rules.length rcap, .slice za xs.length zcap, .slice la s.links.length lcap]] W fun e w' => e = .returned (.int .i64 (Sx.eB s)) ∧ Below W.heap.size W w') := fun W hW => oU s _ _ _ W ⟨(aM G.out hW).rules, (aM G.out hW).zones, (aM G.out hW).links⟩ h.size
 clear h X0 hb sz hE
 obtain ⟨⟨s0, _⟩, ⟨s1, _⟩, ⟨s2, _⟩, sx⟩ := cp3 X.out
 go_enter Tryz.func18, Tryz.ntmps18
 simp only [hN]
 go_wp2_with fail
 refine (CS.out V (q4B _ _)).mono ?_
 rintro e w1 ⟨rfl, hb⟩
 replace X := hid (ah X.out hb)
 replace B := hid (aL B.out (by omega) hb)
 replace G := hid (aM G.out hb)
 replace zV := Nat.le_trans zV hb.size
 obtain ⟨S0, hS0⟩ : ∃ S, Sx.eB s = S := ⟨_, rfl⟩
 rw [hS0]
 have HS0 := hid hS0
 clear hb s0 s1 s2 sx CS hS0 gV
 by_cases e0 : S0 = 0
 case neg =>
  have hR : E = S0 := by rw [← HE.out]; unfold iO; rw [if_pos (by show Sx.eB s ≠ 0; rw [HS0.out]; exact e0)]; exact HS0.out
  have p1 : (S0 != 0) = true := by simp [e0]
  clear HE
  go_wp2
  go_ret
  exact ⟨ai (by rw [hR]), B.out⟩
 subst e0
 obtain ⟨f1, f2, f3, f4⟩ := nk (Sx.ow HS0.out).many
 have hxs : xs.length ≤ 20 := by have := HLX.out; omega
 have hel : ∀ p ∈ xs, p.z.eras.length ≤ 8 := fun p hp => f4 p.z (qy G.out.zv hp)
 have HEL := hid hel
 clear hel f2 f4
 obtain ⟨NM, hNM⟩ : ∃ l, dL s.zones s.links = l := ⟨_, rfl⟩
 have HNM := hid hNM
 clear hNM
 go_wp2_with fail
 go_loopw [4, 5] (fun ov kv wr => ∃ (k : Nat) (out : List Tx.Bs), k ≤ xs.length ∧ kv = .int .i64 k ∧ Hid (out.length = k) ∧ Hid (out = (s.zones.map Sx.Zn.name).take k) ∧ Hid (lF wr (N + 1) ov out) ∧ Hid (ag wr N [.slice ra s.rules.length rcap, .slice za xs.length zcap, .slice la s.links.length lcap]) ∧ Hid (gG s xs ra za la rcap zcap lcap m wr) ∧ Hid (Below N w wr) ∧ N + 1 ≤ wr.heap.size) (fun _ kv _ => xs.length - (intOf kv).toNat)
 case atStart => exact ⟨0, [], Nat.zero_le _, rfl, rfl, rfl, World.ownsRow_nil _ _ _ _, X, G, B, zV⟩
 case round =>
  clear X B zV G
  obtain ⟨k, out, hk, rfl, hol, HT, OW, X, G, B, zV⟩ := hrel
  obtain ⟨oa, ocap, rfl⟩ := aF OW.out
  obtain ⟨⟨s0, _⟩, ⟨s1, _⟩, ⟨s2, _⟩, sx⟩ := cp3 X.out
  by_cases hlt : k < xs.length
  case pos =>
   obtain ⟨p, hp⟩ : ∃ x, xs[k]? = some x := ⟨_, q4G hlt⟩
   obtain ⟨zb, zo, e1, hzb, hc⟩ := aN G.out.zv.rd hp
   subst e1
   have c0 : wr.cell? ⟨zb, zo + k * 2, none⟩ = some (af p.z.name) := by have := hc 0 _ rfl; simpa using this
   have HT2 : Hid (out ++ [p.z.name] = (s.zones.map Sx.Zn.name).take (k + 1)) := by
    show _ = _
    have hz : (s.zones.map Sx.Zn.name)[k]? = some p.z.name := by rw [← G.out.zv.fst, List.map_map, List.getElem?_map, hp]; rfl
    rw [List.take_add_one, hz, HT.out]; rfl
   have q : (k : Int) < (xs.length : Int) := by omega
   clear hc hp
   go_wp2_with (at_builtin; refine wpList_append_own _ rfl _ _ 107 rfl (N + 1) 9 i0 (.string ⟨#[]⟩) 1 16 Tryz.underlying107 hi hz0 hz1 hz2 rfl (by decide) _ _ _ rfl (World.ownsRow.alloc OW.out _) _ 1 1 [af p.z.name] rfl rfl (one_cell _ _) (by intro u hu; simp at hu; subst hu; rfl) (by have := hol.out; unfold maxLen; omega) (by have := hol.out; omega) (by simp; omega) ?_)
   intro v' w4 hown' hgrow _
   have hne : ∀ k, (Value.slice oa out.length ocap).ownBlock = some k → k ≠ N := fun k hk => by have := (OW.out.lt k hk).1; omega
   have B4 : Hid (Below N w w4) := Below.grown (B.out.alloc (by omega) _) hgrow (by simp; omega) (fun k hk => by have := (OW.out.lt k hk).1; omega)
   have X4 := hid (ca_grownO (aH X.out _) hgrow hne)
   have G4 := hid (lg G0.out B4.out hN)
   have O4 : Hid (lF w4 (N + 1) v' (out ++ [p.z.name])) := by show World.ownsRow _ _ _ _ _ _ _; simpa using hown'
   have z4 : N + 1 ≤ w4.heap.size := by have := hgrow.size; simp at this; omega
   clear hown' hgrow hne B OW X zV G
   go_wp2
   go_roundw
   case rel => exact ⟨k + 1, out ++ [p.z.name], by omega, by go_num, by show _ = _; rw [List.length_append, hol.out]; rfl, HT2, O4, X4, G4, B4, z4⟩
   case measure => simp [intOf]; omega
  have e : k = xs.length := by omega
  subst e
  have HT0 : Hid (out = s.zones.map Sx.Zn.name ++ (s.links.map Sx.Lk.name).take 0) := by show _ = _; rw [HT.out, HLX.out, List.take_zero, List.append_nil, List.take_of_length_le (by rw [List.length_map]; exact Nat.le_refl _)]
  have hol0 : Hid (out.length = xs.length + 0) := hol.out
  have q : ¬ (xs.length : Int) < (xs.length : Int) := by omega
  clear hlt HT hol hk
  go_wp2_with fail
  clear s0 s1 s2 sx
  go_loopw [4, 6] (fun ov kv wr => ∃ (k : Nat) (out : List Tx.Bs), k ≤ s.links.length ∧ kv = .int .i64 k ∧ Hid (out.length = xs.length + k) ∧ Hid (out = s.zones.map Sx.Zn.name ++ (s.links.map Sx.Lk.name).take k) ∧ Hid (lF wr (N + 1) ov out) ∧ Hid (ag wr N [.slice ra s.rules.length rcap, .slice za xs.length zcap, .slice la s.links.length lcap]) ∧ Hid (gG s xs ra za la rcap zcap lcap m wr) ∧ Hid (Below N w wr) ∧ N + 1 ≤ wr.heap.size) (fun _ kv _ => s.links.length - (intOf kv).toNat)
  case atStart => exact ⟨0, out, Nat.zero_le _, rfl, hol0, HT0, OW, X, G, B, zV⟩
  case round =>
   clear X B zV G OW HT0 hol0
   obtain ⟨k, out, hk, rfl, hol, HT, OW, X, G, B, zV⟩ := hrel
   obtain ⟨oa, ocap, rfl⟩ := aF OW.out
   obtain ⟨⟨s0, _⟩, ⟨s1, _⟩, ⟨s2, _⟩, sx⟩ := cp3 X.out
   by_cases hlt : k < s.links.length
   case pos =>
    obtain ⟨l, hp⟩ : ∃ x, s.links[k]? = some x := ⟨_, q4G hlt⟩
    obtain ⟨lb, lo, e1, hlb, hc⟩ := aN G.out.links hp
    subst e1
    obtain ⟨c0, c1⟩ := og hc
    have HT2 : Hid (out ++ [l.name] = s.zones.map Sx.Zn.name ++ (s.links.map Sx.Lk.name).take (k + 1)) := by
     show _ = _
     rw [List.take_add_one, List.getElem?_map, hp, HT.out, List.append_assoc]; rfl
    have q : (k : Int) < (s.links.length : Int) := by omega
    clear hc hp
    go_wp2_with (at_builtin; refine wpList_append_own _ rfl _ _ 107 rfl (N + 1) 9 i0 (.string ⟨#[]⟩) 1 16 Tryz.underlying107 hi hz0 hz1 hz2 rfl (by decide) _ _ _ rfl (World.ownsRow.alloc OW.out _) _ 1 1 [af l.name] rfl rfl (one_cell _ _) (by intro u hu; simp at hu; subst hu; rfl) (by have := hol.out; unfold maxLen; omega) (by have := hol.out; omega) (by simp; omega) ?_)
    intro v' w4 hown' hgrow _
    have hne : ∀ k, (Value.slice oa out.length ocap).ownBlock = some k → k ≠ N := fun k hk => by have := (OW.out.lt k hk).1; omega
    have B4 : Hid (Below N w w4) := Below.grown (B.out.alloc (by omega) _) hgrow (by simp; omega) (fun k hk => by have := (OW.out.lt k hk).1; omega)
    have X4 := hid (ca_grownO (aH X.out _) hgrow hne)
    have G4 := hid (lg G0.out B4.out hN)
    have O4 : Hid (lF w4 (N + 1) v' (out ++ [l.name])) := by show World.ownsRow _ _ _ _ _ _ _; simpa using hown'
    have z4 : N + 1 ≤ w4.heap.size := by have := hgrow.size; simp at this; omega
    clear hown' hgrow hne B OW X zV G
    go_wp2
    go_roundw
    case rel => exact ⟨k + 1, out ++ [l.name], by omega, by go_num, by show _ = _; rw [List.length_append, hol.out]; rfl, HT2, O4, X4, G4, B4, z4⟩
    case measure => simp [intOf]; omega
   have e : k = s.links.length := by omega
   subst e
   have HT0 : Hid (out = NM) := by show _ = _; rw [HT.out, ← HNM.out, List.take_of_length_le (by rw [List.length_map]; exact Nat.le_refl _)]; rfl
   have q : ¬ (s.links.length : Int) < (s.links.length : Int) := by omega
   have hnl : NM.length ≤ 40 := by have := hol.out; rw [HT0.out] at this; omega
   have eO : NM = out := HT0.out.symm
   subst eO
   clear hlt HT hol hk HT0
   go_wp2_with fail
   clear s0 s1 s2 sx
   have NO : Hid ((NM.take 0).Nodup) := by show List.Nodup _; rw [List.take_zero]; exact List.nodup_nil
   go_loopw [7] (fun iv wr => ∃ i : Nat, i ≤ NM.length ∧ iv = .int .i64 i ∧ Hid ((NM.take i).Nodup) ∧ Hid (lF wr (N + 1) (.slice oa NM.length ocap) NM) ∧ Hid (ag wr N [.slice ra s.rules.length rcap, .slice za xs.length zcap, .slice la s.links.length lcap]) ∧ Hid (gG s xs ra za la rcap zcap lcap m wr) ∧ Hid (Below N w wr) ∧ N + 1 ≤ wr.heap.size) (fun iv _ => NM.length - (intOf iv).toNat)
   case atStart => exact ⟨0, Nat.zero_le _, rfl, NO, OW, X, G, B, zV⟩
   case round =>
    clear X B zV G OW NO
    obtain ⟨i, hi, rfl, NO, OW, X, G, B, zV⟩ := hrel
    by_cases hlt : i < NM.length
    case pos =>
     obtain ⟨x, hx⟩ : ∃ x, NM[i]? = some x := ⟨_, q4G hlt⟩
     have HX := hid hx
     have q : (i : Int) < (NM.length : Int) := by omega
     have NI : Hid (¬ x ∈ NM.take 0) := by show ¬ _; rw [List.take_zero]; simp
     clear hx
     go_wp2_with fail
     go_loopw [8] (fun kv wr => ∃ k : Nat, k ≤ i ∧ kv = .int .i64 k ∧ Hid (¬ x ∈ NM.take k) ∧ Hid (lF wr (N + 1) (.slice oa NM.length ocap) NM) ∧ Hid (ag wr N [.slice ra s.rules.length rcap, .slice za xs.length zcap, .slice la s.links.length lcap]) ∧ Hid (gG s xs ra za la rcap zcap lcap m wr) ∧ Hid (Below N w wr) ∧ N + 1 ≤ wr.heap.size) (fun kv _ => i - (intOf kv).toNat)
     case atStart => exact ⟨0, Nat.zero_le _, rfl, NI, OW, X, G, B, zV⟩
     case round =>
      clear X B zV G OW NI
      obtain ⟨k, hk, rfl, NI, OW, X, G, B, zV⟩ := hrel
      by_cases hlt2 : k < i
      case pos =>
       obtain ⟨y, hy⟩ : ∃ y, NM[k]? = some y := ⟨_, q4G (by omega)⟩
       obtain ⟨gb, go, e1, hgb, hc⟩ := aN (wW OW.out) HX.out
       subst e1
       have x0 : wr.cell? ⟨gb, go + i, none⟩ = some (af x) := by have := hc 0 _ rfl; simpa using this
       obtain ⟨gb', go', e1, _, hc'⟩ := aN (wW OW.out) hy
       simp only [Option.some.injEq, Addr.mk.injEq] at e1
       obtain ⟨rfl, rfl, _⟩ := e1
       have y0 : wr.cell? ⟨gb, go + k, none⟩ = some (af y) := by have := hc' 0 _ rfl; simpa using this
       have HY := hid hy
       have q2 : (k : Int) < (i : Int) := by omega
       have q3 : (k : Int) < (NM.length : Int) := by omega
       clear hc hc' hy
       cases e2 : (x == y)
       case true =>
        have hxy : x = y := by simpa using e2
        have hR : E = 6 := by
         have hn : ¬ NM.Nodup := by
          intro hd
          have := List.pairwise_iff_getElem.1 hd k i (by omega) hlt hlt2
          have ex := (q4L.1 HX.out).2
          have ey := (q4L.1 HY.out).2
          rw [ex, ey] at this
          exact this hxy.symm
         rw [← HE.out]
         have c0 : jK s xs 0 = 0 := HS0.out
         have c1 : jK s xs 1 = 6 := by show mP (dL s.zones s.links) = 6; rw [HNM.out]; unfold mP; rw [if_neg hn]
         unfold iO
         rw [if_neg (by rw [c0]; simp), if_pos (by rw [c1]; decide), c1]
        clear hxy
        go_wp2_with fail
        go_quiet (fail)
        go_wp2
        go_ret
        exact ⟨ai (by rw [hR]), below_drewN B.out _⟩
       have NI2 : Hid (¬ x ∈ NM.take (k + 1)) := by
        show ¬ _
        rw [List.take_add_one, HY.out]
        intro hm
        rcases List.mem_append.1 hm with hm | hm
        ·exact NI.out hm
        ·simp at hm; subst hm; simp at e2
       go_wp2_with fail
       go_quiet (fail)
       go_wp2
       go_roundw
       case rel => exact ⟨k + 1, by omega, by go_num, NI2, World.ownsRow.drew OW.out, qB X.out, lg G0.out (below_drewN B.out _) hN, below_drewN B.out _, zV⟩
       case measure => simp [intOf]; omega
      have e : k = i := by omega
      subst e
      have NO2 : Hid ((NM.take (k + 1)).Nodup) := by
       show List.Nodup _
       rw [List.take_add_one, HX.out]
       refine zu NO.out ?_
       cases h : (NM.take k).contains x
       ·rfl
       ·exact absurd (List.contains_iff_mem.1 h) NI.out
      have q2 : ¬ (k : Int) < (k : Int) := by omega
      clear hlt2
      go_wp2_with fail
      go_roundw
      case rel => exact ⟨k + 1, by omega, by go_num, NO2, OW, X, G, B, zV⟩
      case measure => simp [intOf]; omega
    have e : i = NM.length := by omega
    subst e
    have hnd : NM.Nodup := by have := NO.out; rw [List.take_length] at this; exact this
    have C1 : Hid (jK s xs 1 = 0) := by show mP (dL s.zones s.links) = 0; rw [HNM.out]; unfold mP; rw [if_pos hnd]
    have q : ¬ (NM.length : Int) < (NM.length : Int) := by omega
    clear hlt hnd hi NO
    go_wp2_with fail
    have LK : Hid (∀ (j : Nat) (l : Sx.Lk), j < 0 → s.links[j]? = some l → iD xs l = false) := fun j l h => absurd h (by omega)
    go_loopw [9] (fun iv wr => ∃ i : Nat, i ≤ s.links.length ∧ iv = .int .i64 i ∧ Hid (∀ (j : Nat) (l : Sx.Lk), j < i → s.links[j]? = some l → iD xs l = false) ∧ Hid (ag wr N [.slice ra s.rules.length rcap, .slice za xs.length zcap, .slice la s.links.length lcap]) ∧ Hid (gG s xs ra za la rcap zcap lcap m wr) ∧ Hid (Below N w wr) ∧ N + 1 ≤ wr.heap.size) (fun iv _ => s.links.length - (intOf iv).toNat)
    case atStart => exact ⟨0, Nat.zero_le _, rfl, LK, X, G, B, zV⟩
    case round =>
     clear X B zV G LK OW
     obtain ⟨i, hi, rfl, LK, X, G, B, zV⟩ := hrel
     obtain ⟨⟨s0, _⟩, ⟨s1, _⟩, ⟨s2, _⟩, sx⟩ := cp3 X.out
     by_cases hlt : i < s.links.length
     case pos =>
      obtain ⟨l, hp⟩ : ∃ x, s.links[i]? = some x := ⟨_, q4G hlt⟩
      obtain ⟨lb, lo, e1, hlb, hc⟩ := aN G.out.links hp
      subst e1
      obtain ⟨c0, c1⟩ := og hc
      have HP := hid hp
      have q : (i : Int) < (s.links.length : Int) := by omega
      have ZA : Hid (∀ W, Below wr.heap.size wr W → Calls Tryz.prog 58 #[.agg #[.slice ra s.rules.length rcap, .slice za xs.length zcap, .slice (some ⟨lb, lo, none⟩) s.links.length lcap], af l.to] W fun e w' => e = .returned (.int .i64 (fu l.to xs 0)) ∧ Below W.heap.size W w') := fun W hW => Aj l.to s.zones xs ra za _ _ s.links.length rcap zcap lcap W (dP G.out.zv hW) (by omega)
      have SS := hid (show wr.cell? ⟨N, 0, none⟩ = some (.slice ra s.rules.length rcap) ∧ wr.cell? ⟨N, 1, none⟩ = some (.slice za xs.length zcap) ∧ wr.cell? ⟨N, 2, none⟩ = some (.slice (some ⟨lb, lo, none⟩) s.links.length lcap) ∧ wr.cell? ⟨lb, lo + i * 2, none⟩ = some (af l.to) from ⟨s0, s1, s2, c0⟩)
      have KS : Hid (∀ wz, Below wr.heap.size wr wz → (wz.cell? ⟨N, 0, none⟩ = some (.slice ra s.rules.length rcap) ∧ wz.cell? ⟨N, 1, none⟩ = some (.slice za xs.length zcap) ∧ wz.cell? ⟨N, 2, none⟩ = some (.slice (some ⟨lb, lo, none⟩) s.links.length lcap) ∧ wz.cell? ⟨lb, lo + i * 2, none⟩ = some (af l.to))) := fun wz hb => ⟨(hb.cell (p := ⟨N, 0, none⟩) sx).trans s0, (hb.cell (p := ⟨N, 1, none⟩) sx).trans s1, (hb.cell (p := ⟨N, 2, none⟩) sx).trans s2, (hb.cell (p := ⟨lb, lo + i * 2, none⟩) hlb).trans c0⟩
      clear hc hp
      obtain ⟨A, hA⟩ : ∃ A, gZ xs l.to = A := ⟨_, rfl⟩
      obtain ⟨Pl, hPl⟩ : ∃ P, fu l.to xs 0 = P := ⟨_, rfl⟩
      rw [hPl] at ZA
      have hPA : (A = true → ¬ Pl < 0) ∧ (A = false → Pl < 0) := by
       refine ⟨fun h => ?_, fun h => ?_⟩
       ·obtain ⟨j, h1, _⟩ := tC xs 0 (hA.trans h)
        rw [← hPl, h1]; omega
       ·have := qx xs 0 (hA.trans h)
        rw [← hPl, this]; omega
      have HA := hid hA
      have HPA := hid hPA
      clear hA hPl hPA
      go_upto_region 24 with fail
      refine wp_region_held_drew (S := fun w' => w'.cell? ⟨N, 0, none⟩ = some (.slice ra s.rules.length rcap) ∧ w'.cell? ⟨N, 1, none⟩ = some (.slice za xs.length zcap) ∧ w'.cell? ⟨N, 2, none⟩ = some (.slice (some ⟨lb, lo, none⟩) s.links.length lcap) ∧ w'.cell? ⟨lb, lo + i * 2, none⟩ = some (af l.to)) (by kernel_rfl) SS.out (fun hHeld => ?_)
      refine tkA 0 rfl ?_
      refine tkA 1 rfl ?_
      refine tkA 2 rfl ?_
      refine tkA 3 rfl ?_
      refine tkA 4 rfl ?_
      refine tkA 5 rfl ?_
      refine tkA 6 rfl ?_
      refine rdH 7 rfl fun K hK => ?_
      go_simp
      refine (ZA.out _ (show Below wr.heap.size wr wr.drew from ⟨rfl, rfl, rfl, Nat.le_refl _, fun _ _ => rfl⟩)).mono ?_
      rintro e w7 ⟨rfl, hb7⟩
      have hb : Below wr.heap.size wr w7 := bq hb7
      have S7 := KS.out w7 hb
      refine hK.out _ _ ?_ (fun hHeld => ?_)
      ·exact S7
      clear hK K
      try simp only [Act.put, j]
      refine tkA 8 rfl ?_
      refine wpAnyH_done (by kernel_rfl) ?_ _
      have B7 := hid (aL B.out (by omega) hb)
      have X7 := hid (ah X.out hb)
      have G7 := hid (lg G0.out B7.out hN)
      have z7 : N + 1 ≤ w7.heap.size := Nat.le_trans zV hb.size
      clear SS KS ZA s0 s1 s2 sx c0 c1 hlb hb S7 hHeld B X G zV
      cases A
      case false =>
       have hneg : Pl < 0 := HPA.out.2 rfl
       have hd : decide (Pl < 0) = true := by simp [hneg]
       have hR : E = 5 := by
        rw [← HE.out]
        have k0 : jK s xs 0 = 0 := HS0.out
        have k2 : jK s xs 2 = 5 := by
         show oH s.rules s.links xs = 5
         unfold oH
         rw [if_pos]
         have : s.links.any (iD xs) = true := List.any_eq_true.2 ⟨l, List.mem_of_getElem? HP.out, by rw [yh, HA.out]; rfl⟩
         rw [this]; rfl
        unfold iO
        rw [if_neg (by rw [k0]; simp), if_neg (by rw [C1.out]; simp), if_pos (by rw [k2]; decide), k2]
       go_wp2
       go_ret
       exact ⟨ai (by first | rw [hR] | rfl), B7.out⟩
      have hpos : ¬ Pl < 0 := HPA.out.1 rfl
      have hd : decide (Pl < 0) = false := by simp; omega
      have LK2 : Hid (∀ (j : Nat) (u : Sx.Lk), j < i + 1 → s.links[j]? = some u → iD xs u = false) := fun j u hj hu => by
       rcases Nat.lt_or_ge j i with z | z
       ·exact LK.out j u z hu
       ·have e : j = i := by omega
        subst e
        rw [HP.out] at hu
        simp at hu; subst hu
        rw [yh, HA.out]; rfl
      go_wp2
      go_roundw
      case rel => exact ⟨i + 1, by omega, by go_num, LK2, X7, G7, B7, z7⟩
      case measure => simp [intOf]; omega
     have e : i = s.links.length := by omega
     subst e
     have C2 : Hid (s.links.any (iD xs) = false) := by
      show _ = _
      rw [List.any_eq_false]
      intro l hl
      obtain ⟨j, hj⟩ := List.mem_iff_getElem?.1 hl
      rw [LK.out j l (q4L.1 hj).1 hj]; simp
     have q : ¬ (s.links.length : Int) < (s.links.length : Int) := by omega
     clear hlt LK hi
     go_wp2_with fail
     have EK : Hid (∀ (j : Nat) (p : ZV), j < 0 → xs[j]? = some p → ∀ x ∈ p.z.eras, ik s.rules x = false) := fun j p h => absurd h (by omega)
     clear s0 s1 s2 sx
     go_loopw [10] (fun iv wr => ∃ i : Nat, i ≤ xs.length ∧ iv = .int .i64 i ∧ Hid (∀ (j : Nat) (p : ZV), j < i → xs[j]? = some p → ∀ x ∈ p.z.eras, ik s.rules x = false) ∧ Hid (ag wr N [.slice ra s.rules.length rcap, .slice za xs.length zcap, .slice la s.links.length lcap]) ∧ Hid (gG s xs ra za la rcap zcap lcap m wr) ∧ Hid (Below N w wr) ∧ N + 1 ≤ wr.heap.size) (fun iv _ => xs.length - (intOf iv).toNat)
     case atStart => exact ⟨0, Nat.zero_le _, rfl, EK, X, G, B, zV⟩
     case round =>
      clear X B zV G EK
      obtain ⟨i, hi, rfl, EK, X, G, B, zV⟩ := hrel
      by_cases hlt : i < xs.length
      case pos =>
       obtain ⟨p, hp⟩ : ∃ x, xs[i]? = some x := ⟨_, q4G hlt⟩
       have HP := hid hp
       have q : (i : Int) < (xs.length : Int) := by omega
       have hpl : p.z.eras.length ≤ 8 := HEL.out p (List.mem_of_getElem? hp)
       have IK : Hid (∀ (j : Nat) (x : Sx.Er), j < 0 → p.z.eras[j]? = some x → ik s.rules x = false) := fun j x h => absurd h (by omega)
       obtain ⟨s1, _⟩ := aa X.out 1 rfl
       have sx := X.out.1
       clear hp
       go_wp2_with fail
       clear s1 sx
       go_loopw [11] (fun kv wr => ∃ k : Nat, k ≤ p.z.eras.length ∧ kv = .int .i64 k ∧ Hid (∀ (j : Nat) (x : Sx.Er), j < k → p.z.eras[j]? = some x → ik s.rules x = false) ∧ Hid (ag wr N [.slice ra s.rules.length rcap, .slice za xs.length zcap, .slice la s.links.length lcap]) ∧ Hid (gG s xs ra za la rcap zcap lcap m wr) ∧ Hid (Below N w wr) ∧ N + 1 ≤ wr.heap.size) (fun kv _ => p.z.eras.length - (intOf kv).toNat)
       case atStart => exact ⟨0, Nat.zero_le _, rfl, IK, X, G, B, zV⟩
       case round =>
        clear X B zV G IK
        obtain ⟨k, hk, rfl, IK, X, G, B, zV⟩ := hrel
        obtain ⟨s1, _⟩ := aa X.out 1 rfl
        have sx := X.out.1
        obtain ⟨zb, zo, e1, hzb, hc⟩ := aN G.out.zv.rd HP.out
        subst e1
        have z1 : wr.cell? ⟨zb, zo + i * 2 + 1, none⟩ = some (.slice p.a p.z.eras.length p.c) := hc 1 _ rfl
        clear hc
        by_cases hlt2 : k < p.z.eras.length
        case pos =>
         obtain ⟨x, hx⟩ : ∃ x, p.z.eras[k]? = some x := ⟨_, q4G hlt2⟩
         obtain ⟨eb, eo, e1, heb, hc⟩ := aN (G.out.zv.eras p (List.mem_of_getElem? HP.out)) hx
         rw [e1] at z1
         have HPA := hid e1
         have c1 : wr.cell? ⟨eb, eo + k * 10 + 1, none⟩ = some (af x.rules) := hc 1 _ rfl
         have HX := hid hx
         have q2 : (k : Int) < (p.z.eras.length : Int) := by omega
         obtain ⟨TB, hTB⟩ : ∃ b, x.rules.isEmpty = b := ⟨_, rfl⟩
         have HTB := hid hTB
         clear hc hx e1 hTB
         have TH : Hid (TB = (x.rules.isEmpty || (s.rules.take 0).any fun r => r.name == x.rules)) := by show _ = _; rw [List.take_zero, HTB.out]; simp
         have hem : (x.rules == []) = TB := by rw [← HTB.out]; cases x.rules <;> rfl
         go_wp2_with fail
         clear s1 sx z1 c1 hzb heb hem
         go_loopw [12, 13] (fun tv nv wr => ∃ (n : Nat) (t : Bool), n ≤ s.rules.length ∧ nv = .int .i64 n ∧ tv = .bool t ∧ Hid (t = (x.rules.isEmpty || (s.rules.take n).any fun r => r.name == x.rules)) ∧ Hid (ag wr N [.slice ra s.rules.length rcap, .slice (some ⟨zb, zo, none⟩) xs.length zcap, .slice la s.links.length lcap]) ∧ Hid (gG s xs ra (some ⟨zb, zo, none⟩) la rcap zcap lcap m wr) ∧ Hid (Below N w wr) ∧ N + 1 ≤ wr.heap.size) (fun _ nv _ => s.rules.length - (intOf nv).toNat)
         case atStart => exact ⟨0, TB, Nat.zero_le _, rfl, rfl, TH, X, G, B, zV⟩
         case round =>
          clear X B zV G TH HTB
          obtain ⟨n, t, hn, rfl, rfl, TH, X, G, B, zV⟩ := hrel
          obtain ⟨⟨s0, _⟩, ⟨s1, _⟩, sx⟩ := cp2 X.out
          by_cases hlt3 : n < s.rules.length
          case pos =>
           obtain ⟨r, hr⟩ : ∃ x, s.rules[n]? = some x := ⟨_, q4G hlt3⟩
           obtain ⟨rb, ro, e1, hrb, hc⟩ := aN G.out.rules hr
           subst e1
           have r0 : wr.cell? ⟨rb, ro + n * 11, none⟩ = some (af r.name) := by have := hc 0 _ rfl; simpa using this
           obtain ⟨zb', zo', e1, hzb, hc'⟩ := aN G.out.zv.rd HP.out
           simp only [Option.some.injEq, Addr.mk.injEq] at e1
           obtain ⟨rfl, rfl, _⟩ := e1
           have z1 : wr.cell? ⟨zb, zo + i * 2 + 1, none⟩ = some (.slice p.a p.z.eras.length p.c) := hc' 1 _ rfl
           rw [HPA.out] at z1
           obtain ⟨eb', eo', e1, heb, hc''⟩ := aN (G.out.zv.eras p (List.mem_of_getElem? HP.out)) HX.out
           rw [HPA.out] at e1
           simp only [Option.some.injEq, Addr.mk.injEq] at e1
           obtain ⟨rfl, rfl, _⟩ := e1
           have c1 : wr.cell? ⟨eb, eo + k * 10 + 1, none⟩ = some (af x.rules) := hc'' 1 _ rfl
           have TH2 : Hid ((t || r.name == x.rules) = (x.rules.isEmpty || (s.rules.take (n + 1)).any fun r => r.name == x.rules)) := by
            show _ = _
            rw [TH.out, List.take_add_one, hr, Option.toList_some, List.any_append, Bool.or_assoc]; simp
           have q3 : (n : Int) < (s.rules.length : Int) := by omega
           clear hc hc' hc'' hr
           cases e4 : (r.name == x.rules) <;> cases t
           all_goals
            rw [e4] at TH2
            go_wp2_with fail
            go_quiet (fail)
            go_wp2
            go_roundw
            case rel => exact ⟨n + 1, _, by omega, by go_num, rfl, TH2, qB X.out, lg G0.out (below_drewN B.out _) hN, below_drewN B.out _, zV⟩
            case measure => simp [intOf]; omega
          have e : n = s.rules.length := by omega
          subst e
          have TH3 : Hid (t = (x.rules.isEmpty || s.rules.any fun r => r.name == x.rules)) := by have := TH.out; rw [List.take_length] at this; exact this
          have q3 : ¬ (s.rules.length : Int) < (s.rules.length : Int) := by omega
          clear hlt3 hn TH
          cases t
          case false =>
           have hlk : ik s.rules x = true := by
            have := TH3.out
            unfold ik
            cases h1 : x.rules.isEmpty <;> cases h2 : (s.rules.any fun r => r.name == x.rules) <;> first | rfl | (rw [h1, h2] at this; cases this)
           have hR : E = 5 := by
            rw [← HE.out]
            have k0 : jK s xs 0 = 0 := HS0.out
            have k2 : jK s xs 2 = 5 := by
             show oH s.rules s.links xs = 5
             unfold oH
             rw [if_pos]
             have : (aQ xs).any (ik s.rules) = true := List.any_eq_true.2 ⟨x, List.mem_flatMap.2 ⟨p, List.mem_of_getElem? HP.out, List.mem_of_getElem? HX.out⟩, hlk⟩
             rw [this, Bool.or_true]
            unfold iO
            rw [if_neg (by rw [k0]; simp), if_neg (by rw [C1.out]; simp), if_pos (by rw [k2]; decide), k2]
           clear hlk
           go_wp2
           go_ret
           exact ⟨ai (by first | rw [hR] | rfl), B.out⟩
          have IK2 : Hid (∀ (j : Nat) (u : Sx.Er), j < k + 1 → p.z.eras[j]? = some u → ik s.rules u = false) := fun j u hj hu => by
           rcases Nat.lt_or_ge j k with z | z
           ·exact IK.out j u z hu
           ·have e : j = k := by omega
            subst e
            rw [HX.out] at hu
            simp at hu; subst hu
            have := TH3.out
            unfold ik
            cases h1 : x.rules.isEmpty <;> cases h2 : (s.rules.any fun r => r.name == x.rules) <;> first | rfl | (rw [h1, h2] at this; cases this)
          go_wp2_with fail
          go_roundw
          case rel => exact ⟨k + 1, by omega, by go_num, IK2, X, G, B, zV⟩
          case measure => simp [intOf]; omega
        have e : k = p.z.eras.length := by omega
        subst e
        have EK2 : Hid (∀ (j : Nat) (u : ZV), j < i + 1 → xs[j]? = some u → ∀ x ∈ u.z.eras, ik s.rules x = false) := fun j u hj hu => by
         rcases Nat.lt_or_ge j i with z | z
         ·exact EK.out j u z hu
         ·have e : j = i := by omega
          subst e
          rw [HP.out] at hu
          simp at hu; subst hu
          intro x hx
          obtain ⟨n, hn⟩ := List.mem_iff_getElem?.1 hx
          exact IK.out n x (q4L.1 hn).1 hn
        have q2 : ¬ (p.z.eras.length : Int) < (p.z.eras.length : Int) := by omega
        clear hlt2 hk IK
        go_wp2_with fail
        go_roundw
        case rel => exact ⟨i + 1, by omega, by go_num, EK2, X, G, B, zV⟩
        case measure => simp [intOf]; omega
      have e : i = xs.length := by omega
      subst e
      have C3 : Hid (jK s xs 2 = 0) := by
       show oH s.rules s.links xs = 0
       unfold oH
       have : (aQ xs).any (ik s.rules) = false := by
        rw [List.any_eq_false]
        intro x hx
        obtain ⟨p, hp, hx⟩ := List.mem_flatMap.1 hx
        obtain ⟨j, hj⟩ := List.mem_iff_getElem?.1 hp
        rw [EK.out j p (q4L.1 hj).1 hj x hx]; simp
       rw [C2.out, this, if_neg (by simp)]
      obtain ⟨s1, _⟩ := aa X.out 1 rfl
      have sx := X.out.1
      have q : ¬ (xs.length : Int) < (xs.length : Int) := by omega
      clear hlt EK hi
      go_wp2_with fail
      obtain ⟨A, hA⟩ : ∃ A, fP s.rules (aQ xs) = A := ⟨_, rfl⟩
      have HA := hid hA
      have EK : Hid (fP s.rules (aQ (xs.drop 0)) = A) := by show _ = _; rw [List.drop_zero]; exact hA
      have TO : Hid (∀ (x : Sx.Er) W, bN W (.slice ra s.rules.length rcap) s.rules → Calls Tryz.prog 59 #[.slice ra s.rules.length rcap, af x.rules, .int .i64 x.shift] W (EI s.rules x.rules x.shift W)) := fun x W hW => xh s.rules _ x.rules x.shift W hW G0.out.size.rules
      clear s1 sx hA
      go_loopw [14] (fun iv wr => ∃ i : Nat, i ≤ xs.length ∧ iv = .int .i64 i ∧ Hid (fP s.rules (aQ (xs.drop i)) = A) ∧ Hid (ag wr N [.slice ra s.rules.length rcap, .slice za xs.length zcap, .slice la s.links.length lcap]) ∧ Hid (gG s xs ra za la rcap zcap lcap m wr) ∧ Hid (Below N w wr) ∧ N + 1 ≤ wr.heap.size) (fun iv _ => xs.length - (intOf iv).toNat)
      case atStart => exact ⟨0, Nat.zero_le _, rfl, EK, X, G, B, zV⟩
      case round =>
       clear X B zV G EK
       obtain ⟨i, hi, rfl, EK, X, G, B, zV⟩ := hrel
       by_cases hlt : i < xs.length
       case pos =>
        obtain ⟨p, hp⟩ : ∃ x, xs[i]? = some x := ⟨_, q4G hlt⟩
        have HP := hid hp
        have q : (i : Int) < (xs.length : Int) := by omega
        have hpl : p.z.eras.length ≤ 8 := HEL.out p (List.mem_of_getElem? hp)
        have IK : Hid (fP s.rules (p.z.eras.drop 0 ++ aQ (xs.drop (i + 1))) = A) := by
         show _ = _
         have := EK.out
         rw [Sx.eD hp] at this
         rw [List.drop_zero]; exact this
        obtain ⟨s1, _⟩ := aa X.out 1 rfl
        have sx := X.out.1
        clear hp
        go_wp2_with fail
        clear s1 sx
        go_loopw [15] (fun kv wr => ∃ k : Nat, k ≤ p.z.eras.length ∧ kv = .int .i64 k ∧ Hid (fP s.rules (p.z.eras.drop k ++ aQ (xs.drop (i + 1))) = A) ∧ Hid (ag wr N [.slice ra s.rules.length rcap, .slice za xs.length zcap, .slice la s.links.length lcap]) ∧ Hid (gG s xs ra za la rcap zcap lcap m wr) ∧ Hid (Below N w wr) ∧ N + 1 ≤ wr.heap.size) (fun kv _ => p.z.eras.length - (intOf kv).toNat)
        case atStart => exact ⟨0, Nat.zero_le _, rfl, IK, X, G, B, zV⟩
        case round =>
         clear X B zV G IK
         obtain ⟨k, hk, rfl, IK, X, G, B, zV⟩ := hrel
         obtain ⟨s1, _⟩ := aa X.out 1 rfl
         have sx := X.out.1
         obtain ⟨zb, zo, e1, hzb, hc⟩ := aN G.out.zv.rd HP.out
         subst e1
         have z1 : wr.cell? ⟨zb, zo + i * 2 + 1, none⟩ = some (.slice p.a p.z.eras.length p.c) := hc 1 _ rfl
         clear hc
         by_cases hlt2 : k < p.z.eras.length
         case pos =>
          obtain ⟨x, hx⟩ : ∃ x, p.z.eras[k]? = some x := ⟨_, q4G hlt2⟩
          obtain ⟨eb, eo, e1, heb, hc⟩ := aN (G.out.zv.eras p (List.mem_of_getElem? HP.out)) hx
          rw [e1] at z1
          obtain ⟨c0, c1, c2, c3, c4, c5, c6, c7, c8, c9⟩ := sI hc
          have HX := hid hx
          have IK1 : Hid (fP s.rules (x :: (p.z.eras.drop (k + 1) ++ aQ (xs.drop (i + 1)))) = A) := by show _ = _; have := IK.out; rw [Sx.eD hx] at this; exact this
          have q2 : (k : Int) < (p.z.eras.length : Int) := by omega
          obtain ⟨w2, g2, L0, hb2, sz2⟩ := aR wr #[.int .i64 x.shift, af x.rules, .int .i64 x.save, af x.format, .bool x.opn, .int .i64 x.uy, .int .i64 x.um, .int .i64 x.ud, .int .i64 x.uat, .int .i64 x.uclock] 67
          obtain ⟨bE, hbE⟩ : ∃ b, wr.heap.size = b := ⟨_, rfl⟩
          have LE : Hid (ag w2 bE [.int .i64 x.shift, af x.rules, .int .i64 x.save, af x.format, .bool x.opn, .int .i64 x.uy, .int .i64 x.um, .int .i64 x.ud, .int .i64 x.uat, .int .i64 x.uclock]) := hbE ▸ L0
          have X2 := hid (ah X.out hb2)
          have B2 := hid (aL B.out (by omega) hb2)
          have G2 := hid (lg G0.out B2.out hN)
          have z2 : N + 1 ≤ w2.heap.size := Nat.le_trans zV hb2.size
          clear hc hx e1 L0 hb2 sz2 IK
          obtain ⟨t0, _⟩ := aa X2.out 0 rfl
          have tx := X2.out.1
          obtain ⟨⟨e0, _⟩, ⟨e1, _⟩, se⟩ := cp2 LE.out
          by_cases hre : x.rules = []
          case pos =>
           have hem : (x.rules == []) = true := by rw [hre]; rfl
           have IK2 : Hid (fP s.rules (p.z.eras.drop (k + 1) ++ aQ (xs.drop (i + 1))) = A) := by show _ = _; have := IK1.out; rw [iC, if_pos (.inl hre)] at this; exact this
           clear hre
           go_wp2_with fail
           go_roundw
           case rel => exact ⟨k + 1, by omega, by go_num, IK2, X2, G2, B2, z2⟩
           case measure => simp [intOf]; omega
          have hem : (x.rules == []) = false := by cases h : x.rules with
           | nil => exact absurd h hre
           | cons a l => rfl
          have HC := hid (TO.out x w2 G2.out.rules)
          have HRE := hid hre
          clear hre
          go_wp2_with fail
          refine HC.out.mono ?_
          rintro e w3 ⟨tv, rfl, _, hb3⟩
          have X3 := hid (ah X2.out hb3)
          have B3 := hid (aL B2.out (by omega) hb3)
          have G3 := hid (lg G0.out B3.out hN)
          have z3 : N + 1 ≤ w3.heap.size := Nat.le_trans z2 hb3.size
          obtain ⟨TE, hTE⟩ : ∃ e, Sx.aY s.rules x.rules x.shift = e := ⟨_, rfl⟩
          rw [hTE]
          have IK4 : Hid ((if TE = 0 then fP s.rules (p.z.eras.drop (k + 1) ++ aQ (xs.drop (i + 1))) else TE) = A) := by
           show _ = _
           have := IK1.out
           rw [iC, hTE] at this
           by_cases z : TE = 0
           ·rw [if_pos (.inr z)] at this; rw [if_pos z]; exact this
           ·rw [if_neg (by rintro (y | y); exact HRE.out y; exact z y)] at this; rw [if_neg z]; exact this
          clear hb3 hTE HC s1 sx z1 c0 c1 c2 c3 c4 c5 c6 c7 c8 c9 heb hzb g2 hbE t0 tx e0 e1 se X B G zV X2 B2 G2 z2 LE IK1
          by_cases hz : TE = 0
          case neg =>
           have hR : E = TE := by
            rw [← HE.out]
            have k0 : jK s xs 0 = 0 := HS0.out
            have k3 : jK s xs 3 = TE := by show fP s.rules (aQ xs) = TE; rw [HA.out, ← IK4.out, if_neg hz]
            unfold iO
            rw [if_neg (by rw [k0]; simp), if_neg (by rw [C1.out]; simp), if_neg (by rw [C3.out]; simp), if_pos (by rw [k3]; exact hz), k3]
           have p1 : (TE != 0) = true := by simp [hz]
           have HR := hid hR
           clear hR
           go_wp2
           go_ret
           exact ⟨ai (by rw [HR.out]), B3.out⟩
          have IK5 : Hid (fP s.rules (p.z.eras.drop (k + 1) ++ aQ (xs.drop (i + 1))) = A) := by show _ = _; have := IK4.out; rw [if_pos hz] at this; exact this
          subst hz
          go_wp2_with fail
          go_roundw
          case rel => exact ⟨k + 1, by omega, by go_num, IK5, X3, G3, B3, z3⟩
          case measure => simp [intOf]; omega
         have e : k = p.z.eras.length := by omega
         subst e
         have EK2 : Hid (fP s.rules (aQ (xs.drop (i + 1))) = A) := by show _ = _; have := IK.out; rw [List.drop_length, List.nil_append] at this; exact this
         have q2 : ¬ (p.z.eras.length : Int) < (p.z.eras.length : Int) := by omega
         clear hlt2 hk IK
         go_wp2_with fail
         go_roundw
         case rel => exact ⟨i + 1, by omega, by go_num, EK2, X, G, B, zV⟩
         case measure => simp [intOf]; omega
       have e : i = xs.length := by omega
       subst e
       have C4 : Hid (jK s xs 3 = 0) := by show fP s.rules (aQ xs) = 0; rw [HA.out, ← EK.out, List.drop_length]; rfl
       obtain ⟨s1, _⟩ := aa X.out 1 rfl
       have sx := X.out.1
       have q : ¬ (xs.length : Int) < (xs.length : Int) := by omega
       clear hlt EK hi
       go_wp2_with fail
       have SOK := Sx.ow HS0.out
       have EO : Hid (∀ p ∈ xs, ∀ W, fA W (.slice p.a p.z.eras.length p.c) p.z.eras → Calls Tryz.prog 20 #[.agg #[af p.z.name, .slice p.a p.z.eras.length p.c]] W fun e w' => ∃ v, e = .returned v ∧ bK w' W.heap.size v (aT p.z.eras) ∧ Below W.heap.size W w') := fun p hp W hW =>
        wY p.z.name p.z.eras p.a p.c W hW (nU (SOK.zone p.z (qy G.out.zv hp))) (by have := HEL.out p hp; omega) fun e he => (Sx.qU (SOK.zone p.z (qy G.out.zv hp)) e he).till
       have EK : Hid (∀ (j : Nat) (p : ZV), j < 0 → xs[j]? = some p → bX (aT p.z.eras) = true) := fun j p h => absurd h (by omega)
       clear s1 sx SOK
       go_loopw [19] (fun iv wr => ∃ i : Nat, i ≤ xs.length ∧ iv = .int .i64 i ∧ Hid (∀ (j : Nat) (p : ZV), j < i → xs[j]? = some p → bX (aT p.z.eras) = true) ∧ Hid (ag wr N [.slice ra s.rules.length rcap, .slice za xs.length zcap, .slice la s.links.length lcap]) ∧ Hid (gG s xs ra za la rcap zcap lcap m wr) ∧ Hid (Below N w wr) ∧ N + 1 ≤ wr.heap.size) (fun iv _ => xs.length - (intOf iv).toNat)
       case atStart => exact ⟨0, Nat.zero_le _, rfl, EK, X, G, B, zV⟩
       case round =>
        clear X B zV G EK
        obtain ⟨i, hi, rfl, EK, X, G, B, zV⟩ := hrel
        obtain ⟨s1, _⟩ := aa X.out 1 rfl
        have sx := X.out.1
        by_cases hlt : i < xs.length
        case pos =>
         obtain ⟨p, hp⟩ : ∃ x, xs[i]? = some x := ⟨_, q4G hlt⟩
         have HP := hid hp
         have q : (i : Int) < (xs.length : Int) := by omega
         obtain ⟨zb, zo, e1, hzb, hc⟩ := aN G.out.zv.rd hp
         subst e1
         have z0 : wr.cell? ⟨zb, zo + i * 2, none⟩ = some (af p.z.name) := by have := hc 0 _ rfl; simpa using this
         have z1 : wr.cell? ⟨zb, zo + i * 2 + 1, none⟩ = some (.slice p.a p.z.eras.length p.c) := hc 1 _ rfl
         have HC := hid (EO.out p (List.mem_of_getElem? hp) wr (G.out.zv.eras p (List.mem_of_getElem? hp)))
         have hL0 : (aT p.z.eras).length ≤ 1000 := by
          have h1 := HEL.out p (List.mem_of_getElem? hp)
          have h2 : (aT p.z.eras).length ≤ p.z.eras.length := by unfold aT; rw [List.length_map]; exact List.length_filter_le _ _
          omega
         obtain ⟨L, hL⟩ : ∃ L, aT p.z.eras = L := ⟨_, rfl⟩
         rw [hL] at HC hL0
         have HL := hid hL
         clear hc hp hL
         go_wp2_with fail
         refine HC.out.mono ?_
         rintro e w1 ⟨lv, rfl, hO, hb⟩
         have X1 := hid (ah X.out hb)
         have B1 := hid (aL B.out (by omega) hb)
         have G1 := hid (lg G0.out B1.out hN)
         have z1' : N + 1 ≤ w1.heap.size := Nat.le_trans zV hb.size
         have RI := hid (jY hO)
         obtain ⟨oa2, oc2, rfl⟩ := aF hO
         have AK : Hid (∀ (j : Nat) (a b : Int), j < 0 → L[j]? = some a → L[j + 1]? = some b → a < b) := fun j a b h => absurd h (by omega)
         clear hO hb HC X B G zV s1 sx z0 z1 hzb
         go_wp2_with fail
         go_loopw [21] (fun kv wr => ∃ k : Nat, k ≤ L.length ∧ kv = .int .i64 ((k : Int) + 1) ∧ Hid (∀ (j : Nat) (a b : Int), j < k → L[j]? = some a → L[j + 1]? = some b → a < b) ∧ Hid (jT wr (.slice oa2 L.length oc2) L) ∧ Hid (ag wr N [.slice ra s.rules.length rcap, .slice (some ⟨zb, zo, none⟩) xs.length zcap, .slice la s.links.length lcap]) ∧ Hid (gG s xs ra (some ⟨zb, zo, none⟩) la rcap zcap lcap m wr) ∧ Hid (Below N w wr) ∧ N + 1 ≤ wr.heap.size) (fun kv _ => L.length + 1 - (intOf kv).toNat)
         case atStart => exact ⟨0, Nat.zero_le _, rfl, AK, RI, X1, G1, B1, z1'⟩
         case round =>
          clear X1 B1 G1 z1' RI AK
          obtain ⟨k, hk, rfl, AK, RI, X, G, B, zV⟩ := hrel
          by_cases hlt2 : k + 1 < L.length
          case pos =>
           obtain ⟨a, ha⟩ : ∃ a, L[k]? = some a := ⟨_, q4G (by omega)⟩
           obtain ⟨b, hb⟩ : ∃ b, L[k + 1]? = some b := ⟨_, q4G hlt2⟩
           obtain ⟨pb, po, _, e1, pl, pc⟩ := vO RI.out ha
           simp only [Value.slice.injEq] at e1
           obtain ⟨rfl, _, rfl⟩ := e1
           obtain ⟨qb, qo, _, e2, ql, qc⟩ := vO RI.out hb
           simp only [Value.slice.injEq, Option.some.injEq, Addr.mk.injEq] at e2
           obtain ⟨⟨rfl, rfl, _⟩, _, rfl⟩ := e2
           have HAA := hid ha
           have HBB := hid hb
           have q2 : (k : Int) + 1 < (L.length : Int) := by omega
           have q3 : (k : Int) < (L.length : Int) := by omega
           have b3 : (0 : Int) ≤ (k : Int) + 1 := by omega
           clear ha hb
           by_cases hab : b ≤ a
           case pos =>
            have hR : E = 4 := by
             have hn : bX L = false := by
              cases h : bX L
              ·rfl
              ·have := zR h HAA.out HBB.out; omega
             rw [← HE.out]
             have k0 : jK s xs 0 = 0 := HS0.out
             have k4 : jK s xs 4 = 4 := by
              show kV xs = 4
              unfold kV
              rw [if_pos (List.any_eq_true.2 ⟨p, List.mem_of_getElem? HP.out, by rw [HL.out, hn]; rfl⟩)]
             unfold iO
             rw [if_neg (by rw [k0]; simp), if_neg (by rw [C1.out]; simp), if_neg (by rw [C3.out]; simp), if_neg (by rw [C4.out]; simp), k4]
            have HR := hid hR
            clear hR
            go_wp2_with fail
            go_quiet (fail)
            go_wp2
            go_ret
            exact ⟨ai (by rw [HR.out]), below_drewN B.out _⟩
           have AK2 : Hid (∀ (j : Nat) (a b : Int), j < k + 1 → L[j]? = some a → L[j + 1]? = some b → a < b) := fun j u v hj hu hv => by
            rcases Nat.lt_or_ge j k with z | z
            ·exact AK.out j u v z hu hv
            ·have e : j = k := by omega
             subst e
             rw [HAA.out] at hu
             rw [HBB.out] at hv
             simp at hu hv
             omega
           go_wp2_with fail
           go_quiet (fail)
           go_wp2
           go_roundw
           case rel => exact ⟨k + 1, by omega, by go_num, AK2, RI.out, qB X.out, lg G0.out (below_drewN B.out _) hN, below_drewN B.out _, zV⟩
           case measure => simp [intOf]; omega
          have hri : bX L = true := Cr fun j a b h1 h2 => AK.out j a b (by have := (q4L.1 h2).1; omega) h1 h2
          have EK2 : Hid (∀ (j : Nat) (u : ZV), j < i + 1 → xs[j]? = some u → bX (aT u.z.eras) = true) := fun j u hj hu => by
           rcases Nat.lt_or_ge j i with z | z
           ·exact EK.out j u z hu
           ·have e : j = i := by omega
            subst e
            rw [HP.out] at hu
            simp at hu; subst hu
            rw [HL.out]; exact hri
          have q2 : ¬ (k : Int) + 1 < (L.length : Int) := by omega
          clear hri hlt2
          go_wp2_with fail
          go_roundw
          case rel => exact ⟨i + 1, by omega, by go_num, EK2, X, G, B, zV⟩
          case measure => simp [intOf]; omega
        have e : i = xs.length := by omega
        subst e
        have hR : E = 0 := by
         rw [← HE.out]
         have k0 : jK s xs 0 = 0 := HS0.out
         have k4 : jK s xs 4 = 0 := by
          show kV xs = 0
          unfold kV
          rw [if_neg]
          intro h
          obtain ⟨p, hp, h⟩ := List.any_eq_true.1 h
          obtain ⟨j, hj⟩ := List.mem_iff_getElem?.1 hp
          rw [EK.out j p (q4L.1 hj).1 hj] at h
          cases h
         unfold iO
         rw [if_neg (by rw [k0]; simp), if_neg (by rw [C1.out]; simp), if_neg (by rw [C3.out]; simp), if_neg (by rw [C4.out]; simp), k4]
        have HR := hid hR
        have q : ¬ (xs.length : Int) < (xs.length : Int) := by omega
        clear hR hlt EK hi
        go_wp2
        go_ret
        exact ⟨ai (by rw [HR.out]), B.out⟩
end
end Go.Proofs.YtkhlkohlccndgaaGreat
