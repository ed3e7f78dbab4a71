/- Part of the proof: CivF ChP CalRef RefY RefA RefB. -/
import Derived.Test.YtkhlkohlccndgaaGreatQz
import Derived.Test.YtkhlkohlccndgaaGreatQab
import Derived.Test.YtkhlkohlccndgaaGreatQaa
import Derived.Deep.LoopGhost
set_option linter.unusedVariables false
set_option linter.unusedSimpArgs false
set_option maxRecDepth 100000
set_option maxHeartbeats 16000000
namespace Go.Proofs.YtkhlkohlccndgaaGreat
section
open Go.RowKit

theorem Ls (y m k wk n : Int) (w : World) (h : Cv.iK y m = false) :
  Calls Tryz.prog 81 #[.int .i64 y, .int .i64 m, .agg #[.int .i64 k, .int .i64 wk, .int .i64 n]] w fun e w' => e = .returned (.tuple #[.agg #[.int .i64 0, .int .i64 0, .int .i64 0], .int .i64 3]) ∧ Below w.heap.size w w' := by
 have H := hid h
 clear h
 go_enter Tryz.func81, Tryz.ntmps81
 go_wp2_with (go_at_call 84; refine (fF _ _ _ H.out).mono ?_; rintro e w1 ⟨rfl, rfl⟩)
 refine bodyPost_ret (v := .tuple #[.agg #[.int .i64 0, .int .i64 0, .int .i64 0], .int .i64 3]) (by simp [results, Tryz.results81, go_sem]) rfl ⟨rfl, ?_⟩
 exact (((q4B _ _).alloc (Nat.le_refl _) _).alloc (by simp) _)

theorem Ki (y m k wk n : Int) (w : World) (h : Cv.iK y m = true) (hk : k < 1 ∨ 4 < k) :
  Calls Tryz.prog 81 #[.int .i64 y, .int .i64 m, .agg #[.int .i64 k, .int .i64 wk, .int .i64 n]] w fun e w' => e = .returned (.tuple #[.agg #[.int .i64 0, .int .i64 0, .int .i64 0], .int .i64 7]) ∧ Below w.heap.size w w' := by
 have H := hid h
 clear h
 rcases hk with hk | hk
 all_goals
  go_enter Tryz.func81, Tryz.ntmps81
  go_wp2_with (go_at_call 84; refine (fF _ _ _ H.out).mono ?_; rintro e w1 ⟨rfl, rfl⟩)
  refine bodyPost_ret (v := .tuple #[.agg #[.int .i64 0, .int .i64 0, .int .i64 0], .int .i64 7]) (by simp [results, Tryz.results81, go_sem]) rfl ⟨rfl, ?_⟩
  exact (((q4B _ _).alloc (Nat.le_refl _) _).alloc (by simp) _)

theorem yZ (k wk n len : Int) (w : World) {b : Bool} (h : Cv.kQ k wk n len = b) :
  Calls Tryz.prog 142 #[.agg #[.int .i64 k, .int .i64 wk, .int .i64 n], .int .i64 len] w fun e w' => e = .returned (.bool b) ∧ Below w.heap.size w w' := by
 subst h; exact Ir k wk n len w

theorem Lr (y m k wk n : Int) (w : World) (h : Cv.iK y m = true) (k1 : 1 ≤ k) (k2 : k ≤ 4) (hf : Cv.kQ k wk n (Cv.dim y m) = false) :
  Calls Tryz.prog 81 #[.int .i64 y, .int .i64 m, .agg #[.int .i64 k, .int .i64 wk, .int .i64 n]] w fun e w' => e = .returned (.tuple #[.agg #[.int .i64 0, .int .i64 0, .int .i64 0], .int .i64 3]) ∧ Below w.heap.size w w' := by
 have H := hid h
 have F := hid hf
 obtain ⟨m1, m2, m3, m4⟩ := Cv.eO.1 h
 clear h hf
 go_enter Tryz.func81, Tryz.ntmps81
 go_wp2_with (go_at_call 84; refine (fF _ _ _ H.out).mono ?_; rintro e w1 ⟨rfl, rfl⟩)
 go_region_with (first | (go_at_call 85; refine (dK _ _ _ (by omega) (by omega)).mono ?_; rintro e w1 ⟨rfl, rfl⟩) | (go_at_call 142; refine (yZ _ _ _ _ _ F.out).mono ?_; rintro e w2 ⟨rfl, hb⟩))
 all_goals
  obtain ⟨hc, hz⟩ := dZ hb
  have hs := hb.size
  simp at hs
  have hs1 : w.heap.size + 1 < w2.heap.size := by omega
  go_wp2
  refine bodyPost_ret (v := .tuple #[.agg #[.int .i64 0, .int .i64 0, .int .i64 0], .int .i64 3]) (by simp [results, Tryz.results81, go_sem, hc]) rfl ⟨rfl, ?_⟩
  refine Below.setCell (Below.setCell (Below.setCell (Below.trans ?_ (hb.mono (by simp; omega))) (by simp) _) (by simp) _) (by simp) _
  repeat (first | exact q4B _ _ | refine Below.drew ?_ | refine Below.alloc ?_ (by simp) _)

theorem Lt (y m k wk n : Int) (w : World) (h : Cv.iK y m = true) (k1 : 1 ≤ k) (k2 : k ≤ 4) (hf : Cv.kQ k wk n (Cv.dim y m) = true) (ht : Cv.tgt y m k wk n < -719162 ∨ 2932896 < Cv.tgt y m k wk n) :
  Calls Tryz.prog 81 #[.int .i64 y, .int .i64 m, .agg #[.int .i64 k, .int .i64 wk, .int .i64 n]] w fun e w' => e = .returned (.tuple #[.agg #[.int .i64 0, .int .i64 0, .int .i64 0], .int .i64 3]) ∧ Below w.heap.size w w' := by
 have H := hid h
 have F := hid hf
 have T := hid ht
 obtain ⟨m1, m2, m3, m4⟩ := Cv.eO.1 h
 clear h hf ht
 go_enter Tryz.func81, Tryz.ntmps81
 go_wp2_with (go_at_call 84; refine (fF _ _ _ H.out).mono ?_; rintro e w1 ⟨rfl, rfl⟩)
 go_region_with (first | (go_at_call 85; refine (dK _ _ _ (by omega) (by omega)).mono ?_; rintro e w1 ⟨rfl, rfl⟩) | (go_at_call 142; refine (yZ _ _ _ _ _ F.out).mono ?_; rintro e w2 ⟨rfl, hb⟩))
 all_goals
  obtain ⟨hc, hz⟩ := dZ hb
  have hs := hb.size
  simp at hs
  have hs1 : w.heap.size + 1 < w2.heap.size := by omega
  go_wp2_with fail
  refine (ql _ _ _ _ _ _ H.out F.out).mono ?_
  rintro e w3 ⟨rfl, hb3⟩
  obtain ⟨hc3, hz3⟩ := dZ hb3
  have hs3 : w.heap.size + 1 < w3.heap.size := q4N hs1 hb3.size
  go_wp2_with fail
  refine (of_no _ _ T.out).mono ?_
  rintro e w4 ⟨rfl, hb4⟩
  obtain ⟨hc4, hz4⟩ := dZ hb4
  go_wp2
  refine bodyPost_ret (v := .tuple #[.agg #[.int .i64 0, .int .i64 0, .int .i64 0], .int .i64 3]) (by simp [results, Tryz.results81, go_sem, hc, hc3, hc4, hs1, hs3]) rfl ⟨rfl, ?_⟩
  refine Below.setCell (Below.setCell (Below.setCell (Below.trans (Below.trans (Below.trans ?_ (hb.mono (by simp; omega))) (hb3.mono (by omega))) (hb4.mono (by omega))) (by simp) _) (by simp) _) (by simp) _
  repeat (first | exact q4B _ _ | refine Below.drew ?_ | refine Below.alloc ?_ (by simp) _)

theorem EO (y m k wk n : Int) (w : World) (h : Cv.onE y m k wk n = 0) :
  Calls Tryz.prog 81 #[.int .i64 y, .int .i64 m, .agg #[.int .i64 k, .int .i64 wk, .int .i64 n]] w fun e w' => ∃ a b c : Int, e = .returned (.tuple #[.agg #[.int .i64 a, .int .i64 b, .int .i64 c], .int .i64 0]) ∧ Cv.gX a b c = true ∧ Cv.num a b c = Cv.tgt y m k wk n ∧ Below w.heap.size w w' := by
 obtain ⟨h, k1, k2, hf, t1, t2⟩ := Cv.qE h
 have H := hid h
 have F := hid hf
 obtain ⟨m1, m2, m3, m4⟩ := Cv.eO.1 h
 clear h hf
 go_enter Tryz.func81, Tryz.ntmps81
 go_wp2_with (go_at_call 84; refine (fF _ _ _ H.out).mono ?_; rintro e w1 ⟨rfl, rfl⟩)
 go_region_with (first | (go_at_call 85; refine (dK _ _ _ (by omega) (by omega)).mono ?_; rintro e w1 ⟨rfl, rfl⟩) | (go_at_call 142; refine (yZ _ _ _ _ _ F.out).mono ?_; rintro e w2 ⟨rfl, hb⟩))
 all_goals
  obtain ⟨hc, hz⟩ := dZ hb
  have hs := hb.size
  simp at hs
  have hs1 : w.heap.size + 1 < w2.heap.size := by omega
  go_wp2_with fail
  refine (ql _ _ _ _ _ _ H.out F.out).mono ?_
  rintro e w3 ⟨rfl, hb3⟩
  obtain ⟨hc3, hz3⟩ := dZ hb3
  have hs3 : w.heap.size + 1 < w3.heap.size := q4N hs1 hb3.size
  go_wp2_with fail
  refine (Ll _ _ t1 t2).mono ?_
  rintro e w4 ⟨a, b, c, rfl, hv, hn, hb4⟩
  have HV := hid hv
  have HN := hid hn
  clear hv hn
  obtain ⟨hc4, hz4⟩ := dZ hb4
  go_wp2
  refine bodyPost_ret (v := .tuple #[.agg #[.int .i64 a, .int .i64 b, .int .i64 c], .int .i64 0]) (by simp [results, Tryz.results81, go_sem, hc, hc3, hc4, hs1, hs3]) rfl ⟨a, b, c, rfl, HV.out, HN.out, ?_⟩
  refine Below.setCell (Below.setCell (Below.setCell (Below.trans (Below.trans (Below.trans ?_ (hb.mono (by simp; omega))) (hb3.mono (by omega))) (hb4.mono (by omega))) (by simp) _) (by simp) _) (by simp) _
  repeat (first | exact q4B _ _ | refine Below.drew ?_ | refine Below.alloc ?_ (by simp) _)

theorem Lm (y m k wk n c : Int) (w : World) (h : Cv.onE y m k wk n = c) (hc : c ≠ 0) :
  Calls Tryz.prog 81 #[.int .i64 y, .int .i64 m, .agg #[.int .i64 k, .int .i64 wk, .int .i64 n]] w fun e w' => e = .returned (.tuple #[.agg #[.int .i64 0, .int .i64 0, .int .i64 0], .int .i64 c]) ∧ Below w.heap.size w w' := by
 unfold Cv.onE at h
 by_cases h1 : Cv.iK y m = false
 ·rw [if_pos h1] at h; subst h; exact Ls y m k wk n w h1
 rw [if_neg h1] at h
 have h1' : Cv.iK y m = true := by simpa using h1
 by_cases h2 : k < 1 ∨ 4 < k
 ·rw [if_pos h2] at h; subst h; exact Ki y m k wk n w h1' h2
 rw [if_neg h2] at h
 by_cases h3 : Cv.kQ k wk n (Cv.dim y m) = false
 ·rw [if_pos h3] at h; subst h; exact Lr y m k wk n w h1' (by omega) (by omega) h3
 rw [if_neg h3] at h
 have h3' : Cv.kQ k wk n (Cv.dim y m) = true := by simpa using h3
 by_cases h4 : Cv.tgt y m k wk n < -719162 ∨ 2932896 < Cv.tgt y m k wk n
 ·rw [if_pos h4] at h; subst h; exact Lt y m k wk n w h1' (by omega) (by omega) h3' h4
 rw [if_neg h4] at h
 exact absurd h.symm hc
end
namespace Sx

theorem jZ {α : Type} {l : List α} {i : Nat} {x : α} (h : l[i]? = some x) : l.drop i = x :: l.drop (i + 1) := by
 obtain ⟨hi, rfl⟩ := q4L.1 h
 exact List.drop_eq_getElem_cons hi
theorem kJ {α : Type} (f : α → Int) {l : List α} {i : Nat} {x : α} (h : l[i]? = some x) : az f (l.drop i) = if f x ≠ 0 then f x else az f (l.drop (i + 1)) := by
 rw [jZ h]; rfl
theorem eX {α : Type} (f : α → Int) {l : List α} {i : Nat} (h : ¬ i < l.length) : az f (l.drop i) = 0 := by
 rw [List.drop_eq_nil_of_le (by omega)]; rfl
theorem iU {α : Type} (f : α → Int) {l : List α} {i : Nat} {x : α} {E : Int} (h : l[i]? = some x) (hE : E = az f (l.drop i)) (hx : f x ≠ 0) : E = f x := by
 rw [hE, kJ f h, if_pos hx]
theorem iE {α : Type} (f : α → Int) {l : List α} {i : Nat} {x : α} {E : Int} (h : l[i]? = some x) (hE : E = az f (l.drop i)) (hx : f x = 0) : E = az f (l.drop (i + 1)) := by
 rw [hE, kJ f h, if_neg (by simp [hx])]
theorem FH {l : List Er} {i : Nat} (h : ¬ i < l.length) : iI (l.drop i) = 0 := by
 rw [List.drop_eq_nil_of_le (by omega)]; rfl
theorem uP {l : List Er} {i : Nat} {x : Er} (h : l[i]? = some x) : iI (l.drop i) = if eD x (decide (i + 1 = l.length)) ≠ 0 then eD x (decide (i + 1 = l.length)) else iI (l.drop (i + 1)) := by
 have hi := (q4L.1 h).1
 rw [jZ h]
 by_cases q : i + 1 = l.length
 ·rw [List.drop_eq_nil_of_le (by omega)]
  simp only [q, decide_true, iI]
  split
  ·rfl
  ·rename_i q; simpa using q
 ·simp only [q, decide_false]
  obtain ⟨y, hy⟩ : ∃ y, l[i + 1]? = some y := ⟨_, q4G (by omega)⟩
  rw [jZ hy]
  rfl
theorem Io {l : List Er} {i : Nat} {x : Er} {E : Int} {b : Bool} (h : l[i]? = some x) (hb : decide (i + 1 = l.length) = b) (hE : E = iI (l.drop i)) (hx : eD x b ≠ 0) : E = eD x b := by
 rw [hE, uP h, hb, if_pos hx]
theorem CV {l : List Er} {i : Nat} {x : Er} {E : Int} {b : Bool} (h : l[i]? = some x) (hb : decide (i + 1 = l.length) = b) (hE : E = iI (l.drop i)) (hx : eD x b = 0) : E = iI (l.drop (i + 1)) := by
 rw [hE, uP h, hb, if_neg (by simp [hx])]
theorem yf {s : Sr} {i : Nat} {z : Zn} (h : s.zones[i]? = some z) (hz : 8 < z.eras.length) : eH s = true := by
 have : s.zones.any (fun z => decide (8 < z.eras.length)) = true := List.any_eq_true.2 ⟨z, List.mem_of_getElem? h, by simpa using hz⟩
 simp [eH, this]
theorem zt {s : Sr} (h1 : ¬ 40 < s.rules.length) (h2 : ¬ 20 < s.zones.length) (h3 : ¬ 20 < s.links.length) (h : ∀ (j : Nat) (z : Zn), j < s.zones.length → s.zones[j]? = some z → ¬ 8 < z.eras.length) : eH s = false := by
 have : s.zones.any (fun z => decide (8 < z.eras.length)) = false := by
  rw [List.any_eq_false]
  intro z hz
  obtain ⟨j, hj⟩ := List.mem_iff_getElem?.1 hz
  simpa using h j z (q4L.1 hj).1 hj
 simp [eH, this, h1, h2, h3]
theorem kD {s : Sr} (h : eH s = true) : fB s = 2 := by unfold fB; rw [if_pos h]
theorem ul {s : Sr} (h : eH s = false) : fB s = orE (az dI s.rules) (orE (az dB s.zones) (az d9 s.links)) := by unfold fB; rw [if_neg (by simp [h])]
theorem Bf {a b : Int} (h : a ≠ 0) : orE a b = a := if_pos h
theorem rF {a b : Int} (h : a = 0) : orE a b = b := if_neg (by simp [h])
end Sx
namespace Cv

def rday (y m d : Int) : Int := y / 400 * 146097 + y % 400 * 365 + y % 400 / 4 - y % 400 / 100 + (153 * m + 2) / 5 + d - 1 - 719468

theorem Gy (y m d : Int) (h1 : 3 ≤ m) (h2 : m ≤ 12) : rday y (m - 3) d = num y m d := by
 have h := EK y
 have t : m = 3 ∨ m = 4 ∨ m = 5 ∨ m = 6 ∨ m = 7 ∨ m = 8 ∨ m = 9 ∨ m = 10 ∨ m = 11 ∨ m = 12 := by omega
 have c : (367 * m - 362) / 12 - 61 = (153 * (m - 3) + 2) / 5 := by omega
 have c2 : ¬ m ≤ 2 := by omega
 unfold rday num dby cum
 rw [if_neg c2]
 by_cases hl : lpB y = true
 ·rw [if_pos hl]; have := h.1 hl; omega
 ·rw [if_neg hl]
  have : ¬ (y % 4 = 0 ∧ (y % 100 ≠ 0 ∨ y % 400 = 0)) := fun k => hl (h.2 k)
  omega
theorem DR (y m d : Int) (h1 : 1 ≤ m) (h2 : m < 3) : rday (y - 1) (m - 3 + 12) d = num y m d := by
 have c : (367 * m - 362) / 12 + 306 = (153 * (m - 3 + 12) + 2) / 5 := by omega
 have c2 : m ≤ 2 := by omega
 unfold rday num dby cum
 rw [if_pos c2]
 omega
theorem KD {n y : Int} (hy : 1 ≤ y) (hy2 : y ≤ 9999) (m : Int) (m1 : 1 ≤ m) (m2 : m ≤ 12) (a : 0 ≤ n - num y m 1) (b : n - num y m 1 < dim y m) : gX y m (n - num y m 1 + 1) = true ∧ num y m (n - num y m 1 + 1) = n :=
 ⟨jg.2 (by omega), by unfold num; omega⟩
end Cv
section
open Go.RowKit

theorem fU (y m d : Int) (w : World) (y1 : 1 ≤ y) (y2 : y ≤ 10000) (m1 : 1 ≤ m) (m2 : m ≤ 12) (d1 : 0 ≤ d) (d2 : d ≤ 31) :
  Calls Tryz.prog 123 #[.agg #[.int .i64 y, .int .i64 m, .int .i64 d]] w fun e w' => e = .returned (.int .i64 (Cv.num y m d)) ∧ Below w.heap.size w w' := by
 by_cases h : m < 3
 ·have hh : Hid (Cv.num y m d = (y - 1) / 400 * 146097 + (y - 1) % 400 * 365 + (y - 1) % 400 / 4 - (y - 1) % 400 / 100 + (153 * (m - 3 + 12) + 2) / 5 + d - 1 - 719468) := (Cv.DR y m d m1 h).symm
  go_enter Tryz.func123, Tryz.ntmps123
  go_wp2_with fail
  go_quiet (fail)
  go_wp2
  go_ret
  exact ⟨ay (by rw [hh.out]), below_drewN ((q4B _ _).alloc (Nat.le_refl _) _) _⟩
 ·have hh : Hid (Cv.num y m d = y / 400 * 146097 + y % 400 * 365 + y % 400 / 4 - y % 400 / 100 + (153 * (m - 3) + 2) / 5 + d - 1 - 719468) := (Cv.Gy y m d (by omega) m2).symm
  go_enter Tryz.func123, Tryz.ntmps123
  go_wp2_with fail
  go_quiet (fail)
  go_wp2
  go_ret
  exact ⟨ay (by rw [hh.out]), below_drewN ((q4B _ _).alloc (Nat.le_refl _) _) _⟩
theorem nY (w : World) : Calls Tryz.prog 62 #[] w fun e w' => e = .returned (.int .i64 (-719162)) ∧ Below w.heap.size w w' := by
 go_enter Tryz.func62, Tryz.ntmps62
 go_wp2_with fail
 refine (fU _ _ _ _ (by omega) (by omega) (by omega) (by omega) (by omega) (by omega)).mono ?_
 rintro e w1 ⟨rfl, hb⟩
 rw [show Cv.num 1 1 1 = -719162 by decide]
 go_wp2
 go_ret
 exact ⟨rfl, hb⟩
theorem qx (w : World) : Calls Tryz.prog 63 #[] w fun e w' => e = .returned (.int .i64 2932896) ∧ Below w.heap.size w w' := by
 go_enter Tryz.func63, Tryz.ntmps63
 go_wp2_with fail
 refine (fU _ _ _ _ (by omega) (by omega) (by omega) (by omega) (by omega) (by omega)).mono ?_
 rintro e w1 ⟨rfl, hb⟩
 rw [show Cv.num 9999 12 31 = 2932896 by decide]
 go_wp2
 go_ret
 exact ⟨rfl, hb⟩

end
section
open Go.RowKit


theorem Gw (y : Int) (w : World) (h1 : 0 ≤ y) (h2 : y ≤ 20000) :
  Calls Tryz.prog 199 #[.int .i64 y] w fun e w' => e = .returned (.bool (Cv.lpB y)) ∧ w' = w := by
 by_cases a : y % 4 = 0 <;> by_cases b : y % 100 = 0 <;> by_cases c : y % 400 = 0
 all_goals
  have hh : Hid (Cv.lpB y = decide (y % 4 = 0 ∧ (y % 100 ≠ 0 ∨ y % 400 = 0))) := rfl
  go_enter Tryz.func199, Tryz.ntmps199
  go_wp2
  go_ret
  exact ⟨aC (by rw [hh.out]; simp [a, b, c]; try omega), rfl⟩

theorem fJ (y m : Int) (w : World) (h1 : 0 ≤ y) (h2 : y ≤ 20000) :
  Calls Tryz.prog 169 #[.int .i64 y, .int .i64 m] w fun e w' => e = .returned (.int .i64 (Cv.dim y m)) ∧ w' = w := by
 have hh : Hid (Cv.dim y m = if m = 4 ∨ m = 6 ∨ m = 9 ∨ m = 11 then 30 else if m = 2 then (if Cv.lpB y = true then 29 else 28) else 31) := rfl
 by_cases a : m = 4
 ·go_enter Tryz.func169, Tryz.ntmps169
  go_wp2
  go_ret
  exact ⟨ay (by rw [hh.out]; simp [a]), rfl⟩
 by_cases b : m = 6
 ·go_enter Tryz.func169, Tryz.ntmps169
  go_wp2
  go_ret
  exact ⟨ay (by rw [hh.out]; simp [b]), rfl⟩
 by_cases c : m = 9
 ·go_enter Tryz.func169, Tryz.ntmps169
  go_wp2
  go_ret
  exact ⟨ay (by rw [hh.out]; simp [c]), rfl⟩
 by_cases d : m = 11
 ·go_enter Tryz.func169, Tryz.ntmps169
  go_wp2
  go_ret
  exact ⟨ay (by rw [hh.out]; simp [d]), rfl⟩
 by_cases g : m = 2
 ·cases hl : Cv.lpB y
  all_goals
   have hl' := hid hl
   clear hl
   go_enter Tryz.func169, Tryz.ntmps169
   go_wp2_with (go_at_call 199; refine (Gw y _ h1 h2).mono ?_; rintro e w' ⟨rfl, rfl⟩; rw [hl'.out])
   go_ret
   exact ⟨ay (by rw [hh.out]; simp [g, hl'.out]), rfl⟩
 ·go_enter Tryz.func169, Tryz.ntmps169
  go_wp2
  go_ret
  exact ⟨ay (by rw [hh.out]; simp [a, b, c, d, g]), rfl⟩

end
section
open Go.RowKit

theorem lU (w : World) (o : Obj) (n : Nat) : Below w.heap.size w ((w.alloc o).drewN n) := below_drewN ((q4B _ _).alloc (Nat.le_refl _) _) _

theorem Dg (y m d : Int) (w : World) (h : Cv.gX y m d = true) :
  Calls Tryz.prog 168 #[.agg #[.int .i64 y, .int .i64 m, .int .i64 d]] w fun e w' => e = .returned (.bool true) ∧ Below w.heap.size w w' := by
 obtain ⟨v1, v2, v3, v4, v5, v6⟩ := Cv.jg.1 h
 clear h
 go_enter Tryz.func168, Tryz.ntmps168
 go_wp2_with fail
 go_quiet ((first | (go_at_call 77; exact Calls.quiet_of_same (av _ _ _ _ (decide_eq_true (by omega)))) | (go_at_call 169; exact Calls.quiet_of_same (fJ _ _ _ (by omega) (by omega)))))
 go_wp2
 go_ret
 exact ⟨rfl, lU _ _ _⟩

theorem FU (y m d : Int) (w : World) (h : Cv.gX y m d = false) :
  Calls Tryz.prog 168 #[.agg #[.int .i64 y, .int .i64 m, .int .i64 d]] w fun e w' => e = .returned (.bool false) ∧ Below w.heap.size w w' := by
 have v : ¬ (1 ≤ y ∧ y ≤ 9999 ∧ 1 ≤ m ∧ m ≤ 12 ∧ 1 ≤ d ∧ d ≤ Cv.dim y m) := fun k => by rw [Cv.jg.2 k] at h; cases h
 clear h
 by_cases a : 1 ≤ y ∧ y ≤ 9999
 ·obtain ⟨a1, a2⟩ := a
  by_cases b : 1 ≤ m ∧ m ≤ 12
  ·obtain ⟨b1, b2⟩ := b
   have c : Hid (decide (1 ≤ d ∧ d ≤ Cv.dim y m) = false) := decide_eq_false (by omega)
   clear v
   go_enter Tryz.func168, Tryz.ntmps168
   go_wp2_with fail
   go_quiet ((first | (go_at_call 77; exact Calls.quiet_of_same (av _ _ _ _ (decide_eq_true (by omega)))) | (go_at_call 77; exact Calls.quiet_of_same (av _ _ _ _ c.out)) | (go_at_call 169; exact Calls.quiet_of_same (fJ _ _ _ (by omega) (by omega)))))
   go_wp2
   go_ret
   exact ⟨rfl, lU _ _ _⟩
  ·have c : Hid (decide (1 ≤ m ∧ m ≤ 12) = false) := decide_eq_false b
   clear v b
   go_enter Tryz.func168, Tryz.ntmps168
   go_wp2_with fail
   go_quiet ((first | (go_at_call 77; exact Calls.quiet_of_same (av _ _ _ _ (decide_eq_true (by omega)))) | (go_at_call 77; exact Calls.quiet_of_same (av _ _ _ _ c.out))))
   go_wp2
   go_ret
   exact ⟨rfl, lU _ _ _⟩
 ·have c : Hid (decide (1 ≤ y ∧ y ≤ 9999) = false) := decide_eq_false a
  clear v a
  go_enter Tryz.func168, Tryz.ntmps168
  go_wp2_with fail
  go_quiet ((go_at_call 77; exact Calls.quiet_of_same (av _ _ _ _ c.out)))
  go_wp2
  go_ret
  exact ⟨rfl, lU _ _ _⟩

theorem num11 (y : Int) : Cv.num y 1 1 = Cv.dby y - 719162 := by unfold Cv.num; rw [Cv.qa]; omega
theorem lM (n : Int) (w : World) (h1 : -719162 ≤ n) (h2 : n ≤ 2932896) :
  Calls Tryz.prog 171 #[.int .i64 n] w fun e w' => ∃ y m d : Int, e = .returned (.agg #[.int .i64 y, .int .i64 m, .int .i64 d]) ∧ Cv.gX y m d = true ∧ Cv.num y m d = n ∧ Below w.heap.size w w' := by
 have n1 : Hid (Cv.num 1 1 1 ≤ n) := by show Cv.num 1 1 1 ≤ n; rw [show Cv.num 1 1 1 = -719162 by decide]; exact h1
 have n2 : Hid (n < Cv.num 10000 1 1) := by show n < Cv.num 10000 1 1; rw [show Cv.num 10000 1 1 = 2932897 by decide]; omega
 go_enter Tryz.func171, Tryz.ntmps171
 go_wp2_with fail
 go_loopw [3, 4] (fun a b wr => ∃ y z : Int, 1 ≤ y ∧ y < z ∧ z ≤ 10000 ∧ Cv.num y 1 1 ≤ n ∧ n < Cv.num z 1 1 ∧ a = .int .i64 y ∧ b = .int .i64 z ∧ w.heap.size < wr.heap.size ∧ Below (w.heap.size + 1) (w.alloc (.cells #[.int .i64 0, .int .i64 0, .int .i64 0] 63)) wr) (fun a b _ => (intOf b - intOf a).toNat)
 case atStart => exact ⟨1, 10000, by omega, by omega, by omega, n1.out, n2.out, rfl, rfl, by simp, q4B _ _⟩
 case round =>
  obtain ⟨y, z, y1, yz, z1, q1, q2, rfl, rfl, hs, hb⟩ := hrel
  clear n1 n2
  by_cases hc : 1 < z - y
  ·obtain ⟨k, hk⟩ : ∃ k, k = (y + z) / 2 := ⟨_, rfl⟩
   have k1 : y < k := by omega
   have k2 : k < z := by omega
   have hk' : Hid ((y + z) / 2 = k) := hk.symm
   clear hk
   go_wp2_with fail
   rw [hk'.out]
   refine (fU _ _ _ _ (by omega) (by omega) (by omega) (by omega) (by omega) (by omega)).mono ?_
   rintro e w1 ⟨rfl, hb1⟩
   have s1 := hb1.size
   by_cases hn : Cv.num k 1 1 ≤ n
   ·go_wp2
    go_roundw
    case rel => exact ⟨k, z, by omega, by omega, by omega, hn, q2, rfl, rfl, by omega, hb.trans (hb1.mono (by omega))⟩
    case measure => simp [intOf]; omega
   ·go_wp2
    go_roundw
    case rel => exact ⟨y, k, by omega, by omega, by omega, q1, by omega, rfl, rfl, by omega, hb.trans (hb1.mono (by omega))⟩
    case measure => simp [intOf]; omega
  ·have hz : z = y + 1 := by omega
   subst hz
   clear hc yz
   obtain ⟨w9, rfl⟩ : ∃ w9, w9 = wr := ⟨_, rfl⟩
   have e12 : n < Cv.num y 12 1 + Cv.dim y 12 := by
    have a := Cv.qc y 12 (by omega) (by omega)
    have b := Cv.CK y
    have c := Cv.uN y
    have d := num11 (y + 1)
    have e : (12 : Int) + 1 = 13 := rfl
    rw [e] at a
    unfold Cv.num at q2 ⊢
    rw [Cv.qa] at q2
    omega
   go_wp2_with fail
   go_loopg [] 12 (fun k wx => ∃ m : Int, (k : Int) = m ∧ 1 ≤ m ∧ m ≤ 12 ∧ n < Cv.num y m 1 + Cv.dim y m ∧ wx.cell? ⟨w9.heap.size, 0, none⟩ = some (.int .i64 y) ∧ wx.cell? ⟨w9.heap.size, 1, none⟩ = some (.int .i64 m) ∧ wx.cell? ⟨w9.heap.size, 2, none⟩ = some (.int .i64 1) ∧ wx.frozen? ⟨w9.heap.size, 1, none⟩ = false ∧ wx.frozen? ⟨w9.heap.size, 2, none⟩ = false ∧ w9.heap.size < wx.heap.size ∧ Below (w.heap.size + 1) (w.alloc (.cells #[.int .i64 0, .int .i64 0, .int .i64 0] 63)) wx)
   case atStart => exact ⟨12, rfl, by omega, by omega, e12, by simp, by simp, by simp, by simp, by simp, by simp, hb.alloc (by omega) _⟩
   case round =>
    obtain ⟨m, hk, m1, m2, q3, c0, c1, c2, f1, f2, hs9, hb9⟩ := hrel
    have db := Cv.jX y m
    by_cases hn : n < Cv.num y m 1
    ·have m3 : 1 < m := by
      by_cases e : m = 1
      ·subst e; omega
      ·omega
     have e : Hid (n < Cv.num y (m - 1) 1 + Cv.dim y (m - 1)) := by
      have a := Cv.qc y (m - 1) (by omega) (by omega)
      rw [show m - 1 + 1 = m by omega] at a
      show n < Cv.num y (m - 1) 1 + Cv.dim y (m - 1)
      unfold Cv.num at hn ⊢
      omega
     have HK := hid hk
     clear hk
     go_wp2_with fail
     refine (fU _ _ _ _ (by omega) (by omega) (by omega) (by omega) (by omega) (by omega)).mono ?_
     rintro e w1 ⟨rfl, hb1⟩
     have s1 := hb1.size
     have d0 := (hb1.cell (p := ⟨w9.heap.size, 0, none⟩) hs9).trans c0
     have d1 := (hb1.cell (p := ⟨w9.heap.size, 1, none⟩) hs9).trans c1
     have d2 := (hb1.cell (p := ⟨w9.heap.size, 2, none⟩) hs9).trans c2
     have g1 := (hb1.frozen (p := ⟨w9.heap.size, 1, none⟩) hs9).trans f1
     have g2 := (hb1.frozen (p := ⟨w9.heap.size, 2, none⟩) hs9).trans f2
     clear c0 c1 c2 f1 f2
     go_wp2
     go_roundg (gk - 1)
     case measure => have := HK.out; omega
     case rel => exact ⟨m - 1, by have := HK.out; omega, by omega, by omega, e.out, by go_simp, by go_simp, by go_simp, by go_simp, by go_simp, by simp; omega, (hb9.trans (hb1.mono (by omega))).setCell (by simp; omega) _⟩
    ·have V := Cv.KD (n := n) y1 (by omega) m m1 m2 (by omega) (by omega)
     have HV := hid V
     clear V hk
     go_wp2_with fail
     refine (fU _ _ _ _ (by omega) (by omega) (by omega) (by omega) (by omega) (by omega)).mono ?_
     rintro e w1 ⟨rfl, hb1⟩
     have s1 := hb1.size
     have hs1 : w9.heap.size < w1.heap.size := by omega
     have d0 := (hb1.cell (p := ⟨w9.heap.size, 0, none⟩) hs9).trans c0
     have d1 := (hb1.cell (p := ⟨w9.heap.size, 1, none⟩) hs9).trans c1
     have d2 := (hb1.cell (p := ⟨w9.heap.size, 2, none⟩) hs9).trans c2
     have g2 := (hb1.frozen (p := ⟨w9.heap.size, 2, none⟩) hs9).trans f2
     clear c0 c1 c2 f1 f2
     go_wp2_with fail
     refine (fU _ _ _ _ (by omega) (by omega) (by omega) (by omega) (by omega) (by omega)).mono ?_
     rintro e w2 ⟨rfl, hb2⟩
     have s2 := hb2.size
     have c0 := (hb2.cell (p := ⟨w9.heap.size, 0, none⟩) hs1).trans d0
     have c1 := (hb2.cell (p := ⟨w9.heap.size, 1, none⟩) hs1).trans d1
     have c2 := (hb2.cell (p := ⟨w9.heap.size, 2, none⟩) hs1).trans d2
     have f2 := (hb2.frozen (p := ⟨w9.heap.size, 2, none⟩) hs1).trans g2
     clear d0 d1 d2 g2
     have hb3 := (hb9.trans (hb1.mono (by omega))).trans (hb2.mono (by omega))
     have r0 := hb3.cell (p := ⟨w.heap.size, 0, none⟩) (by simp)
     have r1 := hb3.cell (p := ⟨w.heap.size, 1, none⟩) (by simp)
     have r2 := hb3.cell (p := ⟨w.heap.size, 2, none⟩) (by simp)
     have z0 := hb3.frozen (p := ⟨w.heap.size, 0, none⟩) (by simp)
     have z1 := hb3.frozen (p := ⟨w.heap.size, 1, none⟩) (by simp)
     have z2 := hb3.frozen (p := ⟨w.heap.size, 2, none⟩) (by simp)
     simp at r0 r1 r2 z0 z1 z2
     have hne : w.heap.size ≠ w9.heap.size := by omega
     have hne' : w9.heap.size ≠ w.heap.size := by omega
     go_wp2
     refine bodyPost_ret (v := .agg #[.int .i64 y, .int .i64 m, .int .i64 (n - Cv.num y m 1 + 1)]) (by simp [results, Tryz.results171, go_sem, r0, r1, r2, z0, z1, z2, hne, hne']) rfl ⟨y, m, _, rfl, HV.out.1, HV.out.2, ?_⟩
     refine Below.setCell (Below.setCell (Below.setCell (Below.setCell (Below.trans ((q4B _ _).alloc (Nat.le_refl _) _) (hb3.mono (by omega))) (by simp; omega) _) (by simp) _) (by simp) _) (by simp) _
end
end Go.Proofs.YtkhlkohlccndgaaGreat
