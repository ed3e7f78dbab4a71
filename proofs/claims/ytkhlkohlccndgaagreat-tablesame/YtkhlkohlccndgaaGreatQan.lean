/- Proved: what is looked up in the table that Compile makes is what At says, whatever time it is, and a change is just where it is other than a second ahead (the law TableSame), for every source, name and time; no condition. -/
import Derived.Test.YtkhlkohlccndgaaGreatQz
import Derived.Test.YtkhlkohlccndgaaGreatQal
import Derived.Test.YtkhlkohlccndgaaGreatQaa
import Derived.ProofKit
import Derived.OpenShut
import Derived.Lib.SmallJoins
import Derived.Deep.Slices
import Derived.Deep.Strs
import Derived.Carry
import Derived.Test.YtkhlkohlccndgaaGreatQah
import Derived.Test.YtkhlkohlccndgaaGreatQam
set_option linter.unusedVariables false
set_option linter.unusedSimpArgs false
set_option maxRecDepth 100000
set_option maxHeartbeats 16000000
namespace Go.Proofs.YtkhlkohlccndgaaGreat
open Go.RowKit Go.Shelf

theorem made_of {w w0 W w1 : World} {B : Nat} {r z l : Value} {m : Int} (hm : w.cell? ⟨0, 0, none⟩ = some (.int .i64 m)) (h0 : 0 < w.heap.size) (hb : Below w.heap.size w w1) (h : OwnSrc w1 B r z l src0) : Made w1 r z l :=
 ⟨⟨B, h⟩, ⟨m, (hb.cell (p := ⟨0, 0, none⟩) h0).trans hm⟩, Nat.lt_of_lt_of_le h0 hb.size⟩
theorem made_shape {w : World} {r z l : Value} (h : Made w r z l) : ∃ ra rc za n zc la lc, r = .slice ra 2 rc ∧ z = .slice za n zc ∧ l = .slice la 1 lc := by
 obtain ⟨ra, za, la, rcap, zcap, lcap, a, c, m, rfl, rfl, rfl, hs⟩ := made_in h
 exact ⟨ra, rcap, za, 1, zcap, la, lcap, rfl, rfl, rfl⟩
theorem zoneBegun_is (m : Int) (w : World) (hm : w.cell? ⟨0, 0, none⟩ = some (.int .i64 m)) (h0 : 0 < w.heap.size) : Calls Tryz.prog 13 #[] w fun e w' => e = .returned (.bool true) ∧ Below w.heap.size w w' := by
 have HM := hid hm
 have H0 := hid h0
 clear hm h0
 have BW0 := hid (Below.refl w.heap.size w)
 go_enter Tryz.func13, Tryz.ntmps13
 go_wp2_with fail
 refine (parsed_any _).mono ?_
 rintro e p0 ⟨r, z, l, rfl, hown, hb⟩
 have C0 : Hid (Below w.heap.size w p0) := BW0.out.trans (hb.mono BW0.out.size)
 have M0 := hid (made_of (w0 := w) (W := w) HM.out H0.out C0.out hown)
 obtain ⟨ra, rc, za, zn, zc, la, lc, rfl, rfl, rfl⟩ := made_shape M0.out
 clear hown hb 
 go_wp2_with fail
 refine (zFind0 M0.out).mono ?_
 rintro e x0 ⟨v0, rfl, hO, hb⟩
 obtain ⟨za, zc, rfl⟩ := owns_shape0 hO
 have D0 : Hid (Below w.heap.size w x0) := C0.out.trans (hb.mono C0.out.size)
 clear hb C0 M0 hO BW0
 obtain ⟨y0, hy0⟩ : ∃ y0, x0.alloc (.cells ([strV townB, .slice za town0.eras.length zc] : List Value).toArray 44) = y0 := ⟨_, rfl⟩
 have ZC : Hid (CellsAt y0 x0.heap.size [strV townB, .slice za town0.eras.length zc]) := by show CellsAt _ _ _; rw [← hy0]; exact ca_new x0 [strV townB, .slice za town0.eras.length zc] 44
 have E0 : Hid (Below w.heap.size w y0) := by show Below _ _ _; rw [← hy0]; exact D0.out.alloc D0.out.size _
 have gy0 : x0.alloc (.cells #[strV townB, .slice za town0.eras.length zc] 44) = y0 := hy0
 simp only [strV] at gy0
 clear D0
 clear hy0
 go_wp2_with fail
 refine (parsed_any _).mono ?_
 rintro e p1 ⟨r, z, l, rfl, hown, hb⟩
 have C1 : Hid (Below w.heap.size w p1) := E0.out.trans (hb.mono E0.out.size)
 have M1 := hid (made_of (w0 := w) (W := w) HM.out H0.out C1.out hown)
 obtain ⟨ra, rc, za, zn, zc, la, lc, rfl, rfl, rfl⟩ := made_shape M1.out
 have ZCp := hid (ca_below ZC.out hb)
 clear hown hb ZC
 go_wp2_with fail
 refine (zEnds0 M1.out).mono ?_
 rintro e x1 ⟨v1, rfl, hO, hb⟩
 have RL := hid (ownEnds_rd hO)
 obtain ⟨ea, ec, rfl⟩ := owns_shape0 hO
 have D1 : Hid (Below w.heap.size w x1) := C1.out.trans (hb.mono C1.out.size)
 have ZC := hid (ca_below ZCp.out hb)
 clear ZCp hb C1 M1 hO E0
 go_wp2_with fail
 refine (parsed_any _).mono ?_
 rintro e p2 ⟨r, z, l, rfl, hown, hb⟩
 have C2 : Hid (Below w.heap.size w p2) := D1.out.trans (hb.mono D1.out.size)
 have M2 := hid (made_of (w0 := w) (W := w) HM.out H0.out C2.out hown)
 obtain ⟨ra, rc, za, zn, zc, la, lc, rfl, rfl, rfl⟩ := made_shape M2.out
 have ZCp := hid (ca_below ZC.out hb)
 have RLp := hid (rd_below RL.out hb)
 clear hown hb ZC RL
 go_wp2_with fail
 refine (zAt0 M2.out).mono ?_
 rintro e x2 ⟨rfl, hb⟩
 have D2 : Hid (Below w.heap.size w x2) := C2.out.trans (hb.mono C2.out.size)
 have ZC := hid (ca_below ZCp.out hb)
 have RL := hid (rd_below RLp.out hb)
 clear ZCp RLp hb C2 M2 D1
 obtain ⟨y2, hy2⟩ : ∃ y2, x2.alloc (.cells ([.int .i64 7200, .int .i64 3600, strV [67, 69, 83, 84]] : List Value).toArray 31) = y2 := ⟨_, rfl⟩
 have LA : Hid (CellsAt y2 x2.heap.size [.int .i64 7200, .int .i64 3600, strV [67, 69, 83, 84]]) := by show CellsAt _ _ _; rw [← hy2]; exact ca_new x2 [.int .i64 7200, .int .i64 3600, strV [67, 69, 83, 84]] 31
 have ZCq := hid (ca_below ZC.out (show Below x2.heap.size x2 y2 by rw [← hy2]; exact (Below.refl _ _).alloc (Nat.le_refl _) _))
 clear ZC
 have ZC := ZCq
 clear ZCq
 have RLq := hid (rd_below RL.out (show Below x2.heap.size x2 y2 by rw [← hy2]; exact (Below.refl _ _).alloc (Nat.le_refl _) _))
 clear RL
 have RL := RLq
 clear RLq
 have E2 : Hid (Below w.heap.size w y2) := by show Below _ _ _; rw [← hy2]; exact D2.out.alloc D2.out.size _
 have gy2 : x2.alloc (.cells #[.int .i64 7200, .int .i64 3600, strV [67, 69, 83, 84]] 31) = y2 := hy2
 simp only [strV] at gy2
 clear D2
 clear hy2
 go_wp2_with fail
 refine (parsed_any _).mono ?_
 rintro e p3 ⟨r, z, l, rfl, hown, hb⟩
 have C3 : Hid (Below w.heap.size w p3) := E2.out.trans (hb.mono E2.out.size)
 have M3 := hid (made_of (w0 := w) (W := w) HM.out H0.out C3.out hown)
 obtain ⟨ra, rc, za, zn, zc, la, lc, rfl, rfl, rfl⟩ := made_shape M3.out
 have ZCp := hid (ca_below ZC.out hb)
 have RLp := hid (rd_below RL.out hb)
 have LAp := hid (ca_below LA.out hb)
 clear hown hb ZC RL LA
 go_wp2_with fail
 refine (zAt0b M3.out).mono ?_
 rintro e x3 ⟨rfl, hb⟩
 have D3 : Hid (Below w.heap.size w x3) := C3.out.trans (hb.mono C3.out.size)
 have ZC := hid (ca_below ZCp.out hb)
 have RL := hid (rd_below RLp.out hb)
 have LA := hid (ca_below LAp.out hb)
 clear ZCp RLp LAp hb C3 M3 E2
 obtain ⟨y3, hy3⟩ : ∃ y3, x3.alloc (.cells ([.int .i64 3600, .int .i64 0, strV [67, 69, 84]] : List Value).toArray 31) = y3 := ⟨_, rfl⟩
 have LB : Hid (CellsAt y3 x3.heap.size [.int .i64 3600, .int .i64 0, strV [67, 69, 84]]) := by show CellsAt _ _ _; rw [← hy3]; exact ca_new x3 [.int .i64 3600, .int .i64 0, strV [67, 69, 84]] 31
 have ZCq := hid (ca_below ZC.out (show Below x3.heap.size x3 y3 by rw [← hy3]; exact (Below.refl _ _).alloc (Nat.le_refl _) _))
 clear ZC
 have ZC := ZCq
 clear ZCq
 have RLq := hid (rd_below RL.out (show Below x3.heap.size x3 y3 by rw [← hy3]; exact (Below.refl _ _).alloc (Nat.le_refl _) _))
 clear RL
 have RL := RLq
 clear RLq
 have LAq := hid (ca_below LA.out (show Below x3.heap.size x3 y3 by rw [← hy3]; exact (Below.refl _ _).alloc (Nat.le_refl _) _))
 clear LA
 have LA := LAq
 clear LAq
 have E3 : Hid (Below w.heap.size w y3) := by show Below _ _ _; rw [← hy3]; exact D3.out.alloc D3.out.size _
 have gy3 : x3.alloc (.cells #[.int .i64 3600, .int .i64 0, strV [67, 69, 84]] 31) = y3 := hy3
 simp only [strV] at gy3
 clear D3
 clear hy3
 go_wp2_with fail
 refine (parsed_any _).mono ?_
 rintro e p4 ⟨r, z, l, rfl, hown, hb⟩
 have C4 : Hid (Below w.heap.size w p4) := E3.out.trans (hb.mono E3.out.size)
 have M4 := hid (made_of (w0 := w) (W := w) HM.out H0.out C4.out hown)
 obtain ⟨ra, rc, za, zn, zc, la, lc, rfl, rfl, rfl⟩ := made_shape M4.out
 have ZCp := hid (ca_below ZC.out hb)
 have RLp := hid (rd_below RL.out hb)
 have LAp := hid (ca_below LA.out hb)
 have LBp := hid (ca_below LB.out hb)
 clear hown hb ZC RL LA LB
 go_wp2_with fail
 refine (zAtN M4.out).mono ?_
 rintro e x4 ⟨rfl, hb⟩
 rw [show lcV lc0 = .agg #[.int .i64 0, .int .i64 0, .string ⟨#[]⟩] from rfl]
 have D4 : Hid (Below w.heap.size w x4) := C4.out.trans (hb.mono C4.out.size)
 have ZC := hid (ca_below ZCp.out hb)
 have RL := hid (rd_below RLp.out hb)
 have LA := hid (ca_below LAp.out hb)
 have LB := hid (ca_below LBp.out hb)
 clear ZCp RLp LAp LBp hb C4 M4 E3
 go_wp2_with fail
 obtain ⟨y4, hy4⟩ : ∃ y4, x4.alloc (.cells ([.int .i64 0, .int .i64 0, .string ⟨#[]⟩] : List Value).toArray 31) = y4 := ⟨_, rfl⟩
 have LN : Hid (CellsAt y4 x4.heap.size [.int .i64 0, .int .i64 0, .string ⟨#[]⟩]) := by show CellsAt _ _ _; rw [← hy4]; exact ca_new x4 [.int .i64 0, .int .i64 0, .string ⟨#[]⟩] 31
 have ZCq := hid (ca_below ZC.out (show Below x4.heap.size x4 y4 by rw [← hy4]; exact (Below.refl _ _).alloc (Nat.le_refl _) _))
 clear ZC
 have ZC := ZCq
 clear ZCq
 have RLq := hid (rd_below RL.out (show Below x4.heap.size x4 y4 by rw [← hy4]; exact (Below.refl _ _).alloc (Nat.le_refl _) _))
 clear RL
 have RL := RLq
 clear RLq
 have LAq := hid (ca_below LA.out (show Below x4.heap.size x4 y4 by rw [← hy4]; exact (Below.refl _ _).alloc (Nat.le_refl _) _))
 clear LA
 have LA := LAq
 clear LAq
 have LBq := hid (ca_below LB.out (show Below x4.heap.size x4 y4 by rw [← hy4]; exact (Below.refl _ _).alloc (Nat.le_refl _) _))
 clear LB
 have LB := LBq
 clear LBq
 have E4 : Hid (Below w.heap.size w y4) := by show Below _ _ _; rw [← hy4]; exact D4.out.alloc D4.out.size _
 rw [show x4.alloc (.cells #[.int .i64 0, .int .i64 0, .string ⟨#[]⟩] 31) = y4 from hy4]
 clear D4
 refine (parsed_any _).mono ?_
 rintro e p5 ⟨r, z, l, rfl, hown, hb⟩
 have C5 : Hid (Below w.heap.size w p5) := E4.out.trans (hb.mono E4.out.size)
 have M5 := hid (made_of (w0 := w) (W := w) HM.out H0.out C5.out hown)
 obtain ⟨ra, rc, za, zn, zc, la, lc, rfl, rfl, rfl⟩ := made_shape M5.out
 have ZCp := hid (ca_below ZC.out hb)
 have RLp := hid (rd_below RL.out hb)
 have LAp := hid (ca_below LA.out hb)
 have LBp := hid (ca_below LB.out hb)
 have LNp := hid (ca_below LN.out hb)
 clear hown hb ZC RL LA LB LN
 go_wp2_with fail
 refine (zCheck0 M5.out).mono ?_
 rintro e x5 ⟨rfl, hb⟩
 have D5 : Hid (Below w.heap.size w x5) := C5.out.trans (hb.mono C5.out.size)
 have ZC := hid (ca_below ZCp.out hb)
 have RL := hid (rd_below RLp.out hb)
 have LA := hid (ca_below LAp.out hb)
 have LB := hid (ca_below LBp.out hb)
 have LN := hid (ca_below LNp.out hb)
 clear ZCp RLp LAp LBp LNp hb C5 M5 E4
 obtain ⟨z0, _⟩ := ca_at ZC.out 0 rfl
 obtain ⟨a0, _⟩ := ca_at LA.out 0 rfl
 obtain ⟨a1, _⟩ := ca_at LA.out 1 rfl
 obtain ⟨a2, _⟩ := ca_at LA.out 2 rfl
 obtain ⟨b0, _⟩ := ca_at LB.out 0 rfl
 obtain ⟨b1, _⟩ := ca_at LB.out 1 rfl
 obtain ⟨b2, _⟩ := ca_at LB.out 2 rfl
 have sz := ZC.out.1
 have sa := LA.out.1
 have sb := LB.out.1
 obtain ⟨rb, ro, rfl, hrb, hc⟩ := rd_elem RL.out (i := 0) (x := (-2840141400 : Int)) rfl
 have c0 : x5.cell? ⟨rb, ro, none⟩ = some (.int .i64 (-2840141400)) := by have := hc 0 _ rfl; simpa using this
 clear hc RL ZC LA LB LN
 simp only [strV, townB] at z0 a2 b2
 go_wp2
 go_ret
 exact ⟨rfl, D5.out⟩
end Go.Proofs.YtkhlkohlccndgaaGreat
namespace Go.Proofs.YtkhlkohlccndgaaGreat
open Go.RowKit Go.Shelf
end Go.Proofs.YtkhlkohlccndgaaGreat
namespace Go.Proofs.YtkhlkohlccndgaaGreat
open Go.RowKit Go.Shelf
theorem times_there {s : Sx.Sr} {xs : List ZV} (h : zoneErr s xs = 0) {e : Sx.Er} (he : e ∈ erasOf xs) (hr : e.rules ≠ []) : Sx.timesE s.rules e.rules e.shift = 0 := by
 have c3 : askE s.rules (erasOf xs) = 0 := errs_zero h 3 (by omega)
 rcases askE_mem c3 e he with q | q
 ·exact absurd q hr
 ·exact q
theorem zoneZ_is {s : Sx.Sr} {xs : List ZV} {nm : Tx.Bs} (h : zoneF s xs nm = 0) : zoneZ s xs nm = (zvAt xs (nameTo s.links nm)).z := by
 unfold zoneZ findZ
 rw [show findE (zoneErr s xs) xs s.links nm = 0 from h]
 rfl
theorem zvAt_in {xs : List ZV} {n : Tx.Bs} (h : zvHas xs n = true) : zvAt xs n ∈ xs ∧ (zvAt xs n).z.name = n := by
 unfold zvHas at h
 obtain ⟨p, hp, e⟩ := List.any_eq_true.1 h
 unfold zvAt
 cases hf : xs.find? (fun p => p.z.name == n) with
 | none => rw [List.find?_eq_none] at hf; exact absurd e (hf p hp)
 | some y =>
   have h1 := List.mem_of_find?_eq_some hf
   have h2 := List.find?_some hf
   exact ⟨h1, by simpa using h2⟩
theorem era_of {xs : List ZV} {n : Tx.Bs} (h : zvHas xs n = true) {e : Sx.Er} (he : e ∈ (zvAt xs n).z.eras) : e ∈ erasOf xs := List.mem_flatMap.2 ⟨_, (zvAt_in h).1, he⟩
end Go.Proofs.YtkhlkohlccndgaaGreat
namespace Go.Proofs.YtkhlkohlccndgaaGreat
open Go.RowKit Go.Shelf
/- all eras but the last have an end -/
def LastO : List Sx.Er → Prop
 | [] => False
 | [a] => a.opn = true
 | a :: b :: r => a.opn = false ∧ LastO (b :: r)
theorem opn_of {x : Sx.Er} {b : Bool} (h : Sx.eraE x b = 0) : x.opn = b := by
 unfold Sx.eraE at h
 split at h
 ·cases h
 split at h
 ·cases h
 split at h
 ·cases h
 split at h
 ·cases h
 split at h
 ·cases h
 rename_i q
 simpa using q
theorem lastO_of : ∀ {l : List Sx.Er}, l ≠ [] → Sx.erasE l = 0 → LastO l
 | [], h, _ => absurd rfl h
 | [a], _, h => opn_of (b := true) h
 | a :: b :: r, _, h => by
   have h' : (if Sx.eraE a false ≠ 0 then Sx.eraE a false else Sx.erasE (b :: r)) = 0 := h
   by_cases q : Sx.eraE a false = 0
   ·rw [if_neg (by simp [q])] at h'
    exact ⟨opn_of q, lastO_of (by simp) h'⟩
   ·rw [if_pos q] at h'; exact absurd h' q
theorem lastO_zone {z : Sx.Zn} (h : Sx.zoneE z = 0) : LastO z.eras := by
 unfold Sx.zoneE at h
 split at h
 ·cases h
 ·rename_i q
  refine lastO_of (fun e => ?_) h
  rw [e] at q; simp at q
end Go.Proofs.YtkhlkohlccndgaaGreat
namespace Go.Proofs.YtkhlkohlccndgaaGreat.Tb
/- each later than what is ahead, and other than it -/
def Stp (was : Lc) (p : Int) : List Cg → Prop
 | [] => True
 | c :: r => p < c.at_ ∧ ¬ c.lc = was ∧ Stp c.lc c.at_ r
theorem lookL_snoc (c : Cg) (n : Int) : ∀ (l : List Cg) (o : Lc), lookL o n (l ++ [c]) = if c.at_ ≤ n then c.lc else lookL o n l
 | [], o => rfl
 | d :: r, o => lookL_snoc c n r _
theorem lastL_cons (o : Lc) (c : Cg) (r : List Cg) : lastL o (c :: r) = lastL c.lc r := by
 unfold lastL
 cases r with
 | nil => rfl
 | cons d r => rw [List.getLast?_cons_cons]; cases h : (d :: r).getLast? with
   | none => simp at h
   | some x => rfl
theorem lookL_last (n : Int) : ∀ (l : List Cg) (o : Lc), (∀ c ∈ l, c.at_ ≤ n) → lookL o n l = lastL o l
 | [], o, _ => rfl
 | c :: r, o, h => by
   rw [lastL_cons]
   show lookL (if c.at_ ≤ n then c.lc else o) n r = _
   rw [if_pos (h c (by simp)), lookL_last n r _ fun d hd => h d (List.mem_cons_of_mem _ hd)]
theorem stp_late : ∀ {l : List Cg} {o : Lc} {p : Int}, Stp o p l → ∀ c ∈ l, p < c.at_
 | c :: r, o, p, h, d, hd => by
   rcases List.mem_cons.1 hd with rfl | hd
   ·exact h.1
   ·exact Int.lt_trans h.1 (stp_late h.2.2 d hd)
theorem stp_snoc {c : Cg} : ∀ {l : List Cg} {o : Lc} {p : Int}, Stp o p l → (∀ d ∈ l, d.at_ < c.at_) → p < c.at_ → ¬ c.lc = lastL o l → Stp o p (l ++ [c])
 | [], o, p, _, _, h, hn => ⟨h, hn, trivial⟩
 | d :: r, o, p, hs, hl, h, hn => ⟨hs.1, hs.2.1, stp_snoc hs.2.2 (fun e he => hl e (List.mem_cons_of_mem _ he)) (hl d (by simp)) (by rw [← lastL_cons]; exact hn)⟩
theorem stp_go : ∀ {l : List Cg} {o : Lc} {p : Int} (q : Option Int), Stp o p l → least ≤ p → (∀ n, q = some n → n = p) → (∀ c ∈ l, c.at_ ≤ most ∧ localE c.lc = 0) → goE o q l = 0
 | [], _, _, _, _, _, _, _ => rfl
 | c :: r, o, p, q, h, h0, hq, hl => by
   obtain ⟨a, b⟩ := hl c (by simp)
   have hp := h.1
   rw [goE_5 (by simp [Sx.inB]; omega) ?_ b h.2.1]
   ·exact stp_go (some c.at_) h.2.2 (by omega) (fun n e => by cases e; rfl) fun d hd => hl d (List.mem_cons_of_mem _ hd)
   ·cases q with
    | none => rfl
    | some n => have := hq n rfl; subst this; unfold late; simp; omega
/- a change is there just where what is looked up is other than a second ahead -/
theorem stp_there (n : Int) : ∀ {l : List Cg} {o : Lc} {p : Int}, Stp o p l → p < n → ((∃ c ∈ l, c.at_ = n) ↔ ¬ lookL o n l = lookL o (n - 1) l)
 | [], o, p, _, _ => by simp [lookL]
 | c :: r, o, p, h, hp => by
   have hl : ∀ d ∈ r, c.at_ < d.at_ := stp_late h.2.2
   have none (k : Int) (u : Lc) (hk : ∀ d ∈ r, k < d.at_) : lookL u k r = u := by
    have : ∀ (r : List Cg) (u : Lc), (∀ d ∈ r, k < d.at_) → lookL u k r = u := by
     intro r
     induction r with
     | nil => intro u _; rfl
     | cons d r ih =>
       intro u hk
       show lookL (if d.at_ ≤ k then d.lc else u) k r = u
       rw [if_neg (by have := hk d (by simp); omega)]
       exact ih u fun e he => hk e (List.mem_cons_of_mem _ he)
    exact this r u hk
   rcases Int.lt_trichotomy c.at_ n with q | q | q
   ·have ih := stp_there n h.2.2 q
    have e1 : lookL o n (c :: r) = lookL c.lc n r := by show lookL (if c.at_ ≤ n then c.lc else o) n r = _; rw [if_pos (by omega)]
    have e2 : lookL o (n - 1) (c :: r) = lookL c.lc (n - 1) r := by show lookL (if c.at_ ≤ n - 1 then c.lc else o) (n - 1) r = _; rw [if_pos (by omega)]
    rw [e1, e2, ← ih]
    constructor
    ·rintro ⟨d, hd, e⟩
     rcases List.mem_cons.1 hd with rfl | hd
     ·omega
     ·exact ⟨d, hd, e⟩
    ·rintro ⟨d, hd, e⟩; exact ⟨d, List.mem_cons_of_mem _ hd, e⟩
   ·have e1 : lookL o n (c :: r) = c.lc := by show lookL (if c.at_ ≤ n then c.lc else o) n r = _; rw [if_pos (by omega)]; exact none n _ fun d hd => by have := hl d hd; omega
    have e2 : lookL o (n - 1) (c :: r) = o := by show lookL (if c.at_ ≤ n - 1 then c.lc else o) (n - 1) r = _; rw [if_neg (by omega)]; exact none _ _ fun d hd => by have := hl d hd; omega
    rw [e1, e2]
    exact ⟨fun _ => h.2.1, fun _ => ⟨c, by simp, q⟩⟩
   ·have e1 : lookL o n (c :: r) = o := by show lookL (if c.at_ ≤ n then c.lc else o) n r = _; rw [if_neg (by omega)]; exact none _ _ fun d hd => by have := hl d hd; omega
    have e2 : lookL o (n - 1) (c :: r) = o := by show lookL (if c.at_ ≤ n - 1 then c.lc else o) (n - 1) r = _; rw [if_neg (by omega)]; exact none _ _ fun d hd => by have := hl d hd; omega
    rw [e1, e2]
    simp
    exact ⟨by omega, fun d hd => by have := hl d hd; omega⟩
end Go.Proofs.YtkhlkohlccndgaaGreat.Tb
namespace Go.Proofs.YtkhlkohlccndgaaGreat
open Go.RowKit Go.Shelf
/- a maker's state says what g says, from the first time on up to q; of at most k things put -/
structure Rep (g : Int → Tb.Lc) (q : Int) (k : Nat) (s : Ms) : Prop where
 none : q ≤ -62135596800 → s.ch = []
 some : -62135596800 < q → s.ch.length + 1 ≤ k
 look : ∀ a, -62135596800 ≤ a → a < q → Tb.lookL s.f a s.ch = g a
 stp : Tb.Stp s.f (-62135596800) s.ch
 til : ∀ c ∈ s.ch, c.at_ < q
theorem rep_more {g : Int → Tb.Lc} {q : Int} {k j : Nat} {s : Ms} (h : Rep g q k s) (hj : k ≤ j) : Rep g q j s := ⟨h.none, fun a => Nat.le_trans (h.some a) hj, h.look, h.stp, h.til⟩
theorem rep_start (g : Int → Tb.Lc) {q : Int} (k : Nat) {s : Ms} (hq : q ≤ -62135596800) (hs : s.ch = []) : Rep g q k s :=
 ⟨fun _ => hs, fun h => by omega, fun a _ _ => by omega, by rw [hs]; trivial, by rw [hs]; intro c hc; cases hc⟩
theorem rep_put {g : Int → Tb.Lc} {q e : Int} {k : Nat} {s : Ms} {l : Tb.Lc} (h : Rep g q k s) (h0 : -62135596800 ≤ q) (he : q < e) (hg : ∀ a, q ≤ a → a < e → g a = l) : Rep g e (k + 1) (putM q l s) := by
 unfold putM
 by_cases c1 : q = -62135596800
 ·rw [if_pos c1]
  have hn := h.none (by omega)
  refine ⟨fun w => by omega, fun _ => by dsimp only; rw [hn]; simp, fun a h1 h2 => ?_, ?_, ?_⟩
  ·dsimp only; rw [hn]; exact (hg a (by omega) h2).symm
  ·dsimp only; rw [hn]; trivial
  ·dsimp only; rw [hn]; intro c hc; cases hc
 rw [if_neg c1]
 have hs := h.some (by omega)
 by_cases c2 : l = lastL s.f s.ch
 ·rw [if_pos c2]
  refine ⟨fun w => by omega, fun _ => by omega, fun a h1 h2 => ?_, h.stp, fun c hc => Int.lt_trans (h.til c hc) he⟩
  by_cases w : a < q
  ·exact h.look a h1 w
  ·rw [Tb.lookL_last a s.ch s.f fun c hc => by have := h.til c hc; omega, hg a (by omega) h2, c2]
 ·rw [if_neg c2]
  refine ⟨fun w => by omega, fun _ => by dsimp only; rw [List.length_append]; simp; omega, fun a h1 h2 => ?_, Tb.stp_snoc h.stp (fun d hd => h.til d hd) (by dsimp only; omega) c2, fun c hc => ?_⟩
  ·dsimp only
   rw [Tb.lookL_snoc]
   dsimp only
   by_cases w : q ≤ a
   ·rw [if_pos w, hg a w h2]
   ·rw [if_neg w]; exact h.look a h1 (by omega)
  ·rcases List.mem_append.1 hc with hc | hc
   ·exact Int.lt_trans (h.til c hc) he
   ·rw [List.mem_singleton] at hc; subst hc; exact he
/- the last of times that is no later -/
def curT (a : Int) (t : Sx.Tm) (l : List Sx.Tm) : Sx.Tm := l.foldl (fun b x => if x.at_ ≤ a then x else b) t
theorem curT_none (a : Int) : ∀ (l : List Sx.Tm) (t : Sx.Tm), (∀ u ∈ l, a < u.at_) → curT a t l = t
 | [], t, _ => rfl
 | u :: r, t, h => by
   show curT a (if u.at_ ≤ a then u else t) r = t
   rw [if_neg (by have := h u (by simp); omega)]
   exact curT_none a r t fun v hv => h v (List.mem_cons_of_mem _ hv)
theorem curT_next {a : Int} {t u : Sx.Tm} {r : List Sx.Tm} (h : u.at_ ≤ a) : curT a t (u :: r) = curT a u r := by
 show curT a (if u.at_ ≤ a then u else t) r = _
 rw [if_pos h]
theorem curT_either (a : Int) : ∀ (l : List Sx.Tm) (t v : Sx.Tm), curT a t l = curT a v l ∨ (curT a t l = t ∧ curT a v l = v)
 | [], t, v => .inr ⟨rfl, rfl⟩
 | u :: r, t, v => by
   by_cases h : u.at_ ≤ a
   ·rw [curT_next h, curT_next h]; exact .inl rfl
   ·have e (w : Sx.Tm) : curT a w (u :: r) = curT a w r := by show curT a (if u.at_ ≤ a then u else w) r = _; rw [if_neg h]
    rw [e, e]; exact curT_either a r t v
theorem lastT_cur (a : Int) (l : List Sx.Tm) : lastT (fun t => decide (t.at_ ≤ a)) l = curT a zeroT l := by
 unfold lastT curT
 have : (fun b x : Sx.Tm => if decide (x.at_ ≤ a) = true then x else b) = fun b x => if x.at_ ≤ a then x else b := by funext b x; simp
 rw [this]
theorem rep_era {g : Int → Tb.Lc} {x : Sx.Er} {frm til : Int} : ∀ (r : List Sx.Tm) (t : Sx.Tm) (k : Nat) (s : Ms), (t :: r).Pairwise (fun u v => u.at_ < v.at_) → -62135596800 ≤ t.at_ →
  (∀ a, -62135596800 ≤ a → frm ≤ a → t.at_ ≤ a → a < til → g a = localOf x (curT a t r)) → Rep g (min til (max frm t.at_)) k s → Rep g til (k + (t :: r).length) (eraGo x frm til (t :: r) s)
 | [], t, k, s, hs, h0, hg, h => by
   rw [eraGo_cons]
   show Rep g til (k + 1) (if max frm t.at_ < til then putM (max frm t.at_) (localOf x t) s else s)
   by_cases q : max frm t.at_ < til
   ·rw [if_pos q]
    rw [show min til (max frm t.at_) = max frm t.at_ by omega] at h
    exact rep_put h (by omega) q fun a h1 h2 => hg a (by omega) (by omega) (by omega) h2
   ·rw [if_neg q]
    rw [show min til (max frm t.at_) = til by omega] at h
    exact rep_more h (by omega)
 | u :: r, t, k, s, hs, h0, hg, h => by
   rw [eraGo_cons]
   have htu : t.at_ < u.at_ := (List.pairwise_cons.1 hs).1 u (by simp)
   have hs' := (List.pairwise_cons.1 hs).2
   have G' : ∀ a, -62135596800 ≤ a → frm ≤ a → u.at_ ≤ a → a < til → g a = localOf x (curT a u r) := fun a h1 h2 h3 h4 => by
    rw [hg a h1 h2 (by omega) h4, curT_next h3]
   have hk : k + (t :: u :: r).length = (k + 1) + (u :: r).length := by simp; omega
   rw [hk]
   refine rep_era r u (k + 1) _ hs' (by omega) G' ?_
   show Rep g (min til (max frm u.at_)) (k + 1) (if max frm t.at_ < min til u.at_ then putM (max frm t.at_) (localOf x t) s else s)
   by_cases q : max frm t.at_ < min til u.at_
   ·rw [if_pos q]
    rw [show min til (max frm t.at_) = max frm t.at_ by omega] at h
    rw [show min til (max frm u.at_) = min til u.at_ by omega]
    refine rep_put h (by omega) q fun a h1 h2 => ?_
    rw [hg a (by omega) (by omega) (by omega) (by omega), curT_none a (u :: r) t]
    intro v hv
    rcases List.mem_cons.1 hv with rfl | hv
    ·omega
    ·have := (List.pairwise_cons.1 hs').1 v hv; omega
   ·rw [if_neg q]
    rw [show min til (max frm t.at_) = min til (max frm u.at_) by omega] at h
    exact rep_more h (by omega)
/- of an era: its times rise, and with rules nothing is saved of its own -/
structure EraT (rs : List Sx.Rl) (x : Sx.Er) : Prop where
 rise : (eraT rs x).Pairwise (fun u v => u.at_ < v.at_)
 nil : x.rules ≠ [] → x.save = 0
theorem saved_cur {rs : List Sx.Rl} {x : Sx.Er} (h : EraT rs x) (a : Int) : localOf x (savedT rs x a) = localOf x (curT a ⟨-62135596800, x.save, []⟩ (if x.rules = [] then [] else Sx.times rs x.rules x.shift)) := by
 unfold savedT
 by_cases q : x.rules = []
 ·rw [if_pos q, if_pos q]; rfl
 ·rw [if_neg q, if_neg q, lastT_cur]
  rcases curT_either a (Sx.times rs x.rules x.shift) zeroT ⟨-62135596800, x.save, []⟩ with w | ⟨w1, w2⟩
  ·rw [w]
  ·rw [w1, w2, h.nil q]; rfl
def cntZ (rs : List Sx.Rl) : List Sx.Er → Nat
 | [] => 0
 | x :: r => (eraT rs x).length + cntZ rs r
theorem localE_era {rs : List Sx.Rl} {z : Sx.Zn} {x : Sx.Er} {a : Int} (h : eraAt z a = x) : localE rs z a = localOf x (savedT rs x a) := by unfold localE; rw [h]; rfl
theorem rep_zone {rs : List Sx.Rl} {g : Int → Tb.Lc} : ∀ (es : List Sx.Er) (f : Int) (k : Nat) (s : Ms), LastO es → risingB (endsE es) = true → (∀ x ∈ es, EraT rs x) → (f ≤ -62135596800 ∨ f ≤ endZ (endsE es)) →
  (∀ a, -62135596800 ≤ a → f ≤ a → a < 253402300800 → g a = localE rs ⟨[], es⟩ a) → Rep g f k s → Rep g 253402300800 (k + cntZ rs es) (zoneGo rs f es (endsE es) s)
 | [], _, _, _, h, _, _, _, _, _ => h.elim
 | [x], f, k, s, ho, hr, he, hf, hg, h => by
   have hx : x.opn = true := ho
   have e0 : endsE [x] = [] := by simp [endsE, hx]
   rw [e0] at hf ⊢
   rw [zoneGo_cons]
   show Rep g 253402300800 _ (eraGo x f 253402300800 (eraT rs x) s)
   have hE := he x (by simp)
   show Rep g 253402300800 (k + ((eraT rs x).length + 0)) _
   refine rep_era _ _ k s hE.rise (Int.le_refl _) (fun a h1 h2 h3 h4 => ?_) ?_
   ·rw [hg a h1 h2 h4, localE_era (x := x) (by simp [eraAt, List.find?_cons, hx]), saved_cur hE]
   ·by_cases q : f ≤ -62135596800
    ·exact rep_start _ _ (by dsimp only; omega) (h.none q)
    ·rcases hf with hf | hf
     ·exact absurd hf q
     ·rw [show min 253402300800 (max f (-62135596800)) = f by have : endZ [] = 253402300800 := rfl; omega]; exact h
 | x :: y :: r, f, k, s, ho, hr, he, hf, hg, h => by
   have e0 : endsE (x :: y :: r) = endAt x :: endsE (y :: r) := by simp [endsE, List.filter_cons, ho.1]
   rw [e0] at hr hf ⊢
   rw [zoneGo_cons]
   have hE := he x (by simp)
   have eT : endZ (endAt x :: endsE (y :: r)) = min 253402300800 (endAt x) := rfl
   rw [eT] at hf ⊢
   show Rep g 253402300800 _ (zoneGo rs (min 253402300800 (endAt x)) (y :: r) (endsE (y :: r)) _)
   have hk : k + cntZ rs (x :: y :: r) = (k + (eraT rs x).length) + cntZ rs (y :: r) := by show k + ((eraT rs x).length + cntZ rs (y :: r)) = _; omega
   rw [hk]
   have hr' : risingB (endsE (y :: r)) = true ∧ endAt x ≤ endZ (endsE (y :: r)) ∨ risingB (endsE (y :: r)) = true ∧ 253402300800 ≤ endZ (endsE (y :: r)) := by
    cases hc : endsE (y :: r) with
    | nil => exact .inr ⟨rfl, Int.le_refl _⟩
    | cons n l =>
      rw [hc] at hr
      simp [risingB] at hr
      by_cases q : endAt x ≤ 253402300800
      ·refine .inl ⟨hr.2, ?_⟩
       show _ ≤ min 253402300800 n
       omega
      ·refine .inr ⟨hr.2, ?_⟩
       show _ ≤ min 253402300800 n
       omega
   refine rep_zone (y :: r) _ _ _ ho.2 (hr'.elim (·.1) (·.1)) (fun z hz => he z (List.mem_cons_of_mem _ hz)) (.inr (by rcases hr' with q | q <;> omega)) (fun a h1 h2 h3 => ?_) ?_
   ·rw [hg a h1 (by
     rcases hf with q | q <;> omega) h3]
    have e : eraAt ⟨[], x :: y :: r⟩ a = eraAt ⟨[], y :: r⟩ a := by
     have hb : (x.opn || decide (a < endAt x)) = false := by simp [ho.1]; omega
     unfold eraAt; rw [List.find?_cons, hb]
    rw [localE_era e, localE_era rfl]
   ·refine rep_era _ _ k s hE.rise (Int.le_refl _) (fun a h1 h2 h3 h4 => ?_) ?_
    ·rw [hg a h1 h2 (by omega), localE_era (x := x) ?_, saved_cur hE]
     have hb : (x.opn || decide (a < endAt x)) = true := by simp [ho.1]; omega
     unfold eraAt; rw [List.find?_cons, hb]; rfl
    ·by_cases q : f ≤ -62135596800
     ·exact rep_start _ _ (by dsimp only; omega) (h.none q)
     ·rcases hf with hf | hf
      ·exact absurd hf q
      ·dsimp only
       rw [show min (min 253402300800 (endAt x)) (max f (-62135596800)) = f by omega]; exact h
end Go.Proofs.YtkhlkohlccndgaaGreat
namespace Go.Proofs.YtkhlkohlccndgaaGreat.Sx
theorem turns_from {rs : List Rl} {name : Tx.Bs} (h : ∀ r ∈ rs, RuleOk r) : ∀ t ∈ turnsOf rs name, -3456000000 ≤ t.stands := by
 intro t ht
 simp only [turnsOf, List.mem_flatMap, List.mem_filter, turnsR, List.mem_map, List.mem_range] at ht
 obtain ⟨r, ⟨hr, _⟩, k, hk, rfl⟩ := ht
 have ok := h r hr
 have h1 := ok.frm
 have h2 := ok.le
 have h3 := ok.to
 have h4 := ok.at_
 simp only [many] at hk
 have b := (on_year ok (y := r.frm + (k : Int)) (by omega) (by omega)).2
 simp only [turnIn]
 omega
theorem times_from {rs : List Rl} {name : Tx.Bs} {shift : Int} {x : Tm} (h : timesE rs name shift = 0) (hx : x ∈ times rs name shift) : -62135596800 < x.at_ := by
 obtain ⟨i, hx⟩ := List.mem_iff_getElem?.1 hx
 have k := times_ok h
 have ok := (src_ok k.src).2
 rw [k.is] at hx
 have hl : i < (isort (turnsOf rs name)).length := by rw [← timesFrom_len shift _ 0]; exact (List.getElem?_eq_some_iff.1 hx).1
 have qa : (isort (turnsOf rs name))[i]? = some (isort (turnsOf rs name))[i] := List.getElem?_eq_getElem hl
 rw [timesFrom_get shift _ 0 i _ qa] at hx
 simp at hx
 subst hx
 have p := prev_bd (isort_save (turns_save (name := name) fun r hr => (ok r hr).save)) i
 have b := time_bd (t := (isort (turnsOf rs name))[i]) k.s1 k.s2 p.1 p.2
 have c := turns_from ok (name := name) (isort (turnsOf rs name))[i] ((isort_perm _).mem_iff.1 (List.getElem_mem hl))
 omega
theorem pair_of {l : List Tm} (h : ∀ (i : Nat) x y, l[i]? = some x → l[i + 1]? = some y → x.at_ < y.at_) : l.Pairwise (fun u v => u.at_ < v.at_) := by
 induction l with
 | nil => exact .nil
 | cons a r ih =>
   have ih := ih fun i x y h1 h2 => h (i + 1) x y (by simpa using h1) (by simpa using h2)
   refine List.pairwise_cons.2 ⟨?_, ih⟩
   cases r with
   | nil => intro b hb; cases hb
   | cons b r =>
     have hab := h 0 a b rfl rfl
     intro c hc
     rcases List.mem_cons.1 hc with rfl | hc
     ·exact hab
     ·have := (List.pairwise_cons.1 ih).1 c hc; omega
theorem era_nil {x : Er} {b : Bool} (h : eraE x b = 0) : x.rules ≠ [] → x.save = 0 := by
 unfold eraE at h
 split at h
 ·cases h
 split at h
 ·cases h
 split at h
 ·cases h
 split at h
 ·cases h
 rename_i q
 intro hr
 have : x.rules.isEmpty = false := by simpa using hr
 rw [this] at q
 simpa using q
end Go.Proofs.YtkhlkohlccndgaaGreat.Sx
namespace Go.Proofs.YtkhlkohlccndgaaGreat
open Go.RowKit Go.Shelf
theorem found_in {s : Sx.Sr} {xs : List ZV} {nm : Tx.Bs} (hx : xs.map ZV.z = s.zones) (h : zoneF s xs nm = 0) : Sx.SrcOk s ∧ zoneZ s xs nm ∈ s.zones ∧ (∀ e ∈ (zoneZ s xs nm).eras, e ∈ erasOf xs) ∧ Sx.zoneE (zoneZ s xs nm) = 0 ∧ risingB (endsE (zoneZ s xs nm).eras) = true := by
 obtain ⟨h1, h2⟩ := zoneF_src h
 have ok := Sx.src_okZ (errs_zero h1 0 (by omega))
 rw [zoneZ_is h]
 obtain ⟨m1, m2⟩ := zvAt_in h2
 have hm : (zvAt xs (nameTo s.links nm)).z ∈ s.zones := by rw [← hx]; exact List.mem_map_of_mem m1
 refine ⟨ok, hm, fun e he => era_of h2 he, ok.zone _ hm, ?_⟩
 have c4 : endsErr xs = 0 := errs_zero h1 4 (by omega)
 unfold endsErr at c4
 split at c4
 ·cases c4
 rename_i q
 simp at q
 exact q _ m1
theorem eraT_of {s : Sx.Sr} {xs : List ZV} {nm : Tx.Bs} (hx : xs.map ZV.z = s.zones) (h : zoneF s xs nm = 0) {x : Sx.Er} (hm : x ∈ (zoneZ s xs nm).eras) : EraT s.rules x := by
 obtain ⟨ok, _, he, hz, _⟩ := found_in hx h
 refine ⟨?_, ?_⟩
 ·unfold eraT
  by_cases q : x.rules = []
  ·rw [if_pos q]; exact List.pairwise_cons.2 ⟨by simp, .nil⟩
  ·rw [if_neg q]
   have ht := times_there (zoneF_src h).1 (he x hm) q
   exact List.pairwise_cons.2 ⟨fun t w => Sx.times_from ht w, Sx.pair_of fun i a b h1 h2 => Sx.rise_at ht h1 h2⟩
 ·unfold Sx.zoneE at hz
  split at hz
  ·cases hz
  obtain ⟨b, hb⟩ := Sx.eras_mem hz x hm
  exact Sx.era_nil hb
theorem comp_rep {s : Sx.Sr} {xs : List ZV} {nm : Tx.Bs} (hx : xs.map ZV.z = s.zones) (h : zoneF s xs nm = 0) : Rep (localE s.rules (zoneZ s xs nm)) 253402300800 (cntZ s.rules (zoneZ s xs nm).eras) (compS s.rules (zoneZ s xs nm)) := by
 obtain ⟨ok, _, he, hz, hr⟩ := found_in hx h
 have := rep_zone (rs := s.rules) (g := localE s.rules (zoneZ s xs nm)) (zoneZ s xs nm).eras (-62135596800) 0 ⟨lc0, []⟩ (lastO_zone hz) hr (fun x hm => eraT_of hx h hm) (.inl (Int.le_refl _)) (fun a _ _ _ => rfl) (rep_start _ _ (Int.le_refl _) rfl)
 rw [Nat.zero_add] at this
 exact this
theorem local_bd {s : Sx.Sr} {xs : List ZV} {nm : Tx.Bs} (hx : xs.map ZV.z = s.zones) (h : zoneF s xs nm = 0) (a : Int) : Sx.inB (localE s.rules (zoneZ s xs nm) a).shift (-75600) 75600 = true ∧ Sx.inB (localE s.rules (zoneZ s xs nm) a).save 0 10800 = true := by
 obtain ⟨ok, _, he, hz, hr⟩ := found_in hx h
 have hS : ∀ x : Sx.Er, 0 ≤ x.save → x.save ≤ 10800 → 0 ≤ (savedT s.rules x a).save ∧ (savedT s.rules x a).save ≤ 10800 := by
  intro x h1 h2
  unfold savedT
  split
  ·exact ⟨h1, h2⟩
  ·rcases lastT_mem (fun t => decide (t.at_ ≤ a)) (Sx.times s.rules x.rules x.shift) with q | q
   ·rw [q]; exact ⟨Int.le_refl _, by show (0 : Int) ≤ 10800; omega⟩
   ·obtain ⟨r, hr, _, e⟩ := Sx.times_memZ q
    have := (Sx.rule_ok (ok.rule r hr)).save
    rw [e]; exact this
 rcases eraAt_in (zoneZ s xs nm) a with q | q
 ·unfold localE
  rw [q]
  have := hS zeroE (Int.le_refl _) (by show (0 : Int) ≤ 10800; omega)
  simp [Sx.inB]
  have z : zeroE.shift = 0 := rfl
  rw [z]
  omega
 ·have eo := Sx.zone_eras hz _ q
  unfold localE
  have := hS _ eo.sv0 eo.sv1
  have := eo.sh0
  have := eo.sh1
  simp [Sx.inB]
  omega
/- .. passes Check -/
theorem comp_good {s : Sx.Sr} {xs : List ZV} {nm : Tx.Bs} (hx : xs.map ZV.z = s.zones) (h : zoneF s xs nm = 0) (hc : mkE (compS s.rules (zoneZ s xs nm)) = 0) : Tb.tableE ⟨(compS s.rules (zoneZ s xs nm)).f, (compS s.rules (zoneZ s xs nm)).ch⟩ = 0 := by
 have R := comp_rep hx h
 obtain ⟨S, hS⟩ : ∃ S, compS s.rules (zoneZ s xs nm) = S := ⟨_, rfl⟩
 rw [hS] at R hc ⊢
 unfold mkE at hc
 split at hc
 ·cases hc
 rename_i q1
 split at hc
 ·cases hc
 rename_i q2
 simp at q1 q2
 obtain ⟨n1, n2⟩ := q1
 have good : ∀ l : Tb.Lc, nameB l.name = true → (∃ a, l = localE s.rules (zoneZ s xs nm) a) → Tb.localE l = 0 := by
  rintro l hn ⟨a, rfl⟩
  obtain ⟨b1, b2⟩ := local_bd hx h a
  unfold Tb.localE
  rw [if_neg (by simp [b1, b2])]
  unfold nameB at hn
  rw [if_neg (by rw [hn]; simp)]
 have nlk : ∀ c ∈ S.ch, c.lc = localE s.rules (zoneZ s xs nm) c.at_ := by
  intro c hc
  obtain ⟨pre, post, e⟩ := List.append_of_mem hc
  have hst := R.stp
  have h0 := Tb.stp_late hst c hc
  have h1 := R.til c hc
  have := R.look c.at_ (by omega) h1
  rw [← this]
  have aux : ∀ (l : List Tb.Cg) (o : Tb.Lc) (p : Int), Tb.Stp o p l → c ∈ l → Tb.lookL o c.at_ l = c.lc := by
   intro l
   induction l with
   | nil => intro o p _ w; cases w
   | cons d r ih =>
     intro o p hs w
     rcases List.mem_cons.1 w with rfl | w
     ·show Tb.lookL (if c.at_ ≤ c.at_ then c.lc else o) c.at_ r = _
      rw [if_pos (Int.le_refl _)]
      have hl := Tb.stp_late hs.2.2
      have none : ∀ (r : List Tb.Cg) (u : Tb.Lc), (∀ d ∈ r, c.at_ < d.at_) → Tb.lookL u c.at_ r = u := by
       intro r
       induction r with
       | nil => intro u _; rfl
       | cons d r ih =>
         intro u hk
         show Tb.lookL (if d.at_ ≤ c.at_ then d.lc else u) c.at_ r = u
         rw [if_neg (by have := hk d (by simp); omega)]
         exact ih u fun e he => hk e (List.mem_cons_of_mem _ he)
      exact none r _ hl
     ·have := Tb.stp_late hs.2.2 c w
      show Tb.lookL (if d.at_ ≤ c.at_ then d.lc else o) c.at_ r = _
      rw [if_pos (by omega)]
      exact ih _ _ hs.2.2 w
  exact (aux S.ch S.f _ hst hc).symm
 unfold Tb.tableE
 dsimp only
 rw [if_neg (by omega)]
 have f0 : S.f = localE s.rules (zoneZ s xs nm) (-62135596800) := by
  have := R.look (-62135596800) (Int.le_refl _) (by omega)
  rw [← this]
  have none : ∀ (r : List Tb.Cg) (u : Tb.Lc), (∀ d ∈ r, -62135596800 < d.at_) → Tb.lookL u (-62135596800) r = u := by
   intro r
   induction r with
   | nil => intro u _; rfl
   | cons d r ih =>
     intro u hk
     show Tb.lookL (if d.at_ ≤ -62135596800 then d.lc else u) (-62135596800) r = u
     rw [if_neg (by have := hk d (by simp); omega)]
     exact ih u fun e he => hk e (List.mem_cons_of_mem _ he)
  exact (none S.ch S.f (Tb.stp_late R.stp)).symm
 rw [if_neg (by simp; exact good S.f n1 ⟨_, f0⟩)]
 refine Tb.stp_go none R.stp (Int.le_refl _) (fun n e => by cases e) fun c hc => ⟨by have := R.til c hc; show c.at_ ≤ 253402300799; omega, good c.lc ?_ ⟨_, nlk c hc⟩⟩
 have := n2 c hc
 unfold nameless at this
 simpa using this
theorem comp_look {s : Sx.Sr} {xs : List ZV} {nm : Tx.Bs} (hx : xs.map ZV.z = s.zones) (h : zoneF s xs nm = 0) {a : Int} (ha : Tb.inYears a = true) : Tb.look ⟨(compS s.rules (zoneZ s xs nm)).f, (compS s.rules (zoneZ s xs nm)).ch⟩ a = localE s.rules (zoneZ s xs nm) a := by
 have ha' : decide ((-62135596800 : Int) ≤ a ∧ a ≤ 253402300799) = true := ha
 simp only [decide_eq_true_eq] at ha'
 exact (comp_rep hx h).look a ha'.1 (by omega)
theorem comp_there {s : Sx.Sr} {xs : List ZV} {nm : Tx.Bs} (hx : xs.map ZV.z = s.zones) (h : zoneF s xs nm = 0) {a : Int} (ha : Tb.inYears a = true) (hb : Tb.inYears (a - 1) = true) :
  (∃ c ∈ (compS s.rules (zoneZ s xs nm)).ch, c.at_ = a) ↔ ¬ localE s.rules (zoneZ s xs nm) a = localE s.rules (zoneZ s xs nm) (a - 1) := by
 rw [← comp_look hx h ha, ← comp_look hx h hb]
 have hb' : decide ((-62135596800 : Int) ≤ a - 1 ∧ a - 1 ≤ 253402300799) = true := hb
 simp only [decide_eq_true_eq] at hb'
 exact Tb.stp_there a (comp_rep hx h).stp (by omega)
theorem comp_few {s : Sx.Sr} {xs : List ZV} {nm : Tx.Bs} (hx : xs.map ZV.z = s.zones) (h : zoneF s xs nm = 0) : (compS s.rules (zoneZ s xs nm)).ch.length < cntZ s.rules (zoneZ s xs nm).eras := (comp_rep hx h).some (by omega)
end Go.Proofs.YtkhlkohlccndgaaGreat
namespace Go.Proofs.YtkhlkohlccndgaaGreat
open Go.ChangeShapes Go.WideShapes Go.ChangeAt Go.RowKit Go.Joins

theorem own : ownKnob Tryz.prog.godebug = none := by kernel_rfl
theorem laidOut : laidOutB Tryz.prog = true := by kernel_rfl
theorem cellsT_int : Tryz.prog.cellsOf 3 = 1 := by kernel_rfl
theorem cellsT_str : Tryz.prog.cellsOf 9 = 1 := by kernel_rfl
theorem cellsT_fm : Tryz.prog.cellsOf 38 = 3 := by kernel_rfl
theorem cellsT_rl : Tryz.prog.cellsOf 40 = 11 := by kernel_rfl

section
variable {H : Type} {enc : TypeId × Value → H} {w : World} {sp : Nat → Bool} {held : Bool} {fuel : Nat} {cs : List Value} {x : DataW H × List MemPlace}
theorem addT_none (b o i : Nat) : (⟨b, o, none⟩ : Addr).add i = ⟨b, o + i, none⟩ := by simp [Addr.add]
theorem blockT_of_cell {a : Addr} {v : Value} (h : w.cell? a = some v) : a.block < w.heap.size := by
 unfold World.cell? at h
 split at h
 ·rename_i hb; exact (Array.getElem?_eq_some_iff.1 hb).1
 ·cases h
theorem strT_of (s : ByteArray) : strV s.data.toList = .string s := by unfold strV; congr 1
theorem open_form (h : DataW.trod enc Tryz.prog w 0 sp held fuel 38 cs = some x) : ∃ a b c : Int, cs = [.int .i64 a, .int .i64 b, .int .i64 c] := by
 cases fuel with
 | zero => simp [DataW.trod] at h
 | succ n =>
   unfold DataW.trod at h
   rw [Tryz.underlying38] at h
   simp [cellsT_fm, cellsT_int, List.mapM_cons, Option.bind_eq_some_iff] at h
   obtain ⟨hlen, a1, b1, h1, l, ⟨a2, b2, h2, l3, ⟨a3, b3, h3, _⟩, _⟩, _⟩ := h
   match cs, hlen with
   | [u, v, z], _ =>
     simp at h1 h2 h3
     obtain ⟨k1, e1, _⟩ := DataW.trod_int Tryz.underlying3 h1
     obtain ⟨k2, e2, _⟩ := DataW.trod_int Tryz.underlying3 h2
     obtain ⟨k3, e3, _⟩ := DataW.trod_int Tryz.underlying3 h3
     simp at e1 e2 e3
     subst e1 e2 e3
     exact ⟨k1, k2, k3, rfl⟩
theorem open_rule (h : DataW.trod enc Tryz.prog w 0 sp held fuel 40 cs = some x) : ∃ r : Sx.Rl, cs = ruleCells r ∧ r.name.length ≤ maxLen ∧ r.letter.length ≤ maxLen := by
 cases fuel with
 | zero => simp [DataW.trod] at h
 | succ n =>
   unfold DataW.trod at h
   rw [Tryz.underlying40] at h
   simp [cellsT_rl, cellsT_int, cellsT_str, cellsT_fm, List.mapM_cons, Option.bind_eq_some_iff] at h
   obtain ⟨hlen, a1, b1, h1, _, ⟨a2, b2, h2, _, ⟨a3, b3, h3, _, ⟨a4, b4, h4, _, ⟨a5, b5, h5, _, ⟨a6, b6, h6, _, ⟨a7, b7, h7, _, ⟨a8, b8, h8, _, ⟨a9, b9, h9, _⟩, _⟩, _⟩, _⟩, _⟩, _⟩, _⟩, _⟩, _⟩ := h
   match cs, hlen with
   | [c0, c1, c2, c3, c4, c5, c6, c7, c8, c9, c10], _ =>
     simp at h1 h2 h3 h4 h5 h6 h7 h8 h9
     obtain ⟨s1, e1, _, hs1⟩ := DataW.trod_string Tryz.underlying9 h1
     obtain ⟨k2, e2, _⟩ := DataW.trod_int Tryz.underlying3 h2
     obtain ⟨k3, e3, _⟩ := DataW.trod_int Tryz.underlying3 h3
     obtain ⟨k4, e4, _⟩ := DataW.trod_int Tryz.underlying3 h4
     obtain ⟨fa, fb, fc, e5⟩ := open_form h5
     obtain ⟨k6, e6, _⟩ := DataW.trod_int Tryz.underlying3 h6
     obtain ⟨k7, e7, _⟩ := DataW.trod_int Tryz.underlying3 h7
     obtain ⟨k8, e8, _⟩ := DataW.trod_int Tryz.underlying3 h8
     obtain ⟨s9, e9, _, hs9⟩ := DataW.trod_string Tryz.underlying9 h9
     simp at e1 e2 e3 e4 e5 e6 e7 e8 e9
     obtain ⟨rfl, rfl, rfl⟩ := e5
     subst e1 e2 e3 e4 e6 e7 e8 e9
     exact ⟨⟨s1.data.toList, k2, k3, k4, fa, fb, fc, k6, k7, k8, s9.data.toList⟩, by simp only [ruleCells, strT_of], by simpa using hs1, by simpa using hs9⟩
end
end Go.Proofs.YtkhlkohlccndgaaGreat
namespace Go.Proofs.YtkhlkohlccndgaaGreat
open Go.ChangeShapes Go.WideShapes Go.ChangeAt Go.RowKit Go.Joins Go.Shelf

theorem cellsT_bool : Tryz.prog.cellsOf 4 = 1 := by kernel_rfl
theorem cellsT_dt : Tryz.prog.cellsOf 63 = 3 := by kernel_rfl
theorem cellsT_ut : Tryz.prog.cellsOf 65 = 5 := by kernel_rfl
theorem cellsT_er : Tryz.prog.cellsOf 67 = 10 := by kernel_rfl
theorem cellsT_ers : Tryz.prog.cellsOf 42 = 1 := by kernel_rfl
theorem cellsT_zn : Tryz.prog.cellsOf 44 = 2 := by kernel_rfl
theorem cellsT_lk : Tryz.prog.cellsOf 35 = 2 := by kernel_rfl
theorem cellsT_rls : Tryz.prog.cellsOf 22 = 1 := by kernel_rfl
theorem cellsT_zns : Tryz.prog.cellsOf 23 = 1 := by kernel_rfl
theorem cellsT_lks : Tryz.prog.cellsOf 24 = 1 := by kernel_rfl
theorem cellsT_src : Tryz.prog.cellsOf 26 = 3 := by kernel_rfl

section
variable {H : Type} {enc : TypeId × Value → H} {w : World} {sp : Nat → Bool} {held : Bool} {fuel : Nat} {cs : List Value} {x : DataW H × List MemPlace}
/- a list whose elements lie cell by cell -/
theorem open_list {α : Type} (dflt : α) {T e : TypeId} {z : Nat} {cells : α → List Value} {Pr : α → Prop} (hT : Tryz.prog.underlying T = some (.slice e)) (hz : Tryz.prog.cellsOf e = z) (hz0 : 0 < z) (hcl : ∀ c, (cells c).length = z)
  (hel : ∀ (n : Nat) (cs : List Value) (y : DataW H × List MemPlace), DataW.trod enc Tryz.prog w 0 sp held n e cs = some y → ∃ c, cs = cells c ∧ Pr c)
  (h : DataW.trod enc Tryz.prog w 0 sp held fuel T cs = some x) : ∃ a n cap l, cs = [.slice a n cap] ∧ n = l.length ∧ Rd z cells w (.slice a n cap) l ∧ n ≤ cap ∧ cap ≤ maxLen ∧ ∀ c ∈ l, Pr c := by
 rcases Deep.open_slice hT h with ⟨rfl, _⟩ | ⟨a, len, cap, m, n, D, Pl, rfl, _, hl, hm, hmm, _, hc⟩
 ·exact ⟨none, 0, 0, [], rfl, rfl, rd_nil, Nat.le_refl _, Nat.zero_le _, by simp⟩
 ·have hlm : len ≤ m := by rw [hmm]; split <;> omega
  rw [hz] at hc
  have key : ∀ i, i < len → ∃ c : α, Pr c ∧ w.cells? 0 (a.add (i * z)) z = some (cells c) := by
   intro i hi
   obtain ⟨cs', h1, h2⟩ := hc i (by omega)
   obtain ⟨c, rfl, hs⟩ := hel _ _ _ h2
   exact ⟨c, hs, h1⟩
  have : Inhabited α := ⟨dflt⟩
  obtain ⟨L, hL⟩ := Deep.choose_lt key
  refine ⟨some a, len, cap, (List.range len).map L, rfl, by simp, ⟨some a, cap, by simp, fun hn => ?_⟩, by omega, by omega, ?_⟩
  ·have h0 : 0 < len := by
    rcases Nat.eq_zero_or_pos len with q | q
    ·subst q; simp at hn
    ·exact q
   obtain ⟨b, off, spot⟩ := a
   obtain ⟨_, _, g0⟩ := World.cells?_some (hL 0 h0).2
   have c0 : w.cell? (((⟨b, off, spot⟩ : Addr).add (0 * z)).add 0) = some ((cells (L 0))[0]'(by rw [hcl]; exact hz0)) := (g0 0 hz0).trans (List.getElem?_eq_getElem _)
   have hs : spot = none := by simpa [Addr.add] using World.cell?_spot c0
   subst hs
   simp only [addT_none] at c0 hL
   refine ⟨b, off, rfl, blockT_of_cell c0, fun i c hi k u hu => ?_⟩
   have hi' : i < len := by
    have := (List.getElem?_eq_some_iff.1 hi).1
    simpa using this
   simp [hi'] at hi
   subst hi
   obtain ⟨_, _, gi⟩ := World.cells?_some (hL i hi').2
   have hk := (List.getElem?_eq_some_iff.1 hu).1
   have := gi k (by rw [← hcl (L i)]; exact hk)
   rw [addT_none] at this
   rw [this]
   exact hu
  ·intro c hc'
   simp at hc'
   obtain ⟨i, hi, rfl⟩ := hc'
   exact (hL i hi).1
theorem open_dateC (h : DataW.trod enc Tryz.prog w 0 sp held fuel 63 cs = some x) : ∃ a b c : Int, cs = [.int .i64 a, .int .i64 b, .int .i64 c] := by
 cases fuel with
 | zero => simp [DataW.trod] at h
 | succ n =>
   unfold DataW.trod at h
   rw [Tryz.underlying63] at h
   simp [cellsT_dt, cellsT_int, List.mapM_cons, Option.bind_eq_some_iff] at h
   obtain ⟨hlen, a1, b1, h1, l, ⟨a2, b2, h2, l3, ⟨a3, b3, h3, _⟩, _⟩, _⟩ := h
   match cs, hlen with
   | [u, v, z], _ =>
     simp at h1 h2 h3
     obtain ⟨k1, e1, _⟩ := DataW.trod_int Tryz.underlying3 h1
     obtain ⟨k2, e2, _⟩ := DataW.trod_int Tryz.underlying3 h2
     obtain ⟨k3, e3, _⟩ := DataW.trod_int Tryz.underlying3 h3
     simp at e1 e2 e3
     subst e1 e2 e3
     exact ⟨k1, k2, k3, rfl⟩
theorem open_until (h : DataW.trod enc Tryz.prog w 0 sp held fuel 65 cs = some x) : ∃ a b c d e : Int, cs = [.int .i64 a, .int .i64 b, .int .i64 c, .int .i64 d, .int .i64 e] := by
 cases fuel with
 | zero => simp [DataW.trod] at h
 | succ n =>
   unfold DataW.trod at h
   rw [Tryz.underlying65] at h
   simp [cellsT_ut, cellsT_dt, cellsT_int, List.mapM_cons, Option.bind_eq_some_iff] at h
   obtain ⟨hlen, a1, b1, h1, l, ⟨a2, b2, h2, l3, ⟨a3, b3, h3, _⟩, _⟩, _⟩ := h
   match cs, hlen with
   | [u, v, z, y, s], _ =>
     simp at h1 h2 h3
     obtain ⟨a, b, c, e1⟩ := open_dateC h1
     obtain ⟨k2, e2, _⟩ := DataW.trod_int Tryz.underlying3 h2
     obtain ⟨k3, e3, _⟩ := DataW.trod_int Tryz.underlying3 h3
     simp at e1 e2 e3
     obtain ⟨rfl, rfl, rfl⟩ := e1
     subst e2 e3
     exact ⟨a, b, c, k2, k3, rfl⟩
theorem open_era (h : DataW.trod enc Tryz.prog w 0 sp held fuel 67 cs = some x) : ∃ r : Sx.Er, cs = eraCells r ∧ r.rules.length ≤ maxLen ∧ r.format.length ≤ maxLen := by
 cases fuel with
 | zero => simp [DataW.trod] at h
 | succ n =>
   unfold DataW.trod at h
   rw [Tryz.underlying67] at h
   simp [cellsT_er, cellsT_int, cellsT_str, cellsT_bool, cellsT_ut, List.mapM_cons, Option.bind_eq_some_iff] at h
   obtain ⟨hlen, a1, b1, h1, _, ⟨a2, b2, h2, _, ⟨a3, b3, h3, _, ⟨a4, b4, h4, _, ⟨a5, b5, h5, _, ⟨a6, b6, h6, _⟩, _⟩, _⟩, _⟩, _⟩, _⟩ := h
   match cs, hlen with
   | [c0, c1, c2, c3, c4, c5, c6, c7, c8, c9], _ =>
     simp at h1 h2 h3 h4 h5 h6
     obtain ⟨k1, e1, _⟩ := DataW.trod_int Tryz.underlying3 h1
     obtain ⟨s2, e2, _, hs2⟩ := DataW.trod_string Tryz.underlying9 h2
     obtain ⟨k3, e3, _⟩ := DataW.trod_int Tryz.underlying3 h3
     obtain ⟨s4, e4, _, hs4⟩ := DataW.trod_string Tryz.underlying9 h4
     obtain ⟨b5, e5, _⟩ := DataW.trod_bool Tryz.underlying4 h5
     obtain ⟨ua, ub, uc, ud, ue, e6⟩ := open_until h6
     simp at e1 e2 e3 e4 e5 e6
     obtain ⟨rfl, rfl, rfl, rfl, rfl⟩ := e6
     subst e1 e2 e3 e4 e5
     exact ⟨⟨k1, s2.data.toList, k3, s4.data.toList, b5, ua, ub, uc, ud, ue⟩, by simp only [eraCells, strT_of], by simpa using hs2, by simpa using hs4⟩
theorem open_link (h : DataW.trod enc Tryz.prog w 0 sp held fuel 35 cs = some x) : ∃ r : Sx.Lk, cs = linkCells r ∧ r.to.length ≤ maxLen ∧ r.name.length ≤ maxLen := by
 cases fuel with
 | zero => simp [DataW.trod] at h
 | succ n =>
   unfold DataW.trod at h
   rw [Tryz.underlying35] at h
   simp [cellsT_lk, cellsT_str, List.mapM_cons, Option.bind_eq_some_iff] at h
   obtain ⟨hlen, a1, b1, h1, _, ⟨a2, b2, h2, _⟩, _⟩ := h
   match cs, hlen with
   | [c0, c1], _ =>
     simp at h1 h2
     obtain ⟨s1, e1, _, hs1⟩ := DataW.trod_string Tryz.underlying9 h1
     obtain ⟨s2, e2, _, hs2⟩ := DataW.trod_string Tryz.underlying9 h2
     simp at e1 e2
     subst e1 e2
     exact ⟨⟨s1.data.toList, s2.data.toList⟩, by simp only [linkCells, strT_of], by simpa using hs1, by simpa using hs2⟩
/- a zone: its eras can be read, and are no more than there is room for -/
structure ZvOk (w : World) (p : ZV) : Prop where
 eras : RdEras w (.slice p.a p.z.eras.length p.c) p.z.eras
 cap : p.z.eras.length ≤ p.c
 most : p.c ≤ maxLen
 name : p.z.name.length ≤ maxLen
 texts : ∀ x ∈ p.z.eras, x.rules.length ≤ maxLen ∧ x.format.length ≤ maxLen
theorem open_zoneC (h : DataW.trod enc Tryz.prog w 0 sp held fuel 44 cs = some x) : ∃ p : ZV, cs = zvCells p ∧ ZvOk w p := by
 cases fuel with
 | zero => simp [DataW.trod] at h
 | succ n =>
   unfold DataW.trod at h
   rw [Tryz.underlying44] at h
   simp [cellsT_zn, cellsT_str, cellsT_ers, List.mapM_cons, Option.bind_eq_some_iff] at h
   obtain ⟨hlen, a1, b1, h1, _, ⟨a2, b2, h2, _⟩, _⟩ := h
   match cs, hlen with
   | [c0, c1], _ =>
     simp at h1 h2
     obtain ⟨s1, e1, _, hs1⟩ := DataW.trod_string Tryz.underlying9 h1
     obtain ⟨a, k, cap, l, e2, hk, hr, hc, hm, hp⟩ := open_list (⟨0, [], 0, [], false, 0, 0, 0, 0, 0⟩ : Sx.Er) (z := 10) (cells := eraCells) (Pr := fun x : Sx.Er => x.rules.length ≤ maxLen ∧ x.format.length ≤ maxLen) Tryz.underlying42 cellsT_er (by decide) eraCells_len (fun n cs y q => open_era q) h2
     simp at e1 e2
     subst e1 e2
     subst hk
     exact ⟨⟨⟨s1.data.toList, l⟩, a, cap⟩, by simp only [zvCells, strT_of], hr, hc, hm, by simpa using hs1, hp⟩
end
/- what is read one way can be read the other -/
theorem zip_zv : ∀ ps : List ZV, ((ps.map ZV.z).zip (ps.map zvS)).map (fun p => (p.1.name, p.2)) = ps.map fun p => (p.z.name, zvS p)
 | [] => rfl
 | a :: r => by rw [List.map_cons, List.map_cons, List.map_cons, List.zip_cons_cons, List.map_cons, zip_zv r]
theorem rdZones_zv {w : World} {v : Value} {zs : List Sx.Zn} {ps : List ZV} (h : RdZv w v zs ps) : RdZones w v zs := by
 obtain ⟨h1, h2, h3, h4⟩ := h
 subst h1
 have e := zip_zv ps
 refine ⟨ps.map zvS, by simp, ?_, ?_⟩
 ·rw [e]
  obtain ⟨a, cap, q1, q2⟩ := h2
  refine ⟨a, cap, by simpa using q1, fun hn => ?_⟩
  obtain ⟨b, o, q3, q4, q5⟩ := q2 (by intro q; rw [q] at hn; simp at hn)
  refine ⟨b, o, q3, q4, fun i x hx k u hu => ?_⟩
  rw [List.getElem?_map] at hx
  cases hp : ps[i]? with
  | none => rw [hp] at hx; cases hx
  | some p =>
    rw [hp] at hx
    simp at hx
    subst hx
    exact q5 i p hp k u hu
 ·intro i ev x hv hx
  rw [List.getElem?_map] at hv hx
  cases hp : ps[i]? with
  | none => rw [hp] at hx; cases hx
  | some p =>
    rw [hp] at hx hv
    simp at hx hv
    subst hx hv
    exact h3 p (List.mem_of_getElem? hp)
theorem capZs_zv {w : World} {v : Value} {zs : List Sx.Zn} {ps : List ZV} (h : RdZv w v zs ps) : CapZs w v zs := by
 obtain ⟨h1, h2, h3, h4⟩ := h
 subst h1
 intro i x b o cap hx hv ev he
 rw [List.getElem?_map] at hx
 cases hp : ps[i]? with
 | none => rw [hp] at hx; cases hx
 | some p =>
   rw [hp] at hx
   simp at hx
   subst hx
   rw [hv] at h2
   obtain ⟨b', o', e, _, hc⟩ := rd_elem h2 hp
   simp only [Option.some.injEq, Addr.mk.injEq] at e
   obtain ⟨rfl, rfl, _⟩ := e
   have := hc 1 (zvS p) rfl
   rw [this] at he
   simp at he
   exact ⟨p.a, p.c, he.symm, h4 p (List.mem_of_getElem? hp)⟩
structure SrcArg (s : Sx.Sr) (xs : List ZV) (ra za la : Option Addr) (rcap zcap lcap : Nat) (w : World) : Prop where
 rmost : rcap ≤ maxLen
 zmost : zcap ≤ maxLen
 lmost : lcap ≤ maxLen
 rules : RdRules w (.slice ra s.rules.length rcap) s.rules
 zv : RdZv w (.slice za xs.length zcap) s.zones xs
 links : RdLinks w (.slice la s.links.length lcap) s.links
 size : SizedS s
 rcap : s.rules.length ≤ rcap
 zcap : xs.length ≤ zcap
 lcap : s.links.length ≤ lcap
theorem srcIn_arg {s : Sx.Sr} {xs : List ZV} {ra za la : Option Addr} {rcap zcap lcap : Nat} {m : Int} {w : World} (h : SrcArg s xs ra za la rcap zcap lcap w) (hm : w.cell? ⟨0, 0, none⟩ = some (.int .i64 m)) (h0 : 0 < w.heap.size) : SrcIn s xs ra za la rcap zcap lcap m w :=
 ⟨h.rules, rdZones_zv h.zv, capZs_zv h.zv, h.zv, h.links, h.size, hm, h0⟩
section
variable {H : Type} {enc : TypeId × Value → H}
theorem open_source_arg {W : World} {base : Nat} {v : Value} {d : DataW H} {p : List MemPlace} (hv : Value.okWide Tryz.prog W .any base 26 v) (h : DataW.Trod enc Tryz.prog W 0 (fun _ => true) true 26 v d p) :
  (∃ (s : Sx.Sr) (xs : List ZV) (ra za la : Option Addr) (rcap zcap lcap : Nat), v = .agg #[.slice ra s.rules.length rcap, .slice za xs.length zcap, .slice la s.links.length lcap] ∧ SrcArg s xs ra za la rcap zcap lcap W) ∧ ∀ x ∈ p, x.block < W.heap.size := by
 obtain ⟨cs, rfl, hsz⟩ := okWide_struct Tryz.underlying26 hv
 obtain ⟨c0, c1, c2, rfl⟩ := array3 (hsz.trans cellsT_src)
 obtain ⟨fuel, hf⟩ := h
 refine ⟨?_, DataW.trod_lt fuel _ _ _ hf⟩
 cases fuel with
 | zero => simp [DataW.trod] at hf
 | succ n =>
   unfold DataW.trod at hf
   rw [Tryz.underlying26] at hf
   simp [Value.cells, cellsT_src, cellsT_rls, cellsT_zns, cellsT_lks, List.mapM_cons, Option.bind_eq_some_iff] at hf
   obtain ⟨a1, b1, h1, l, ⟨a2, b2, h2, _, ⟨a3, b3, h3, _⟩, _⟩, _⟩ := hf
   obtain ⟨ra, k1, rc, rs, e1, hk1, hr1, hc1, hm1, hp1⟩ := open_list (⟨[], 0, 0, 0, 0, 0, 0, 0, 0, 0, []⟩ : Sx.Rl) (z := 11) (cells := ruleCells) (Pr := fun x : Sx.Rl => x.name.length ≤ maxLen ∧ x.letter.length ≤ maxLen) Tryz.underlying22 cellsT_rl (by decide) ruleCells_len (fun n cs y q => open_rule q) h1
   obtain ⟨za, k2, zc, xs, e2, hk2, hr2, hc2, hm2, hp2⟩ := open_list (⟨⟨[], []⟩, none, 0⟩ : ZV) (z := 2) (cells := zvCells) (Pr := ZvOk W) Tryz.underlying23 cellsT_zn (by decide) (fun _ => rfl) (fun n cs y q => open_zoneC q) h2
   obtain ⟨la, k3, lc, ls, e3, hk3, hr3, hc3, hm3, hp3⟩ := open_list (⟨[], []⟩ : Sx.Lk) (z := 2) (cells := linkCells) (Pr := fun x : Sx.Lk => x.to.length ≤ maxLen ∧ x.name.length ≤ maxLen) Tryz.underlying24 cellsT_lk (by decide) linkCells_len (fun n cs y q => open_link q) h3
   simp at e1 e2 e3
   subst e1 e2 e3 hk1 hk2 hk3
   refine ⟨⟨rs, xs.map ZV.z, ls⟩, xs, ra, za, la, rc, zc, lc, rfl, hm1, hm2, hm3, hr1, ⟨rfl, hr2, fun p hp => (hp2 p hp).eras, fun p hp => (hp2 p hp).cap⟩, hr3, ⟨hp1, ?_, hp3⟩, hc1, hc2, hc3⟩
   intro z hz
   obtain ⟨p, hp, rfl⟩ := List.mem_map.1 hz
   exact ⟨(hp2 p hp).name, (hp2 p hp).texts⟩
theorem source_stays {W W' : World} {v : Value} {d : DataW H} {p : List MemPlace} (h : DataW.Trod enc Tryz.prog W 0 (fun _ => true) true 26 v d p) (bel : Below W.heap.size W W') (lt0 : ∀ x ∈ p, x.block < W.heap.size) : DataW.Trod enc Tryz.prog W' 0 (fun b => decide (b < W.heap.size)) true 26 v d p :=
 Below.trod laidOut (by kernel_rfl) (of_decide_eq_true (by kernel_rfl)) h bel lt0
end
end Go.Proofs.YtkhlkohlccndgaaGreat
namespace Go.Proofs.YtkhlkohlccndgaaGreat
open Go.RowKit Go.Shelf
attribute [local go_sem] Oper.semAt_some
attribute [local go_sem ↓] Go.wp_at_zero Go.wp_at_succ

theorem goE_rise_of {t : Tb.Tbl} (h : Tb.tableE t = 0) : ∀ c ∈ t.ch, Tb.localE c.lc = 0 := by
 obtain ⟨_, _, g3⟩ := Tb.good_parts h
 obtain ⟨_, q, _⟩ := Tb.goE_rise t.ch t.first none g3
 exact fun c hc => (q c hc).2.2
theorem tableSame_is (s : Sx.Sr) (xs : List ZV) (ra za la : Option Addr) (rcap zcap lcap : Nat) (m : Int) (nm : Tx.Bs) (at_ : Int) (w : World) (h : SrcIn s xs ra za la rcap zcap lcap m w) :
  Calls Tryz.prog 11 #[.agg #[.slice ra s.rules.length rcap, .slice za xs.length zcap, .slice la s.links.length lcap], strV nm, .int .i64 at_] w fun e w' => e = .returned (.bool true) ∧ Below w.heap.size w w' := by
 obtain ⟨N, hN⟩ : ∃ N, w.heap.size = N := ⟨_, rfl⟩
 obtain ⟨V, gV, X0, hb, sz⟩ := named_new w #[.slice ra s.rules.length rcap, .slice za xs.length zcap, .slice la s.links.length lcap] 26
 rw [hN] at X0
 have X : Hid (CellsAt V N [.slice ra s.rules.length rcap, .slice za xs.length zcap, .slice la s.links.length lcap]) := X0
 have B : Hid (Below N w V) := hN ▸ hb
 have G := hid (srcIn_below h hb)
 clear h X0 sz hb
 go_enter Tryz.func11, Tryz.ntmps11
 simp only [hN]
 go_wp2_with fail
 refine (tableBegun_is m V G.out.max G.out.pos).mono ?_
 rintro e w1 ⟨rfl, hb⟩
 have hle := Nat.le_of_lt X.out.1
 replace B := hid (below_on B.out hle hb)
 replace X := hid (ca_below X.out hb)
 replace G := hid (srcIn_below G.out hb)
 clear hle
 clear hb
 go_wp2_with fail
 refine (zoneBegun_is m w1 G.out.max G.out.pos).mono ?_
 rintro e w2 ⟨rfl, hb⟩
 have hle := Nat.le_of_lt X.out.1
 replace B := hid (below_on B.out hle hb)
 replace X := hid (ca_below X.out hb)
 replace G := hid (srcIn_below G.out hb)
 clear hle
 clear hb gV
 obtain ⟨s0, _⟩ := ca_at X.out 0 rfl
 obtain ⟨s1, _⟩ := ca_at X.out 1 rfl
 obtain ⟨s2, _⟩ := ca_at X.out 2 rfl
 have ss := X.out.1
 have HC := hid (compile_any s xs ra za la rcap zcap lcap m nm w2 G.out)
 go_wp2_with fail
 refine HC.out.mono ?_
 rintro e w3 ⟨cv, rfl, hO, hb⟩
 clear HC s0 s1 s2 ss
 have hle := Nat.le_of_lt X.out.1
 replace B := hid (below_on B.out hle hb)
 replace X := hid (ca_below X.out hb)
 replace G := hid (srcIn_below G.out hb)
 clear hle
 clear hb
 have RC := hid (ownCh_rd hO)
 obtain ⟨ca, cap, rfl⟩ := owns_shape0 hO
 clear hO
 obtain ⟨E, hE⟩ : ∃ E, compE s xs nm = E := ⟨_, rfl⟩
 obtain ⟨T, hT⟩ : ∃ T, compT s xs nm = T := ⟨_, rfl⟩
 rw [hE]
 rw [hT] at RC ⊢
 have HE := hid hE
 have HT := hid hT
 clear hE hT
 obtain ⟨w4, g_w4, L0, hb2, sz⟩ := named_new w3 #[.int .i64 T.first.shift, .int .i64 T.first.save, .string ⟨T.first.name.toArray⟩, .slice ca T.ch.length cap] 76
 obtain ⟨bT, h_bT⟩ : ∃ b, w3.heap.size = b := ⟨_, rfl⟩
 have LT : Hid (CellsAt w4 bT [.int .i64 T.first.shift, .int .i64 T.first.save, .string ⟨T.first.name.toArray⟩, .slice ca T.ch.length cap]) := h_bT ▸ L0
 have hle := Nat.le_of_lt X.out.1
 replace B := hid (below_on B.out hle hb2)
 replace X := hid (ca_below X.out hb2)
 replace G := hid (srcIn_below G.out hb2)
 replace RC := hid (rdCh_below RC.out hb2)
 clear hle
 clear hb2 sz L0
 by_cases e0 : E = 0
 case neg =>
  have e1 : T = ⟨lc0, []⟩ := by rw [← HT.out]; unfold compT; rw [if_neg (by rw [HE.out]; exact e0)]
  subst e1
  replace g_w4 : w3.alloc (.cells #[.int .i64 0, .int .i64 0, .string ⟨#[]⟩, .slice ca 0 cap] 76) = w4 := g_w4
  have LT0 : Hid (CellsAt w4 bT [.int .i64 0, .int .i64 0, .string ⟨#[]⟩, .slice ca 0 cap]) := LT.out
  have p1 : (E == 0) = false := by simp [e0]
  have p2 : (E != 0) = true := by simp [e0]
  obtain ⟨t0, _⟩ := ca_at LT0.out 0 rfl
  obtain ⟨t1, _⟩ := ca_at LT0.out 1 rfl
  obtain ⟨t2, _⟩ := ca_at LT0.out 2 rfl
  obtain ⟨t3, _⟩ := ca_at LT0.out 3 rfl
  have st := LT0.out.1
  clear HE HT RC LT
  go_wp2
  go_ret
  exact ⟨rfl, B.out⟩
 subst e0
 have hF : zoneF s xs nm = 0 := by
  have := HE.out
  unfold compE at this
  split at this
  ·rename_i q; exact absurd this q
  ·rename_i q; simpa using q
 have hM : mkE (compS s.rules (zoneZ s xs nm)) = 0 := by
  have := HE.out
  unfold compE at this
  rw [if_neg (by simp [hF])] at this
  exact this
 obtain ⟨z, hz⟩ : ∃ z, zoneZ s xs nm = z := ⟨_, rfl⟩
 have hTe : T = ⟨(compS s.rules z).f, (compS s.rules z).ch⟩ := by rw [← HT.out]; unfold compT; rw [if_pos HE.out, hz]
 have hxz := G.out.zv.fst
 have hgood : Tb.tableE T = 0 := by rw [hTe, ← hz]; exact comp_good hxz hF hM
 have hlook : ∀ a : Int, Tb.lookErr T a = atE 0 a ∧ Tb.lookO T a = atL 0 a s.rules z := by
  intro a
  have h1 : Tb.lookErr T a = atE 0 a := by
   unfold Tb.lookErr atE
   rw [hgood]
   cases Tb.inYears a <;> simp
  refine ⟨h1, ?_⟩
  unfold Tb.lookO atL
  rw [h1]
  by_cases q : atE 0 a = 0
  ·rw [if_pos q, if_pos q]
   have hy : Tb.inYears a = true := by
    unfold atE at q
    simp at q
    exact q
   have := comp_look hxz hF hy
   rw [hz] at this
   rw [← this, hTe]
  ·rw [if_neg q, if_neg q]
 have hthere : ∀ a : Int, atE 0 a = 0 → atE 0 (wrap64 (a - 1)) = 0 → ((T.ch.any fun c => c.at_ == a) = !decide (atL 0 a s.rules z = atL 0 (wrap64 (a - 1)) s.rules z)) := by
  intro a h1 h2
  have y1 : Tb.inYears a = true := by unfold atE at h1; simp at h1; exact h1
  have y1' : decide ((-62135596800 : Int) ≤ a ∧ a ≤ 253402300799) = true := y1
  simp only [decide_eq_true_eq] at y1'
  have ew : wrap64 (a - 1) = a - 1 := by unfold wrap64; omega
  rw [ew] at h2 ⊢
  have y2 : Tb.inYears (a - 1) = true := by unfold atE at h2; simp at h2; exact h2
  have := comp_there hxz hF y1 y2
  rw [hz] at this
  unfold atL
  rw [if_pos h1, if_pos h2, hTe]
  by_cases q : localE s.rules z a = localE s.rules z (a - 1)
  ·rw [decide_eq_true q]
   have h3 : ¬ ∃ c ∈ (compS s.rules z).ch, c.at_ = a := fun w => (this.1 w) q
   simp only [Bool.not_true]
   rw [List.any_eq_false]
   intro c hc w
   exact h3 ⟨c, hc, by simpa using w⟩
  ·rw [decide_eq_false q]
   obtain ⟨c, hc, w⟩ := this.2 q
   exact List.any_eq_true.2 ⟨c, hc, by simpa using w⟩
 have hsz : Tb.Sized T := by
  obtain ⟨_, g1, _⟩ := Tb.good_parts hgood
  obtain ⟨_, h2⟩ := rise_of_good hgood
  have h3 := goE_rise_of hgood
  refine ⟨by unfold maxLen; omega, ?_, fun c hc => ?_⟩
  ·have := (Tb.goodL_bd g1).2.2.2.2.2.1; unfold maxLen; omega
  ·have := (Tb.goodL_bd (h3 c hc)).2.2.2.2.2.1; unfold maxLen; omega
 have hlen : T.ch.length ≤ 1000 := (rise_of_good hgood).2
 have HL := hid hlook
 have HTh := hid hthere
 have CL : Hid (∀ W, RdCh W (.slice ca T.ch.length cap) T.ch → Calls Tryz.prog 32 #[tbV T.first (.slice ca T.ch.length cap), .int .i64 at_] W fun e w' => e = .returned (.tuple #[lcV (atL 0 at_ s.rules z), .int .i64 (atE 0 at_)]) ∧ Below W.heap.size W w') := fun W hW => by
  have := pLook_any T _ at_ W hW hsz
  rw [(hlook at_).1, (hlook at_).2] at this
  exact this
 have CA : Hid (∀ (q : Int) W, SrcIn s xs ra za la rcap zcap lcap m W → Calls Tryz.prog 15 #[.agg #[.slice ra s.rules.length rcap, .slice za xs.length zcap, .slice la s.links.length lcap], strV nm, .int .i64 q] W fun e w' => e = .returned (.tuple #[lcV (atL 0 q s.rules z), .int .i64 (atE 0 q)]) ∧ Below W.heap.size W w') := fun q W hW => by
  have := zAt_any s xs ra za la rcap zcap lcap m q nm W hW
  rw [hF, hz] at this
  exact this
 clear hlook hthere hgood hsz hTe hz hF hM hxz HE HT
 obtain ⟨s0, _⟩ := ca_at X.out 0 rfl
 obtain ⟨s1, _⟩ := ca_at X.out 1 rfl
 obtain ⟨s2, _⟩ := ca_at X.out 2 rfl
 have ss := X.out.1
 have HC := hid (CA.out at_ w4 G.out)
 go_wp2_with fail
 refine HC.out.mono ?_
 rintro e w5 ⟨rfl, hb⟩
 clear HC s0 s1 s2 ss g_w4 h_bT
 have hle := Nat.le_of_lt X.out.1
 replace B := hid (below_on B.out hle hb)
 replace X := hid (ca_below X.out hb)
 replace G := hid (srcIn_below G.out hb)
 replace RC := hid (rdCh_below RC.out hb)
 replace LT := hid (ca_below LT.out hb)
 clear hle
 clear hb
 obtain ⟨A, h_A⟩ : ∃ A, atL 0 at_ s.rules z = A := ⟨_, rfl⟩
 obtain ⟨E, h_E⟩ : ∃ E, atE 0 at_ = E := ⟨_, rfl⟩
 rw [h_A, h_E]
 have CL2 := CL.out
 rw [h_A, h_E] at CL2
 replace CL := hid CL2
 clear CL2
 replace h_A := hid h_A
 replace h_E := hid h_E
 obtain ⟨w6, g_w6, L0, hb2, sz⟩ := named_new w5 #[.int .i64 A.shift, .int .i64 A.save, .string ⟨A.name.toArray⟩] 31
 obtain ⟨bA, h_bA⟩ : ∃ b, w5.heap.size = b := ⟨_, rfl⟩
 have LA : Hid (CellsAt w6 bA [.int .i64 A.shift, .int .i64 A.save, .string ⟨A.name.toArray⟩]) := h_bA ▸ L0
 have hle := Nat.le_of_lt X.out.1
 replace B := hid (below_on B.out hle hb2)
 replace X := hid (ca_below X.out hb2)
 replace G := hid (srcIn_below G.out hb2)
 replace RC := hid (rdCh_below RC.out hb2)
 replace LT := hid (ca_below LT.out hb2)
 clear hle
 clear hb2 sz L0
 obtain ⟨t0, _⟩ := ca_at LT.out 0 rfl
 obtain ⟨t1, _⟩ := ca_at LT.out 1 rfl
 obtain ⟨t2, _⟩ := ca_at LT.out 2 rfl
 obtain ⟨t3, _⟩ := ca_at LT.out 3 rfl
 have st := LT.out.1
 have HC := hid (CL.out w6 RC.out)
 go_wp2_with fail
 refine HC.out.mono ?_
 rintro e w7 ⟨rfl, hb⟩
 clear HC t0 t1 t2 t3 st g_w6 h_bA
 have hle := Nat.le_of_lt X.out.1
 replace B := hid (below_on B.out hle hb)
 replace X := hid (ca_below X.out hb)
 replace G := hid (srcIn_below G.out hb)
 replace RC := hid (rdCh_below RC.out hb)
 replace LT := hid (ca_below LT.out hb)
 replace LA := hid (ca_below LA.out hb)
 clear hle
 clear hb
 obtain ⟨w8, g_w8, L0, hb2, sz⟩ := named_new w7 #[.int .i64 A.shift, .int .i64 A.save, .string ⟨A.name.toArray⟩] 31
 obtain ⟨bB, h_bB⟩ : ∃ b, w7.heap.size = b := ⟨_, rfl⟩
 have LB : Hid (CellsAt w8 bB [.int .i64 A.shift, .int .i64 A.save, .string ⟨A.name.toArray⟩]) := h_bB ▸ L0
 have hle := Nat.le_of_lt X.out.1
 replace B := hid (below_on B.out hle hb2)
 replace X := hid (ca_below X.out hb2)
 replace G := hid (srcIn_below G.out hb2)
 replace RC := hid (rdCh_below RC.out hb2)
 replace LT := hid (ca_below LT.out hb2)
 replace LA := hid (ca_below LA.out hb2)
 clear hle
 clear hb2 sz L0
 obtain ⟨l0, _⟩ := ca_at LA.out 0 rfl
 obtain ⟨l1, _⟩ := ca_at LA.out 1 rfl
 obtain ⟨l2, _⟩ := ca_at LA.out 2 rfl
 have sl := LA.out.1
 obtain ⟨u0, _⟩ := ca_at LB.out 0 rfl
 obtain ⟨u1, _⟩ := ca_at LB.out 1 rfl
 obtain ⟨u2, _⟩ := ca_at LB.out 2 rfl
 have su := LB.out.1
 obtain ⟨t0, _⟩ := ca_at LT.out 0 rfl
 obtain ⟨t1, _⟩ := ca_at LT.out 1 rfl
 obtain ⟨t2, _⟩ := ca_at LT.out 2 rfl
 obtain ⟨t3, _⟩ := ca_at LT.out 3 rfl
 have st := LT.out.1
 go_upto_block 0 with fail
 clear l0 l1 l2 sl u0 u1 u2 su t0 t1 t2 t3 st g_w8 h_bB
 go_cut [12] from 12 to 14 (fun v wc => wc = w8 ∧ v = .bool (T.ch.any fun c => c.at_ == at_))
 case first =>
  obtain ⟨t0, _⟩ := ca_at LT.out 0 rfl
  obtain ⟨t1, _⟩ := ca_at LT.out 1 rfl
  obtain ⟨t2, _⟩ := ca_at LT.out 2 rfl
  obtain ⟨t3, _⟩ := ca_at LT.out 3 rfl
  have st := LT.out.1
  go_wp2_with fail
  go_loop [12, 13] (fun v iv => ∃ i : Nat, i ≤ T.ch.length ∧ iv = .int .i64 i ∧ v = .bool ((T.ch.take i).any fun c => c.at_ == at_)) (fun _ iv => T.ch.length - (intOf iv).toNat)
  case atStart => exact ⟨0, Nat.zero_le _, rfl, rfl⟩
  case round =>
   obtain ⟨i, hi, rfl, rfl⟩ := hrel
   by_cases hlt : i < T.ch.length
   case neg =>
    have e : i = T.ch.length := by omega
    subst e
    rw [List.take_length]
    clear hlt
    go_wp2
    go_meet
    exact ⟨rfl, rfl⟩
   obtain ⟨c, hc⟩ : ∃ c, T.ch[i]? = some c := ⟨_, List.getElem?_eq_getElem hlt⟩
   obtain ⟨cb, co, _, e1, cl, c0, _⟩ := rdCh_at RC.out hc
   simp only [Value.slice.injEq] at e1
   obtain ⟨rfl, _, rfl⟩ := e1
   have HN : Hid (((T.ch.take (i + 1)).any fun c => c.at_ == at_) = (((T.ch.take i).any fun c => c.at_ == at_) || c.at_ == at_)) := by
    show _ = _
    rw [List.take_add_one, hc, Option.toList_some, List.any_append]; simp
   obtain ⟨P, hP⟩ : ∃ P, ((T.ch.take i).any fun c => c.at_ == at_) = P := ⟨_, rfl⟩
   rw [hP] at HN ⊢
   have q : (i : Int) < (T.ch.length : Int) := by omega
   clear hP hc
   cases P
   ·go_wp2
    go_round
    case rel => exact ⟨i + 1, by omega, by go_num, by rw [HN.out]; rfl⟩
    case measure => simp [intOf]; omega
   ·go_wp2
    go_round
    case rel => exact ⟨i + 1, by omega, by go_num, by rw [HN.out]; rfl⟩
    case measure => simp [intOf]; omega
 case rest =>
 obtain ⟨rfl, rfl⟩ := hcut
 obtain ⟨P, hP⟩ : ∃ P, (T.ch.any fun c => c.at_ == at_) = P := ⟨_, rfl⟩
 rw [hP]
 obtain ⟨at2, h_at2⟩ : ∃ x, wrap64 (at_ - 1) = x := ⟨_, rfl⟩
 have HTh2 := HTh.out at_
 rw [hP, h_at2, h_A.out, h_E.out] at HTh2
 replace HTh := hid HTh2
 clear HTh2 hP
 obtain ⟨s0, _⟩ := ca_at X.out 0 rfl
 obtain ⟨s1, _⟩ := ca_at X.out 1 rfl
 obtain ⟨s2, _⟩ := ca_at X.out 2 rfl
 have ss := X.out.1
 have HC := hid (CA.out at2 wc G.out)
 go_wp2_with fail
 refine HC.out.mono ?_
 rintro e w9 ⟨rfl, hb⟩
 clear HC s0 s1 s2 ss
 have hle := Nat.le_of_lt X.out.1
 replace B := hid (below_on B.out hle hb)
 replace X := hid (ca_below X.out hb)
 replace G := hid (srcIn_below G.out hb)
 replace RC := hid (rdCh_below RC.out hb)
 replace LT := hid (ca_below LT.out hb)
 replace LA := hid (ca_below LA.out hb)
 replace LB := hid (ca_below LB.out hb)
 clear hle
 clear hb
 obtain ⟨D, h_D⟩ : ∃ A, atL 0 at2 s.rules z = A := ⟨_, rfl⟩
 obtain ⟨H, h_H⟩ : ∃ E, atE 0 at2 = E := ⟨_, rfl⟩
 rw [h_D, h_H]
 replace h_D := hid h_D
 replace h_H := hid h_H
 replace h_at2 := hid h_at2
 obtain ⟨w10, g_w10, L0, hb2, sz⟩ := named_new w9 #[.int .i64 D.shift, .int .i64 D.save, .string ⟨D.name.toArray⟩] 31
 obtain ⟨bD, h_bD⟩ : ∃ b, w9.heap.size = b := ⟨_, rfl⟩
 have LD : Hid (CellsAt w10 bD [.int .i64 D.shift, .int .i64 D.save, .string ⟨D.name.toArray⟩]) := h_bD ▸ L0
 have hle := Nat.le_of_lt X.out.1
 replace B := hid (below_on B.out hle hb2)
 replace X := hid (ca_below X.out hb2)
 replace G := hid (srcIn_below G.out hb2)
 replace RC := hid (rdCh_below RC.out hb2)
 replace LT := hid (ca_below LT.out hb2)
 replace LA := hid (ca_below LA.out hb2)
 replace LB := hid (ca_below LB.out hb2)
 clear hle
 clear hb2 sz L0
 obtain ⟨l0, _⟩ := ca_at LA.out 0 rfl
 obtain ⟨l1, _⟩ := ca_at LA.out 1 rfl
 obtain ⟨l2, _⟩ := ca_at LA.out 2 rfl
 have sl := LA.out.1
 obtain ⟨d0, _⟩ := ca_at LD.out 0 rfl
 obtain ⟨d1, _⟩ := ca_at LD.out 1 rfl
 obtain ⟨d2, _⟩ := ca_at LD.out 2 rfl
 have sd := LD.out.1
 go_upto_region 16 with fail
 clear g_w10 h_bD
 by_cases e0 : E = 0
 case neg =>
  have p1 : (E == 0) = false := by simp [e0]
  have p2 : (E != 0) = true := by simp [e0]
  go_wp2
  go_ret
  exact ⟨rfl, B.out⟩
 subst e0
 by_cases e1 : H = 0
 case neg =>
  have p1 : (H == 0) = false := by simp [e1]
  have p2 : (H != 0) = true := by simp [e1]
  go_wp2
  go_ret
  exact ⟨rfl, B.out⟩
 subst e1
 have HP := HTh.out rfl h_H.out
 rw [h_D.out] at HP
 subst HP
 have BB := B
 clear HTh h_A h_E h_D h_H h_at2 CL CA RC LT B G X LA LB HL
 have fork : A = D ∨ ¬ A.shift = D.shift ∨ (A.shift = D.shift ∧ ¬ A.save = D.save) ∨ (A.shift = D.shift ∧ A.save = D.save ∧ ¬ A.name = D.name) := by
  clear l0 l1 l2 sl d0 d1 d2 sd
  obtain ⟨pa, pb, pc⟩ := A
  obtain ⟨qa, qb, qc⟩ := D
  simp only [Tb.Lc.mk.injEq]
  by_cases q1 : pa = qa <;> by_cases q2 : pb = qb <;> by_cases q3 : pc = qc <;> simp [q1, q2, q3]
 rcases fork with e | e | ⟨e1, e⟩ | ⟨e1, e2, e⟩
 ·subst e
  have hd : decide (A = A) = true := by simp
  rw [hd]
  go_wp2
  go_ret
  exact ⟨rfl, BB.out⟩
 ·have hd : decide (A = D) = false := by simp; rintro rfl; exact e rfl
  rw [hd]
  go_wp2
  go_ret
  exact ⟨rfl, BB.out⟩
 ·have hd : decide (A = D) = false := by simp; rintro rfl; exact e rfl
  rw [hd]
  go_wp2
  go_ret
  exact ⟨rfl, BB.out⟩
 ·have hd : decide (A = D) = false := by simp; rintro rfl; exact e rfl
  rw [hd]
  go_wp2
  go_ret
  exact ⟨rfl, BB.out⟩
theorem tableSame_row (s : Sx.Sr) (xs : List ZV) (ra za la : Option Addr) (rcap zcap lcap : Nat) (a1 : ByteArray) (at_ : Int) (w : World) (g : SrcArg s xs ra za la rcap zcap lcap w) (m : Int) (hm : w.cell? ⟨0, 0, none⟩ = some (.int .i64 m)) (h0 : 0 < w.heap.size) :
  Calls Tryz.prog 11 #[.agg #[.slice ra s.rules.length rcap, .slice za xs.length zcap, .slice la s.links.length lcap], .string a1, .int .i64 at_] w fun e w' => e = .returned (.bool true) ∧ Below w.heap.size w w' := by
 have q := tableSame_is s xs ra za la rcap zcap lcap m a1.data.toList at_ w (srcIn_arg g hm h0)
 rw [strT_of] at q
 exact q
end Go.Proofs.YtkhlkohlccndgaaGreat
namespace Go.Proofs.YtkhlkohlccndgaaGreat
open Go.ChangeShapes Go.WideShapes Go.ChangeAt Go.RowKit Go.Joins Go.ChangeMaps

theorem tableSame_lifted (os : Os) (started : os.Started) (H : Type) (enc : TypeId × Value → H) :
  ReturnsInHanded {} Tryz.checked os 11 .any (Rows.tableSameSpec.pre6 enc Tryz.prog Tryz.f11 Rows.tableSameRow.domain false) (Rows.tableSameSpec.post enc Tryz.prog Tryz.f11 false true false false) := by
 refine returnsInHanded_of_change_shaped (C := Tryz.checked) own started (by kernel_rfl) Tryz.func11
  (ChangeSpec.witness6 (enc := enc) (C := Tryz.checked) false ⟨#[], #[.agg #[.slice none 0 0, .slice none 0 0, .slice none 0 0], .string ⟨#[]⟩, .int .i64 0], []⟩ 8 (by kernel_rfl) (by kernel_rfl) (by kernel_rfl) (by kernel_rfl)) ?_
 intro W base args ds gs before hval0 hW hcnd hsz hsh _
 have hval : ∀ (j : Nat) t v, Tryz.f11.params[j]? = some t → args[j]? = some v → Value.okWide Tryz.prog W .any base t v := hval0
 have hW' := hW
 obtain ⟨p, q, hA0, hV, rfl, hfz, hnd⟩ := hW
 have hA : DataW.TrodAll enc Tryz.prog W 0 (fun _ => true) true Tryz.f11.params.toList args.toList ds p := hA0
 rw [Tryz.params11] at hA hval
 obtain ⟨v0, v1, v2, d0, d1, d2, p0, p1, p2, rfl, rfl, rfl, h0, h1, h2⟩ := trodAll_three hA
 obtain ⟨rfl, rfl⟩ := trodVars_none hV
 obtain ⟨⟨s0, xs0, ra0, za0, la0, rc0, zc0, lc0, rfl, g0⟩, lt0⟩ := open_source_arg (hval 0 26 v0 rfl rfl) h0
 obtain ⟨a1, rfl, rfl, rfl, w1⟩ := open_string Tryz.underlying9 (hval 1 9 v1 rfl rfl) h1
 obtain ⟨a2, rfl, rfl, rfl, w2⟩ := open_int Tryz.underlying3 (hval 2 3 v2 rfl rfl) h2
 obtain ⟨m, hm⟩ := maxLen_is hsh
 clear hA0 hval0
 refine (tableSame_row s0 xs0 ra0 za0 la0 rc0 zc0 lc0 a1 a2 W g0 m hm (heap_pos hm)).mono fun e W' ⟨he, bel⟩ => ?_
 subst he
 exact ⟨_, rfl, _, _, _, [], _, [], hW', trodAll_mk1 (shut_bool Tryz.underlying4 _), trodAll_mk3 (source_stays h0 bel lt0) (shut_string Tryz.underlying9 w1) (shut_int Tryz.underlying3 w2), rfl, bel.frame _, fun h => by cases h⟩

theorem tableSame_holds : Rows.TableSameSaid :=
 OpenClaim.holds_of_wide 11 Tryz.f11 rfl rfl rfl rfl rfl rfl rfl ⟨rfl, rfl, rfl, rfl, rfl⟩ rfl rfl rfl rfl rfl (by kernel_rfl) Tryz.func11 (by kernel_rfl)
  (of_decide_eq_true (by kernel_rfl)) (by unfold Func.isWrapper; first | (rw [if_pos (by decide +kernel)]; kernel_rfl) | (rw [if_neg (by decide +kernel)]; exact ⟨rfl, rfl⟩))
  (fun os started H enc _ => tableSame_lifted os started H enc)
#print axioms tableSame_holds
end Go.Proofs.YtkhlkohlccndgaaGreat
