/- Contracts of the program's table.checkChange and table.Check. · The contract of the document's CheckTable. · When clocks show a time: the answers rise. · What local's Wall and When answer: in plain terms, and as ends of calls. · The contract of the program's table.Check. · sort.Search and slices.Sort at a list of numbers, at this dump: applications of the library s contracts. · Contracts of the program's moment.Local and table.Look. · The laws' small table. · What must be of tables in any case, is. · MaxLen's cell: some int, whatever it is: out of the world's shape. -/
import Derived.Test.YtkhlkohlccndgaaGreatQz
import Derived.Test.YtkhlkohlccndgaaGreatQal
import Derived.Deep.RegionHeld3
import Derived.Deep.Cut
import Derived.Deep.CutRange
import Derived.Test.YtkhlkohlccndgaaGreatQag
import Derived.Shelf.Sort.Plain
import Derived.Shelf.Slices.In.SortNone
import Derived.Shelf.SlSorted.Search
import Derived.Test.YtkhlkohlccndgaaGreatProg
import Derived.RegionTactic
import Derived.Test.YtkhlkohlccndgaaGreatQaa
import Derived.ProofKit
import Derived.OpenShut
import Derived.Lib.SmallJoins
import Derived.Carry
import Derived.HandedShaped
set_option linter.unusedVariables false
set_option linter.unusedSimpArgs false
set_option maxRecDepth 100000
set_option maxHeartbeats 16000000
namespace Go.Proofs.YtkhlkohlccndgaaGreat
open Go.RowKit

/- what is wrong with a change, behind one -/
def chgE (was : Tb.Lc) (p : Int) (c : Tb.Cg) : Int := if Tb.inYears c.at_ = false then 3 else if c.at_ ≤ p then 4 else if Tb.localE c.lc ≠ 0 then Tb.localE c.lc else if c.lc = was then 4 else 0
theorem two_boxes (w : World) (a b : List Value) (t : TypeId) {V : World} (hV : (w.alloc (.cells a.toArray t)).alloc (.cells b.toArray t) = V) :
  CellsAt V w.heap.size a ∧ CellsAt V (w.heap.size + 1) b ∧ Below w.heap.size w V := by
 subst hV
 refine ⟨ca_alloc (ca_new _ _ _) _, ?_, ((Below.refl _ _).alloc (Nat.le_refl _) _).alloc (by simp) _⟩
 have := ca_new (w.alloc (.cells a.toArray t)) b t
 simpa using this
theorem checkChange_any (p : Int) (o : Tb.Lc) (c : Tb.Cg) (w : World) (hn : c.lc.name.length ≤ maxLen) :
  Calls Tryz.prog 74 #[cgV ⟨p, o⟩, cgV c] w fun e w' => e = .returned (.int .i64 (chgE o p c)) ∧ Below w.heap.size w w' := by
 obtain ⟨ca, cl⟩ := c
 obtain ⟨R, hR⟩ : ∃ R, chgE o p ⟨ca, cl⟩ = R := ⟨_, rfl⟩
 rw [hR]
 have HR : Hid (R = if Tb.inYears ca = false then 3 else if ca ≤ p then 4 else if Tb.localE cl ≠ 0 then Tb.localE cl else if cl = o then 4 else 0) := by show _ = _; rw [← hR]; rfl
 have HN : Hid (cl.name.length ≤ maxLen) := hn
 clear hR hn
 obtain ⟨V, hV⟩ : ∃ V, (w.alloc (.cells (cgCells ⟨p, o⟩).toArray 86)).alloc (.cells (cgCells ⟨ca, cl⟩).toArray 86) = V := ⟨_, rfl⟩
 obtain ⟨X, Y, B⟩ := two_boxes w _ _ _ hV
 have HX := hid X
 have HY := hid Y
 have HB := hid B
 have hV' : (w.alloc (.cells #[.int .i64 p, .int .i64 o.shift, .int .i64 o.save, .string ⟨o.name.toArray⟩] 86)).alloc (.cells #[.int .i64 ca, .int .i64 cl.shift, .int .i64 cl.save, .string ⟨cl.name.toArray⟩] 86) = V := hV
 have HV := hid hV'
 clear X Y B hV hV'
 obtain ⟨T, hT⟩ : ∃ T, Tb.inYears ca = T := ⟨_, rfl⟩
 have HT := hid hT
 clear hT
 cases T
 case false =>
  have H2 : Hid (R = 3) := by show _ = _; rw [HR.out, if_pos HT.out]
  clear HR
  go_enter Tryz.func74, Tryz.ntmps74
  go_wp2_with (go_at_call 47; refine (pInYears_is _ _ HT.out).mono ?_; rintro e w1 ⟨rfl, rfl⟩)
  go_ret
  exact ⟨ret_int (by rw [H2.out]), by rw [HV.out]; exact HB.out⟩
 by_cases hp : ca ≤ p
 ·have H2 : Hid (R = 4) := by show _ = _; rw [HR.out, if_neg (by simp [HT.out]), if_pos hp]
  clear HR
  go_enter Tryz.func74, Tryz.ntmps74
  go_wp2_with (go_at_call 47; refine (pInYears_is _ _ HT.out).mono ?_; rintro e w1 ⟨rfl, rfl⟩)
  go_ret
  exact ⟨ret_int (by rw [H2.out]), by rw [HV.out]; exact HB.out⟩
 have HR2 : Hid (R = if Tb.localE cl ≠ 0 then Tb.localE cl else if cl = o then 4 else 0) := by show _ = _; rw [HR.out, if_neg (by simp [HT.out]), if_neg hp]
 clear HR
 go_enter Tryz.func74, Tryz.ntmps74
 go_wp2_with (go_at_call 47; refine (pInYears_is _ _ HT.out).mono ?_; rintro e w1 ⟨rfl, rfl⟩)
 rw [HV.out]
 clear HV HT
 refine (pCheckLocal_any cl _ HN.out).mono ?_
 rintro e w5 ⟨rfl, hb5⟩
 have XU := hid (ca_below HX.out hb5)
 have YU := hid (ca_below HY.out hb5)
 have BU : Hid (Below w.heap.size w w5) := HB.out.trans (hb5.mono HB.out.size)
 clear HX HY HB hb5 HN
 obtain ⟨L, hL⟩ : ∃ L, Tb.localE cl = L := ⟨_, rfl⟩
 rw [hL] at HR2 ⊢
 clear hL
 by_cases h0 : L = 0
 case neg =>
  have H2 : Hid (R = L) := by show _ = _; rw [HR2.out, if_pos h0]
  have h0' : (L != 0) = true := by simp [h0]
  clear HR2
  go_wp2
  go_ret
  exact ⟨ret_int (by rw [H2.out]), BU.out⟩
 subst h0
 have HR3 : Hid (R = if cl = o then 4 else 0) := by show _ = _; rw [HR2.out]; simp
 clear HR2
 obtain ⟨x1, f1⟩ := ca_at XU.out 1 rfl
 obtain ⟨x2, f2⟩ := ca_at XU.out 2 rfl
 obtain ⟨x3, f3⟩ := ca_at XU.out 3 rfl
 obtain ⟨y1, g1⟩ := ca_at YU.out 1 rfl
 obtain ⟨y2, g2⟩ := ca_at YU.out 2 rfl
 obtain ⟨y3, g3⟩ := ca_at YU.out 3 rfl
 have sx := XU.out.1
 have sy := YU.out.1
 by_cases hE : cl = o
 ·have H2 : Hid (R = 4) := by show _ = _; rw [HR3.out, if_pos hE]
  clear HR3
  subst hE
  go_wp2
  go_ret
  exact ⟨ret_int (by rw [H2.out]), BU.out⟩
 ·have H2 : Hid (R = 0) := by show _ = _; rw [HR3.out, if_neg hE]
  clear HR3
  obtain ⟨cs, cv, cn⟩ := cl
  obtain ⟨os, ov, on⟩ := o
  dsimp only at x1 x2 x3 y1 y2 y3 ⊢
  have h3 : ¬ cs = os ∨ (cs = os ∧ ¬ cv = ov) ∨ (cs = os ∧ cv = ov ∧ ¬ cn = on) := by
   by_cases q1 : cs = os <;> by_cases q2 : cv = ov <;> by_cases q3 : cn = on <;> simp_all
  clear hE
  rcases h3 with h3 | ⟨rfl, h3⟩ | ⟨rfl, rfl, h3⟩
  all_goals
   go_wp2
   go_ret
   exact ⟨ret_int (by rw [H2.out]), BU.out⟩

/- the time ahead: of the first change, a second ahead of all -/
def pvOf : Option Int → Int
 | none => -62135596801
 | some p => p
theorem goE_chg {was : Tb.Lc} {prev : Option Int} {c : Tb.Cg} {r : List Tb.Cg} : Tb.goE was prev (c :: r) = if chgE was (pvOf prev) c ≠ 0 then chgE was (pvOf prev) c else Tb.goE c.lc (some c.at_) r := by
 rw [Tb.goE_cons]
 unfold chgE Tb.inYears
 cases hT : Sx.inB c.at_ Tb.least Tb.most
 ·simp
 ·have hl : Tb.late prev c.at_ = decide (c.at_ ≤ pvOf prev) := by
   cases prev with
   | none =>
     have : (-62135596800 : Int) ≤ c.at_ := by simp [Sx.inB] at hT; exact hT.1
     have h2 : ¬ c.at_ ≤ -62135596801 := by omega
     simp [Tb.late, pvOf, h2]
   | some p => rfl
  rw [hl]
  by_cases h1 : c.at_ ≤ pvOf prev
  ·simp [h1]
  ·by_cases h2 : Tb.localE c.lc = 0
   ·by_cases h3 : c.lc = was
    ·have h2' : Tb.localE was = 0 := h3 ▸ h2
     simp [h1, h2', h3]
    ·simp [h1, h2, h3]
   ·simp [h1, h2]
end Go.Proofs.YtkhlkohlccndgaaGreat
namespace Go.Proofs.YtkhlkohlccndgaaGreat
open Go.RowKit

def prevOf (ch : List Tb.Cg) : Nat → Option Int
 | 0 => none
 | k + 1 => (ch[k]?).map (·.at_)
theorem checkTable_any (t : Tb.Tbl) (v : Value) (w : World) (h : RdCh w v t.ch) (hl : t.ch.length ≤ maxLen) (hf : t.first.name.length ≤ maxLen) (hn : ∀ c ∈ t.ch, c.lc.name.length ≤ maxLen) :
  Calls Tryz.prog 33 #[tbV t.first v] w fun e w' => e = .returned (.int .i64 (Tb.tableE t)) ∧ Below w.heap.size w w' := by
 obtain ⟨f, ch⟩ := t
 obtain ⟨R, hR⟩ : ∃ R, Tb.tableE ⟨f, ch⟩ = R := ⟨_, rfl⟩
 rw [hR]
 have HR : Hid (R = if 1000 < ch.length then 2 else if Tb.localE f ≠ 0 then Tb.localE f else Tb.goE f none ch) := by show _ = _; rw [← hR]; rfl
 clear hR
 simp only at h hl hf hn
 have h' := h
 obtain ⟨a, cap, rfl, hc⟩ := h'
 have H := hid h
 have HN := hid hn
 have HF := hid hf
 clear h hc hn hf
 unfold maxLen at hl
 by_cases h1000 : 1000 < ch.length
 ·have HR2 : Hid (R = 2) := by show _ = _; rw [HR.out, if_pos h1000]
  go_enter Tryz.func33, Tryz.ntmps33
  go_wp2_with fail
  go_ret
  exact ⟨ret_int (by rw [HR2.out]), (Below.refl _ _).alloc (Nat.le_refl _) _⟩
 have HR2 : Hid (R = if Tb.localE f ≠ 0 then Tb.localE f else Tb.goE f none ch) := by show _ = _; rw [HR.out, if_neg h1000]
 clear HR hl
 go_enter Tryz.func33, Tryz.ntmps33
 go_wp2_with fail
 refine (checkLocal_any f _ HF.out).mono ?_
 rintro e w1 ⟨rfl, hb1⟩
 obtain ⟨L, hL⟩ : ∃ L, Tb.localE f = L := ⟨_, rfl⟩
 rw [hL] at HR2
 rw [hL]
 clear hL
 have X1 : Hid (CellsAt w1 w.heap.size (tbL f (.slice a ch.length cap))) := ca_below (ca_new w (tbL f (.slice a ch.length cap)) 76) hb1
 have B1 : Hid (Below w.heap.size w w1) := ((Below.refl w.heap.size w).alloc (Nat.le_refl _) _).trans (hb1.mono (by simp))
 clear hb1
 by_cases h0 : L = 0
 case neg =>
  have HR3 : Hid (R = L) := by show _ = _; rw [HR2.out, if_pos h0]
  have h0' : (L != 0) = true := by simp [h0]
  go_wp2
  go_ret
  exact ⟨ret_int (by rw [HR3.out]), B1.out⟩
 have HR3 : Hid (R = Tb.goE f (prevOf ch 0) (ch.drop 0)) := by show _ = _; rw [HR2.out, if_neg (by simp [h0])]; rfl
 subst h0
 clear HR2
 obtain ⟨x0, f0⟩ := ca_at X1.out 0 rfl
 obtain ⟨x1, f1⟩ := ca_at X1.out 1 rfl
 obtain ⟨x2, f2⟩ := ca_at X1.out 2 rfl
 have sx := X1.out.1
 go_wp2_with fail
 obtain ⟨M, hM⟩ : ∃ M, w1.heap.size = M := ⟨_, rfl⟩
 have X2 := hid (ca_alloc X1.out (.cells (lcL f).toArray 31))
 have B2 := hid (Below.alloc B1.out B1.out.size (.cells (lcL f).toArray 31))
 have Y2 : Hid (CellsAt (w1.alloc (.cells (lcL f).toArray 31)) M (lcL f)) := by rw [← hM]; exact ca_new _ _ _
 have hNM : ¬ w.heap.size = M := by omega
 have hNM' : w.heap.size < M := by omega
 rw [hM]
 clear X1 B1 x0 f0 x1 f1 x2 f2 sx hM
 go_loopw [5] (fun b wr => ∃ (i : Nat) (o : Tb.Lc), i ≤ ch.length ∧ b = .int .i64 i ∧ Hid (R = Tb.goE o (prevOf ch i) (ch.drop i)) ∧ Hid (Below w.heap.size w wr) ∧ Hid (CellsAt wr w.heap.size (tbL f (.slice a ch.length cap))) ∧ Hid (CellsAt wr M (lcL o))) (fun b _ => ch.length - (intOf b).toNat)
 case atStart => exact ⟨0, f, by omega, rfl, HR3, B2, X2, Y2⟩
 case round =>
  clear B2 X2 Y2 HR3
  obtain ⟨i, o, hi, rfl, HR, B0, X0, Y0⟩ := hrel
  obtain ⟨x3, f3⟩ := ca_at X0.out 3 rfl
  have sx := X0.out.1
  have sy := Y0.out.1
  by_cases hlt : i < ch.length
  case neg =>
   have HR2 : Hid (R = 0) := by show _ = _; rw [HR.out, List.drop_eq_nil_of_le (by omega)]; rfl
   go_wp2
   go_ret
   exact ⟨ret_int (by rw [HR2.out]), B0.out⟩
  obtain ⟨c, hcc⟩ : ∃ c, ch[i]? = some c := ⟨_, List.getElem?_eq_getElem hlt⟩
  obtain ⟨bb, bo, bcap, e, hbb, c0, c1, c2, c3⟩ := rdCh_at (rdCh_below H.out B0.out) hcc
  simp only [Value.slice.injEq] at e
  obtain ⟨rfl, _, rfl⟩ := e
  have HC := hid hcc
  have HR1 : Hid (R = Tb.goE o (prevOf ch i) (c :: ch.drop (i + 1))) := by show _ = _; rw [HR.out, Tb.drop_get hcc]
  clear hcc HR
  have BV := hid (Below.alloc B0.out B0.out.size (.cells (cgCells c).toArray 86))
  have XV := hid (ca_alloc X0.out (.cells (cgCells c).toArray 86))
  have YV := hid (ca_alloc Y0.out (.cells (cgCells c).toArray 86))
  have ZV := hid (ca_new wr (cgCells c) 86)
  obtain ⟨C, hC⟩ : ∃ C, wr.heap.size = C := ⟨_, rfl⟩
  have hMC : M < C := by omega
  have hNC : w.heap.size < C := by omega
  rw [hC] at ZV
  go_wp2_with fail
  obtain ⟨V, hV⟩ : ∃ V, wr.alloc (.cells (cgCells c).toArray 86) = V := ⟨_, rfl⟩
  rw [show wr.alloc (.cells #[.int .i64 c.at_, .int .i64 c.lc.shift, .int .i64 c.lc.save, .string ⟨c.lc.name.toArray⟩] 86) = V from hV]
  rw [hV] at BV XV YV ZV
  clear hV hC B0 X0 Y0 x3 f3 sx sy c0 c1 c2 c3 hbb
  have z0 : V.cell? ⟨C, 0, none⟩ = some (.int .i64 c.at_) := (ca_at ZV.out 0 rfl).1
  have sz := ZV.out.1
  obtain ⟨T, hT⟩ : ∃ T, Sx.inB c.at_ Tb.least Tb.most = T := ⟨_, rfl⟩
  have HT := hid hT
  have HT' : Hid (decide ((-62135596800 : Int) ≤ c.at_ ∧ c.at_ ≤ 253402300799) = T) := hT
  clear hT
  go_region_held3 (fun w' => w'.cell? ⟨C, 0, none⟩ = some (.int .i64 c.at_)) (first | go_keep | exact z0 | exact (hb3.cell (p := ⟨C, 0, none⟩) hs2).trans ((hb2.cell (p := ⟨C, 0, none⟩) hs1).trans z0) | exact (hb2.cell (p := ⟨C, 0, none⟩) hs1).trans z0)
   (first | (go_at_call 23; refine (least_any _).mono ?_; first | (rintro e w3 ⟨rfl, hb3⟩; have hs2 : C < w2.heap.size := Nat.lt_of_lt_of_le hs1 hb2.size) | (rintro e w2 ⟨rfl, hb2⟩; have hs1 : C < V.drew.heap.size := sz)) | (go_at_call 24; refine (most_any _).mono ?_; first | (rintro e w3 ⟨rfl, hb3⟩; have hs2 : C < w2.heap.size := Nat.lt_of_lt_of_le hs1 hb2.size) | (rintro e w2 ⟨rfl, hb2⟩; have hs1 : C < V.drew.heap.size := sz)) | (go_at_call 77; refine (between_is c.at_ (-62135596800) 253402300799 _ HT'.out).mono ?_; rintro e w4 ⟨rfl, rfl⟩))
  all_goals
   have q0 : Below V.heap.size V V.drew := ⟨rfl, rfl, rfl, Nat.le_refl _, fun _ _ => rfl⟩
   have BB : Below V.heap.size V w4 := (q0.trans hb2).trans (hb3.mono hb2.size)
   have XW := hid (ca_below XV.out BB)
   have YW := hid (ca_below YV.out BB)
   have ZW := hid (ca_below ZV.out BB)
   have BW : Hid (Below w.heap.size w w4) := BV.out.trans (BB.mono BV.out.size)
   clear XV YV ZV BV BB q0 hb2 hb3 hs1 hs2 z0 sz
   obtain ⟨z0, g0⟩ := ca_at ZW.out 0 rfl
   obtain ⟨z1, g1⟩ := ca_at ZW.out 1 rfl
   obtain ⟨z2, g2⟩ := ca_at ZW.out 2 rfl
   obtain ⟨z3, g3⟩ := ca_at ZW.out 3 rfl
   obtain ⟨x3, f3⟩ := ca_at XW.out 3 rfl
   have sz := ZW.out.1
   have sx := XW.out.1
   have sy := YW.out.1
   cases T
   ·have HR2 : Hid (R = 3) := by show _ = _; rw [HR1.out]; exact Tb.goE_1 HT.out
    clear HT HT' HR1
    go_wp2
    go_ret
    exact ⟨ret_int (by rw [HR2.out]), BW.out⟩
   cases i with
   | zero =>
     clear HT'
     go_wp2_with fail
     go_quiet (fail)
     go_wp2_with fail
     refine (checkLocal_any c.lc _ (HN.out c (List.mem_of_getElem? HC.out))).mono ?_
     rintro e w5 ⟨rfl, hb5⟩
     have BB : Below w4.heap.size w4 w5 := (below_drewN (Below.refl _ _) nq).trans (by simpa using hb5)
     have XU := hid (ca_below XW.out BB)
     have YU := hid (ca_below YW.out BB)
     have ZU := hid (ca_below ZW.out BB)
     have BU : Hid (Below w.heap.size w w5) := BW.out.trans (BB.mono BW.out.size)
     clear XW YW ZW BW BB hb5 z0 g0 z1 g1 z2 g2 z3 g3 x3 f3 sz sx sy
     obtain ⟨L, hL⟩ : ∃ L, Tb.localE c.lc = L := ⟨_, rfl⟩
     have HL0 := hid hL
     rw [hL]
     clear hL
     by_cases h0 : L = 0
     case neg =>
      have HR2 : Hid (R = L) := by show _ = _; rw [HR1.out]; exact (Tb.goE_3 HT.out rfl (by rw [HL0.out]; exact h0)).trans HL0.out
      have h0' : (L != 0) = true := by simp [h0]
      clear HR1 HT HL0
      go_wp2
      go_ret
      exact ⟨ret_int (by rw [HR2.out]), BU.out⟩
     subst h0
     obtain ⟨z1, g1⟩ := ca_at ZU.out 1 rfl
     obtain ⟨z2, g2⟩ := ca_at ZU.out 2 rfl
     obtain ⟨z3, g3⟩ := ca_at ZU.out 3 rfl
     obtain ⟨y0, k0⟩ := ca_at YU.out 0 rfl
     obtain ⟨y1, k1⟩ := ca_at YU.out 1 rfl
     obtain ⟨y2, k2⟩ := ca_at YU.out 2 rfl
     have sz := ZU.out.1
     have sx := XU.out.1
     have sy := YU.out.1
     by_cases hE : c.lc = o
     ·have HR2 : Hid (R = 4) := by show _ = _; rw [HR1.out]; exact Tb.goE_4 HT.out rfl HL0.out hE
      clear HR1 HT HL0
      subst hE
      go_wp2
      go_ret
      exact ⟨ret_int (by rw [HR2.out]), BU.out⟩
     ·have HR2 : Hid (R = Tb.goE c.lc (some c.at_) (ch.drop (0 + 1))) := by show _ = _; rw [HR1.out]; exact Tb.goE_5 HT.out rfl HL0.out hE
      clear HR1 HT HL0
      obtain ⟨ca, ⟨cs, cv, cn⟩⟩ := c
      obtain ⟨os, ov, on⟩ := o
      dsimp only at y0 y1 y2 z1 z2 z3 ⊢
      have h3 : ¬ cs = os ∨ (cs = os ∧ ¬ cv = ov) ∨ (cs = os ∧ cv = ov ∧ ¬ cn = on) := by
       by_cases q1 : cs = os <;> by_cases q2 : cv = ov <;> by_cases q3 : cn = on <;> simp_all
      clear hE
      rcases h3 with h3 | ⟨rfl, h3⟩ | ⟨rfl, rfl, h3⟩
      all_goals
       go_wp2
       go_roundw
       case rel =>
        refine ⟨0 + 1, ⟨cs, cv, cn⟩, by omega, by go_num, ?_, ?_, ?_, ?_⟩
        ·show R = _
         rw [HR2.out]
         congr 1
         simp [prevOf, HC.out]
        ·exact below_set (below_set (below_set BU.out (by omega) _) (by omega) _) (by omega) _
        ·exact ca_far (ca_far (ca_far XU.out (by omega)) (by omega)) (by omega)
        ·exact ca_put (ca_put (ca_put YU.out 0 _ (by simp)) 1 _ (by simp)) 2 _ (by simp)
       case measure => simp [intOf]; omega
   | succ k =>
     obtain ⟨d, hd⟩ : ∃ d, ch[k]? = some d := ⟨_, List.getElem?_eq_getElem (by omega)⟩
     obtain ⟨bb', bo', bcap', e, hbb, d0, d1, d2, d3⟩ := rdCh_at (rdCh_below H.out BW.out) hd
     simp only [Value.slice.injEq, Option.some.injEq, Addr.mk.injEq] at e
     obtain ⟨⟨rfl, rfl, _⟩, _, rfl⟩ := e
     clear HT'
     by_cases hp : c.at_ ≤ d.at_
     ·have HR2 : Hid (R = 4) := by show _ = _; rw [HR1.out]; exact Tb.goE_2 HT.out (by simp [prevOf, hd, Tb.late, hp])
      clear hd HT HR1
      go_wp2_with fail
      go_quiet (fail)
      go_wp2_with fail
      go_ret
      exact ⟨ret_int (by rw [HR2.out]), below_drewN BW.out _⟩
     ·have HL : Hid (Tb.late (prevOf ch (k + 1)) c.at_ = false) := by show _ = _; simp [prevOf, hd, Tb.late]; omega
      clear hd
      go_wp2_with fail
      go_quiet (fail)
      go_wp2_with fail
      refine (checkLocal_any c.lc _ (HN.out c (List.mem_of_getElem? HC.out))).mono ?_
      rintro e w5 ⟨rfl, hb5⟩
      have BB : Below w4.heap.size w4 w5 := (below_drewN (Below.refl _ _) nq).trans (by simpa using hb5)
      have XU := hid (ca_below XW.out BB)
      have YU := hid (ca_below YW.out BB)
      have ZU := hid (ca_below ZW.out BB)
      have BU : Hid (Below w.heap.size w w5) := BW.out.trans (BB.mono BW.out.size)
      clear XW YW ZW BW BB hb5 z0 g0 z1 g1 z2 g2 z3 g3 x3 f3 sz sx sy
      obtain ⟨L, hL⟩ : ∃ L, Tb.localE c.lc = L := ⟨_, rfl⟩
      have HL0 := hid hL
      rw [hL]
      clear hL
      by_cases h0 : L = 0
      case neg =>
       have HR2 : Hid (R = L) := by show _ = _; rw [HR1.out]; exact (Tb.goE_3 HT.out HL.out (by rw [HL0.out]; exact h0)).trans HL0.out
       have h0' : (L != 0) = true := by simp [h0]
       clear HR1 HT HL0
       go_wp2
       go_ret
       exact ⟨ret_int (by rw [HR2.out]), BU.out⟩
      subst h0
      obtain ⟨z1, g1⟩ := ca_at ZU.out 1 rfl
      obtain ⟨z2, g2⟩ := ca_at ZU.out 2 rfl
      obtain ⟨z3, g3⟩ := ca_at ZU.out 3 rfl
      obtain ⟨y0, k0⟩ := ca_at YU.out 0 rfl
      obtain ⟨y1, k1⟩ := ca_at YU.out 1 rfl
      obtain ⟨y2, k2⟩ := ca_at YU.out 2 rfl
      have sz := ZU.out.1
      have sx := XU.out.1
      have sy := YU.out.1
      by_cases hE : c.lc = o
      ·have HR2 : Hid (R = 4) := by show _ = _; rw [HR1.out]; exact Tb.goE_4 HT.out HL.out HL0.out hE
       clear HR1 HT HL0
       subst hE
       go_wp2
       go_ret
       exact ⟨ret_int (by rw [HR2.out]), BU.out⟩
      ·have HR2 : Hid (R = Tb.goE c.lc (some c.at_) (ch.drop ((k + 1) + 1))) := by show _ = _; rw [HR1.out]; exact Tb.goE_5 HT.out HL.out HL0.out hE
       clear HR1 HT HL0
       obtain ⟨ca, ⟨cs, cv, cn⟩⟩ := c
       obtain ⟨os, ov, on⟩ := o
       dsimp only at y0 y1 y2 z1 z2 z3 ⊢
       have h3 : ¬ cs = os ∨ (cs = os ∧ ¬ cv = ov) ∨ (cs = os ∧ cv = ov ∧ ¬ cn = on) := by
        by_cases q1 : cs = os <;> by_cases q2 : cv = ov <;> by_cases q3 : cn = on <;> simp_all
       clear hE
       rcases h3 with h3 | ⟨rfl, h3⟩ | ⟨rfl, rfl, h3⟩
       all_goals
        go_wp2
        go_roundw
        case rel =>
         refine ⟨k + 1 + 1, ⟨cs, cv, cn⟩, by omega, by go_num, ?_, ?_, ?_, ?_⟩
         ·show R = _
          rw [HR2.out]
          congr 1
          simp [prevOf, HC.out]
         ·exact below_set (below_set (below_set BU.out (by omega) _) (by omega) _) (by omega) _
         ·exact ca_far (ca_far (ca_far XU.out (by omega)) (by omega)) (by omega)
         ·exact ca_put (ca_put (ca_put YU.out 0 _ (by simp)) 1 _ (by simp)) 2 _ (by simp)
        case measure => simp [intOf]; omega
end Go.Proofs.YtkhlkohlccndgaaGreat
namespace Go.Proofs.YtkhlkohlccndgaaGreat.Tb

theorem rise_all : ∀ (l : List Cg) (c : Cg), Rise (c :: l) → ∀ d ∈ l, c.at_ < d.at_
 | [], _, _, _, h => by simp at h
 | a :: r, c, h, d, hd => by
   obtain ⟨h1, h2⟩ := h
   simp at hd
   rcases hd with rfl | hd
   ·exact h1
   ·exact Int.lt_trans h1 (rise_all r a h2 d hd)
theorem rise_tail {c : Cg} {l : List Cg} (h : Rise (c :: l)) : Rise l := by
 cases l with
 | nil => trivial
 | cons d r => exact h.2
theorem spans_sorted : ∀ (l : List Cg) (n f s : Int), Rise l → (∀ c ∈ l, f ≤ c.at_ ∧ c.at_ ≤ most) → (∀ x ∈ spans n f s l, f ≤ x ∧ x ≤ most) ∧ (spans n f s l).Pairwise (· < ·)
 | [], n, f, s, _, _ => by
   simp only [spans]
   split
   ·rename_i h; simp; exact ⟨h.1, by have := h.2; omega⟩
   ·simp
 | c :: r, n, f, s, hr, hb => by
   have hc := hb c (by simp)
   obtain ⟨i1, i2⟩ := spans_sorted r n c.at_ c.lc.shift (rise_tail hr) (fun d hd => ⟨Int.le_of_lt (rise_all r c hr d hd), (hb d (by simp [hd])).2⟩)
   simp only [spans]
   split
   ·rename_i h
    refine ⟨?_, ?_⟩
    ·intro x hx
     simp at hx
     rcases hx with rfl | hx
     ·exact ⟨h.1, by omega⟩
     ·have := i1 x hx; omega
    ·simp only [List.singleton_append, List.pairwise_cons]
     exact ⟨fun x hx => by have := i1 x hx; omega, i2⟩
   ·simp only [List.nil_append]
    exact ⟨fun x hx => by have := i1 x hx; omega, i2⟩
/- what is left to gather, from a change on -/
def left (n f s : Int) (ch : List Cg) (i : Nat) : List Int := if i ≤ ch.length then spans n f s (ch.drop i) else []
end Go.Proofs.YtkhlkohlccndgaaGreat.Tb
namespace Go.Proofs.YtkhlkohlccndgaaGreat
open Go.RowKit

def Tb.wallErr (t : Tb.Tbl) (at_ : Int) : Int := if Tb.tableE t ≠ 0 then Tb.tableE t else if Tb.inYears at_ = false then 3 else Tb.wallE t at_
def Tb.dayB (y m d s : Int) : Bool := Cv.vldB y m d && decide (0 ≤ s ∧ s < 86400)
def Tb.whenErr (t : Tb.Tbl) (y m d s : Int) : Int := if Tb.tableE t ≠ 0 then Tb.tableE t else if Tb.dayB y m d s = false then 3 else 0
def Tb.whenL (t : Tb.Tbl) (y m d s : Int) : List Int := if Tb.whenErr t y m d s = 0 then Tb.spans (Cv.num y m d * 86400 + s) Tb.least t.first.shift t.ch else []
/- a table that can be handed on: its texts have a length -/
structure Tb.Sized (t : Tb.Tbl) : Prop where
 ch : t.ch.length ≤ maxLen
 first : t.first.name.length ≤ maxLen
 names : ∀ c ∈ t.ch, c.lc.name.length ≤ maxLen
def WallEnd (t : Tb.Tbl) (at_ : Int) (w : World) (e : Ending) (w' : World) : Prop :=
 Below w.heap.size w w' ∧ ∃ a b c s : Int, e = .returned (.tuple #[.agg #[.int .i64 a, .int .i64 b, .int .i64 c], .int .i64 s, .int .i64 (Tb.wallErr t at_)]) ∧
  (Tb.wallErr t at_ = 0 → Cv.vldB a b c = true ∧ Cv.num a b c = Tb.wallD t at_ ∧ s = Tb.wallN t at_ - 86400 * Tb.wallD t at_) ∧ (Tb.wallErr t at_ ≠ 0 → a = 0 ∧ b = 0 ∧ c = 0 ∧ s = 0)
def WhenEnd (t : Tb.Tbl) (y m d s : Int) (w : World) (e : Ending) (w' : World) : Prop :=
 Below w.heap.size w w' ∧ ∃ u, e = .returned (.tuple #[u, .int .i64 (Tb.whenErr t y m d s)]) ∧ RdInts w' u (Tb.whenL t y m d s)
/- what was told at a time lies among what may be told -/
theorem Tb.lookL_bd : ∀ (l : List Tb.Cg) (o : Tb.Lc) (n : Int), Tb.localE o = 0 → (∀ c ∈ l, Tb.localE c.lc = 0) → Tb.localE (Tb.lookL o n l) = 0
 | [], o, n, h, _ => h
 | c :: r, o, n, h, hc => by
   simp only [Tb.lookL]
   refine Tb.lookL_bd r _ n ?_ (fun d hd => hc d (by simp [hd]))
   split
   ·exact hc c (by simp)
   ·exact h
theorem Tb.look_bd {t : Tb.Tbl} (h : Tb.tableE t = 0) (n : Int) : Tb.localE (Tb.look t n) = 0 := by
 obtain ⟨_, g2, g3⟩ := Tb.good_parts h
 obtain ⟨_, q, _⟩ := Tb.goE_rise t.ch t.first none g3
 exact Tb.lookL_bd t.ch t.first n g2 fun c hc => (q c hc).2.2
end Go.Proofs.YtkhlkohlccndgaaGreat
namespace Go.Proofs.YtkhlkohlccndgaaGreat
open Go.RowKit

theorem pCheck_any (t : Tb.Tbl) (v : Value) (w : World) (h : RdCh w v t.ch) (hS : Tb.Sized t) :
  Calls Tryz.prog 31 #[tbV t.first v] w fun e w' => e = .returned (.int .i64 (Tb.tableE t)) ∧ Below w.heap.size w w' := by
 obtain ⟨hl, hf, hn⟩ := hS
 obtain ⟨f, ch⟩ := t
 obtain ⟨R, hR⟩ : ∃ R, Tb.tableE ⟨f, ch⟩ = R := ⟨_, rfl⟩
 rw [hR]
 have HR : Hid (R = if 1000 < ch.length then 2 else if Tb.localE f ≠ 0 then Tb.localE f else Tb.goE f none ch) := by show _ = _; rw [← hR]; rfl
 clear hR
 simp only at h hl hf hn
 have h' := h
 obtain ⟨a, cap, rfl, hc⟩ := h'
 have H := hid h
 have HN := hid hn
 have HF := hid hf
 clear h hc hn hf
 unfold maxLen at hl
 by_cases h1000 : 1000 < ch.length
 ·have HR2 : Hid (R = 2) := by show _ = _; rw [HR.out, if_pos h1000]
  go_enter Tryz.func31, Tryz.ntmps31
  go_wp2_with fail
  go_ret
  exact ⟨ret_int (by rw [HR2.out]), (Below.refl _ _).alloc (Nat.le_refl _) _⟩
 have HR2 : Hid (R = if Tb.localE f ≠ 0 then Tb.localE f else Tb.goE f none ch) := by show _ = _; rw [HR.out, if_neg h1000]
 clear HR hl
 go_enter Tryz.func31, Tryz.ntmps31
 go_wp2_with fail
 refine (pCheckLocal_any f _ HF.out).mono ?_
 rintro e w1 ⟨rfl, hb1⟩
 obtain ⟨L, hL⟩ : ∃ L, Tb.localE f = L := ⟨_, rfl⟩
 rw [hL] at HR2
 rw [hL]
 clear hL
 have X1 : Hid (CellsAt w1 w.heap.size (tbL f (.slice a ch.length cap))) := ca_below (ca_new w (tbL f (.slice a ch.length cap)) 76) hb1
 have B1 : Hid (Below w.heap.size w w1) := ((Below.refl w.heap.size w).alloc (Nat.le_refl _) _).trans (hb1.mono (by simp))
 clear hb1
 by_cases h0 : L = 0
 case neg =>
  have HR3 : Hid (R = L) := by show _ = _; rw [HR2.out, if_pos h0]
  have h0' : (L != 0) = true := by simp [h0]
  go_wp2
  go_ret
  exact ⟨ret_int (by rw [HR3.out]), B1.out⟩
 have HR3 : Hid (R = Tb.goE f (prevOf ch 0) (ch.drop 0)) := by show _ = _; rw [HR2.out, if_neg (by simp [h0])]; rfl
 subst h0
 clear HR2
 obtain ⟨x0, f0⟩ := ca_at X1.out 0 rfl
 obtain ⟨x1, f1⟩ := ca_at X1.out 1 rfl
 obtain ⟨x2, f2⟩ := ca_at X1.out 2 rfl
 obtain ⟨x3, f3⟩ := ca_at X1.out 3 rfl
 have sx := X1.out.1
 go_wp2_with fail
 obtain ⟨M, hM⟩ : ∃ M, w1.heap.size = M := ⟨_, rfl⟩
 have X2 := hid (ca_alloc X1.out (.cells (cgCells ⟨-62135596801, f⟩).toArray 86))
 have B2 := hid (Below.alloc B1.out B1.out.size (.cells (cgCells ⟨-62135596801, f⟩).toArray 86))
 have Y2 : Hid (CellsAt (w1.alloc (.cells (cgCells ⟨-62135596801, f⟩).toArray 86)) M (cgCells ⟨-62135596801, f⟩)) := by rw [← hM]; exact ca_new _ _ _
 have hNM : ¬ w.heap.size = M := by omega
 have hNM' : w.heap.size < M := by omega
 rw [hM]
 clear X1 B1 x0 f0 x1 f1 x2 f2 x3 f3 sx hM
 go_loopw [24] (fun b wr => ∃ (i : Nat) (p : Int) (o : Tb.Lc), i ≤ ch.length ∧ b = .int .i64 i ∧ Hid (R = Tb.goE o (prevOf ch i) (ch.drop i)) ∧ Hid (p = pvOf (prevOf ch i)) ∧ Hid (Below w.heap.size w wr) ∧ Hid (CellsAt wr w.heap.size (tbL f (.slice a ch.length cap))) ∧ Hid (CellsAt wr M (cgCells ⟨p, o⟩))) (fun b _ => ch.length - (intOf b).toNat)
 case atStart => exact ⟨0, -62135596801, f, by omega, rfl, HR3, rfl, B2, X2, Y2⟩
 case round =>
  clear B2 X2 Y2 HR3
  obtain ⟨i, p, o, hi, rfl, HR, HP, B0, X0, Y0⟩ := hrel
  by_cases hlt : i < ch.length
  case neg =>
   have HR2 : Hid (R = 0) := by show _ = _; rw [HR.out, List.drop_eq_nil_of_le (by omega)]; rfl
   go_wp2
   go_ret
   exact ⟨ret_int (by rw [HR2.out]), B0.out⟩
  obtain ⟨c, hcc⟩ : ∃ c, ch[i]? = some c := ⟨_, List.getElem?_eq_getElem hlt⟩
  obtain ⟨bb, bo, bcap, e, hbb, c0, c1, c2, c3⟩ := rdCh_at (rdCh_below H.out B0.out) hcc
  simp only [Value.slice.injEq] at e
  obtain ⟨rfl, _, rfl⟩ := e
  have HC := hid hcc
  have HR1 : Hid (R = if chgE o p c ≠ 0 then chgE o p c else Tb.goE c.lc (some c.at_) (ch.drop (i + 1))) := by show _ = _; rw [HR.out, Tb.drop_get hcc, goE_chg, ← HP.out]
  clear hcc HR HP
  have BV := hid (Below.alloc B0.out B0.out.size (.cells (cgCells c).toArray 86))
  have XV := hid (ca_alloc X0.out (.cells (cgCells c).toArray 86))
  have YV := hid (ca_alloc Y0.out (.cells (cgCells c).toArray 86))
  have ZV := hid (ca_new wr (cgCells c) 86)
  have sx := X0.out.1
  have sy := Y0.out.1
  obtain ⟨y0, g0⟩ := ca_at Y0.out 0 rfl
  obtain ⟨y1, g1⟩ := ca_at Y0.out 1 rfl
  obtain ⟨y2, g2⟩ := ca_at Y0.out 2 rfl
  obtain ⟨y3, g3⟩ := ca_at Y0.out 3 rfl
  obtain ⟨C, hC⟩ : ∃ C, wr.heap.size = C := ⟨_, rfl⟩
  have hMC : M < C := by omega
  have hNC : w.heap.size < C := by omega
  rw [hC] at ZV
  go_wp2_with fail
  refine (checkChange_any p o c _ (HN.out c (List.mem_of_getElem? HC.out))).mono ?_
  rintro e w5 ⟨rfl, hb5⟩
  have XU := hid (ca_below XV.out hb5)
  have YU := hid (ca_below YV.out hb5)
  have ZU := hid (ca_below ZV.out hb5)
  have BU : Hid (Below w.heap.size w w5) := BV.out.trans (hb5.mono BV.out.size)
  clear XV YV ZV BV hb5 sx sy y0 g0 y1 g1 y2 g2 y3 g3 B0 X0 Y0 c0 c1 c2 c3 hbb hC
  obtain ⟨L, hL⟩ : ∃ L, chgE o p c = L := ⟨_, rfl⟩
  rw [hL] at HR1 ⊢
  clear hL
  by_cases h0 : L = 0
  case neg =>
   have HR2 : Hid (R = L) := by show _ = _; rw [HR1.out, if_pos h0]
   have h0' : (L != 0) = true := by simp [h0]
   clear HR1
   go_wp2
   go_ret
   exact ⟨ret_int (by rw [HR2.out]), BU.out⟩
  subst h0
  have HR2 : Hid (R = Tb.goE c.lc (some c.at_) (ch.drop (i + 1))) := by show _ = _; rw [HR1.out]; simp
  clear HR1
  obtain ⟨z0, k0⟩ := ca_at ZU.out 0 rfl
  obtain ⟨z1, k1⟩ := ca_at ZU.out 1 rfl
  obtain ⟨z2, k2⟩ := ca_at ZU.out 2 rfl
  obtain ⟨z3, k3⟩ := ca_at ZU.out 3 rfl
  obtain ⟨y0, g0⟩ := ca_at YU.out 0 rfl
  obtain ⟨y1, g1⟩ := ca_at YU.out 1 rfl
  obtain ⟨y2, g2⟩ := ca_at YU.out 2 rfl
  obtain ⟨y3, g3⟩ := ca_at YU.out 3 rfl
  have sz := ZU.out.1
  have sx := XU.out.1
  have sy := YU.out.1
  go_wp2
  go_roundw
  case rel =>
   refine ⟨i + 1, c.at_, c.lc, by omega, by go_num, ?_, ?_, ?_, ?_, ?_⟩
   ·show R = _
    rw [HR2.out]
    congr 1
    simp [prevOf, HC.out]
   ·show _ = _
    simp [prevOf, HC.out, pvOf]
   ·exact below_set (below_set (below_set (below_set BU.out (by omega) _) (by omega) _) (by omega) _) (by omega) _
   ·exact ca_far (ca_far (ca_far (ca_far XU.out (by omega)) (by omega)) (by omega)) (by omega)
   ·exact ca_put (ca_put (ca_put (ca_put YU.out 0 _ (by simp [cgCells])) 1 _ (by simp [cgCells])) 2 _ (by simp [cgCells])) 3 _ (by simp [cgCells])
  case measure => simp [intOf]; omega
end Go.Proofs.YtkhlkohlccndgaaGreat
namespace Go.Proofs
open Go.Shelf
def Tryz.laysSearch_ren : Go.Shelf.Ren := ⟨fun | 16 => 136 | n => n, fun | 3 => 3 | 35 => 94 | 4 => 4 | 38 => 230 | n => n, fun | n => n⟩
theorem Tryz.laysSearch : Go.Proofs.SlLaysO.n16 Tryz.prog Tryz.laysSearch_ren := {
 mixed := by kernel_rfl
 f16 := Tryz.func136.trans (congrArg some (by kernel_rfl))
 t3 := Tryz.underlying3
 a3 := Tryz.isAgg3
 z3 := Tryz.sizeOf3
 v3 := Tryz.zeroValue3
 t4 := Tryz.underlying4
 a4 := Tryz.isAgg4
 z4 := Tryz.sizeOf4
 v4 := Tryz.zeroValue4
 t35 := Tryz.underlying94
 a35 := Tryz.isAgg94
 z35 := Tryz.sizeOf94
 v35 := Tryz.zeroValue94
 t38 := Tryz.underlying230
 a38 := Tryz.isAgg230
 z38 := Tryz.sizeOf230
 v38 := Tryz.zeroValue230 }
def Tryz.lays189_ren : Go.Shelf.Ren := ⟨fun | 189 => 181 | 125 => 202 | 257 => 205 | 128 => 221 | 129 => 222 | 294 => 223 | 295 => 224 | 296 => 225 | 297 => 226 | 298 => 227 | 299 => 228 | 216 => 229 | 300 => 230 | 301 => 231 | 328 => 241 | 329 => 237 | 330 => 238 | 331 => 242 | 332 => 243 | 215 => 174 | 343 => 246 | n => n, fun | 28 => 47 | 3 => 3 | 46 => 230 | 0 => 0 | 51 => 258 | 53 => 260 | 4 => 4 | 183 => 251 | 182 => 250 | 131 => 255 | 5 => 5 | 9 => 9 | 218 => 266 | 222 => 270 | 228 => 276 | 229 => 139 | n => n, fun | n => n⟩
theorem Tryz.lays189 : Go.Proofs.Lays.n189 Tryz.prog Tryz.lays189_ren := {
 mixed := by kernel_rfl
 f125 := Tryz.func202.trans (congrArg some (by kernel_rfl))
 f128 := Tryz.func221.trans (congrArg some (by kernel_rfl))
 f129 := Tryz.func222.trans (congrArg some (by kernel_rfl))
 f189 := Tryz.func181.trans (congrArg some (by kernel_rfl))
 f215 := Tryz.func174.trans (congrArg some (by kernel_rfl))
 f216 := Tryz.func229.trans (congrArg some (by kernel_rfl))
 f257 := Tryz.func205.trans (congrArg some (by kernel_rfl))
 f294 := Tryz.func223.trans (congrArg some (by kernel_rfl))
 f295 := Tryz.func224.trans (congrArg some (by kernel_rfl))
 f296 := Tryz.func225.trans (congrArg some (by kernel_rfl))
 f297 := Tryz.func226.trans (congrArg some (by kernel_rfl))
 f298 := Tryz.func227.trans (congrArg some (by kernel_rfl))
 f299 := Tryz.func228.trans (congrArg some (by kernel_rfl))
 f300 := Tryz.func230.trans (congrArg some (by kernel_rfl))
 f301 := Tryz.func231.trans (congrArg some (by kernel_rfl))
 f328 := Tryz.func241.trans (congrArg some (by kernel_rfl))
 f329 := Tryz.func237.trans (congrArg some (by kernel_rfl))
 f330 := Tryz.func238.trans (congrArg some (by kernel_rfl))
 f331 := Tryz.func242.trans (congrArg some (by kernel_rfl))
 f332 := Tryz.func243.trans (congrArg some (by kernel_rfl))
 f343 := Tryz.func246.trans (congrArg some (by kernel_rfl))
 t0 := Tryz.underlying0
 a0 := Tryz.isAgg0
 z0 := Tryz.sizeOf0
 v0 := Tryz.zeroValue0
 t3 := Tryz.underlying3
 a3 := Tryz.isAgg3
 z3 := Tryz.sizeOf3
 v3 := Tryz.zeroValue3
 t4 := Tryz.underlying4
 a4 := Tryz.isAgg4
 z4 := Tryz.sizeOf4
 v4 := Tryz.zeroValue4
 t5 := Tryz.underlying5
 a5 := Tryz.isAgg5
 z5 := Tryz.sizeOf5
 v5 := Tryz.zeroValue5
 t9 := Tryz.underlying9
 a9 := Tryz.isAgg9
 z9 := Tryz.sizeOf9
 v9 := Tryz.zeroValue9
 t28 := Tryz.underlying47
 a28 := Tryz.isAgg47
 z28 := Tryz.sizeOf47
 v28 := Tryz.zeroValue47
 t46 := Tryz.underlying230
 a46 := Tryz.isAgg230
 z46 := Tryz.sizeOf230
 v46 := Tryz.zeroValue230
 t51 := Tryz.underlying258
 a51 := Tryz.isAgg258
 z51 := Tryz.sizeOf258
 v51 := Tryz.zeroValue258
 t53 := Tryz.underlying260
 a53 := Tryz.isAgg260
 z53 := Tryz.sizeOf260
 v53 := Tryz.zeroValue260
 t131 := Tryz.underlying255
 a131 := Tryz.isAgg255
 z131 := Tryz.sizeOf255
 v131 := Tryz.zeroValue255
 t182 := Tryz.underlying250
 a182 := Tryz.isAgg250
 z182 := Tryz.sizeOf250
 v182 := Tryz.zeroValue250
 t183 := Tryz.underlying251
 a183 := Tryz.isAgg251
 z183 := Tryz.sizeOf251
 v183 := Tryz.zeroValue251
 t218 := Tryz.underlying266
 a218 := Tryz.isAgg266
 z218 := Tryz.sizeOf266
 v218 := Tryz.zeroValue266
 t222 := Tryz.underlying270
 a222 := Tryz.isAgg270
 z222 := Tryz.sizeOf270
 v222 := Tryz.zeroValue270
 t228 := Tryz.underlying276
 a228 := Tryz.isAgg276
 z228 := Tryz.sizeOf276
 v228 := Tryz.zeroValue276
 t229 := Tryz.underlying139
 a229 := Tryz.isAgg139
 z229 := Tryz.sizeOf139
 v229 := Tryz.zeroValue139 }
open Go.Sort Go.RowKit in
theorem Tryz.slices_Sort_int (blk off cap : Nat) (zs : List Int) (w : World) (hH : Holds (Value.int .i64) w blk off zs.toArray) (hblk : blk < w.heap.size) (hsz : zs.length < 4611686018427387904) :
  Calls Tryz.prog 181 #[.slice (some ⟨blk, off, none⟩) zs.length cap] w fun e w' =>
   e = .returned (.tuple #[]) ∧ ∃ n os, w' = grow (putRow (Value.int .i64) (Sort.ahead w n) blk off (zs.mergeSort fun x y => decide (x ≤ y)).toArray) os := Any.slices_Sort_int Tryz.lays189 blk off cap zs w hH hblk hsz
open Go.RowKit Go.Sort in
theorem Tryz.slices_Sort_int_none (p : Option Addr) (cap : Nat) (w : World) :
  Calls Tryz.prog 181 #[.slice p 0 cap] w fun e w' => e = .returned (.tuple #[]) ∧ w' = w := Any.slices_Sort_int_none Tryz.lays189 p cap w
end Go.Proofs
namespace Go.Proofs.YtkhlkohlccndgaaGreat
open Go.RowKit Go.Lib Go.Sort

/- counting over places is counting over what lies there -/
theorem countP_places {α : Type} (l : List α) (f : Option α → Bool) : (List.range l.length).countP (fun i => f l[i]?) = l.countP (fun c => f (some c)) := by
 have h : (List.range l.length).map (fun i => l[i]?) = l.map some := by
  apply List.ext_getElem
  ·simp
  ·intro i h1 h2
   simp at h1
   simp [h1]
 have e : (List.range l.length).countP (fun i => f l[i]?) = ((List.range l.length).map (fun i => l[i]?)).countP f := by rw [List.countP_map]; rfl
 rw [e, h, List.countP_map]
 rfl
namespace Tb
/- how many changes are no later than a time -/
def cnt (n : Int) (l : List Cg) : Nat := l.countP (fun c => decide (c.at_ ≤ n))
theorem cnt_zero {n : Int} : ∀ {l : List Cg} {c : Cg}, Rise (c :: l) → n < c.at_ → cnt n (c :: l) = 0 := by
 intro l c hr hc
 unfold cnt
 rw [List.countP_eq_zero]
 intro d hd
 simp at hd
 rcases hd with rfl | hd
 ·simp; exact hc
 ·have := rise_all l c hr d hd
  simp; omega
theorem lookL_cnt (n : Int) : ∀ (l : List Cg) (o : Lc), Rise l → lookL o n l = (match cnt n l with | 0 => o | k + 1 => match l[k]? with | some c => c.lc | none => o)
 | [], o, _ => rfl
 | c :: r, o, hr => by
   simp only [lookL]
   by_cases hc : c.at_ ≤ n
   ·rw [if_pos hc, lookL_cnt n r c.lc (rise_tail hr)]
    have e : cnt n (c :: r) = cnt n r + 1 := by unfold cnt; rw [List.countP_cons]; simp [hc]
    rw [e]
    cases hk : cnt n r with
    | zero => rfl
    | succ k =>
      have hl : k < r.length := by have : cnt n r ≤ r.length := List.countP_le_length; omega
      simp [hl]
   ·have z := cnt_zero (n := n) hr (by omega)
    rw [z, if_neg hc, lookL_cnt n r o (rise_tail hr)]
    have e : cnt n (c :: r) = cnt n r := by unfold cnt; rw [List.countP_cons]; simp [hc]
    rw [← e, z]
theorem look_zero {t : Tbl} {n : Int} (hr : Rise t.ch) (h : cnt n t.ch = 0) : look t n = t.first := by unfold look; rw [lookL_cnt n _ _ hr, h]
theorem look_succ {t : Tbl} {n : Int} {k : Nat} {c : Cg} (hr : Rise t.ch) (h : cnt n t.ch = k + 1) (hc : t.ch[k]? = some c) : look t n = c.lc := by unfold look; rw [lookL_cnt n _ _ hr, h]; simp only [hc]
theorem cnt_le (n : Int) (l : List Cg) : cnt n l ≤ l.length := List.countP_le_length
/- is the change at a place later than a time? -/
def laterAt (n : Int) : Option Cg → Bool
 | some c => decide (n < c.at_)
 | none => true
theorem rise_get : ∀ {l : List Cg} {i j : Nat} {c d : Cg}, Rise l → i ≤ j → l[i]? = some c → l[j]? = some d → c.at_ ≤ d.at_
 | [], i, j, c, d, _, _, h, _ => by simp at h
 | a :: r, 0, 0, c, d, _, _, h1, h2 => by rw [h1] at h2; cases h2; exact Int.le_refl _
 | a :: r, 0, j + 1, c, d, hr, _, h1, h2 => by
   simp at h1 h2; subst h1
   exact Int.le_of_lt (rise_all r a hr d (List.mem_of_getElem? h2))
 | a :: r, i + 1, 0, c, d, _, h, _, _ => by omega
 | a :: r, i + 1, j + 1, c, d, hr, h, h1, h2 => rise_get (rise_tail hr) (Nat.le_of_succ_le_succ h) (by simpa using h1) (by simpa using h2)
/- what was told, by how many changes were no later -/
def LastIs (R f : Lc) (ch : List Cg) : Nat → Prop
 | 0 => R = f
 | j + 1 => ∃ c, ch[j]? = some c ∧ R = c.lc
end Tb

theorem later_any (N M : Nat) (f : Tb.Lc) (a : Option Addr) (b o cap len i : Nat) (c n : Int) (W : World) (hi : i < len) (ha : a = some ⟨b, o, none⟩)
  (ht : W.cell? ⟨N, 3, none⟩ = some (.slice a len cap)) (hn : W.cell? ⟨M, 0, none⟩ = some (.int .i64 n)) (hc : W.cell? ⟨b, o + i * 4, none⟩ = some (.int .i64 c)) :
  Calls Tryz.prog 137 (#[.int .i64 i] ++ #[.pointer (some ⟨N, 0, none⟩), .pointer (some ⟨M, 0, none⟩)]) W fun e w' => e = .returned (.bool (decide (n < c))) ∧ ∃ q, w' = W.drewN q := by
 subst ha
 have hiz : (i : Int) < (len : Int) := by omega
 go_enter Tryz.func137, Tryz.ntmps137
 go_wp2
 go_region
 all_goals go_wp2
 all_goals go_ret
 all_goals exact ⟨by first | rfl | simp, 1, rfl⟩

theorem momentLocal_any (t : Tb.Tbl) (v : Value) (n : Int) (w : World) (h : RdCh w v t.ch) (hr : Tb.Rise t.ch) (hl : t.ch.length ≤ 1000) :
  Calls Tryz.prog 75 #[tbV t.first v, .int .i64 n] w fun e w' => e = .returned (lcV (Tb.look t n)) ∧ Below w.heap.size w w' := by
 obtain ⟨f, ch⟩ := t
 simp only at h hr hl
 have h' := h
 obtain ⟨a, cap, rfl, hc⟩ := h'
 clear hc
 obtain ⟨W0, hW⟩ : ∃ W0, ((w.alloc (.cells (tbL f (.slice a ch.length cap)).toArray 76)).alloc (.cells [Value.int .i64 n].toArray 3)).alloc (.cells (lcL lc0).toArray 31) = W0 := ⟨_, rfl⟩
 have B0 : Below w.heap.size w W0 := by
  rw [← hW]
  exact (((Below.refl _ _).alloc (Nat.le_refl _) _).alloc (by simp) _).alloc (by simp; omega) _
 have X0 : CellsAt W0 w.heap.size (tbL f (.slice a ch.length cap)) := by rw [← hW]; exact ca_alloc (ca_alloc (ca_new _ _ _) _) _
 have A0 : CellsAt W0 (w.heap.size + 1) [Value.int .i64 n] := by
  rw [← hW]
  have := ca_alloc (ca_new (w.alloc (.cells (tbL f (.slice a ch.length cap)).toArray 76)) [Value.int .i64 n] 3) (.cells (lcL lc0).toArray 31)
  simpa using this
 have Z0 : CellsAt W0 (w.heap.size + 1 + 1) (lcL lc0) := by
  rw [← hW]
  have := ca_new ((w.alloc (.cells (tbL f (.slice a ch.length cap)).toArray 76)).alloc (.cells [Value.int .i64 n].toArray 3)) (lcL lc0) 31
  simpa using this
 have eg : ∀ args w, (callFunc 137 args).run Tryz.prog w = .ok (.enter 137 args) w := enters_of Tryz.func137 (by kernel_rfl) rfl
 have hS := Any.sort_Search Tryz.laysSearch 137 #[.pointer (some ⟨w.heap.size, 0, none⟩), .pointer (some ⟨w.heap.size + 1, 0, none⟩)] ch.length (fun i => Tb.laterAt n ch[i]?) W0 eg (by omega)
  (fun m os i hi => by
   obtain ⟨c, hcc⟩ : ∃ c, ch[i]? = some c := ⟨_, List.getElem?_eq_getElem hi⟩
   obtain ⟨b, o, cap', e, hb, c0, _⟩ := rdCh_at (rdCh_below h B0) hcc
   simp only [Value.slice.injEq] at e
   have := later_any w.heap.size (w.heap.size + 1) f a b o cap ch.length i c.at_ n (grow (W0.drewN m) os) hi e.1 (cell_grown X0.1 (ca_at X0 3 rfl).1 m os) (cell_grown A0.1 (ca_at A0 0 rfl).1 m os) (cell_grown hb c0 m os)
   rw [hcc]
   exact this.mono fun _ _ ⟨he, q, hq⟩ => ⟨he, q, #[], by rw [hq, grow_empty]⟩)
  (fun i j hij hj hp => by
   obtain ⟨c, hcc⟩ : ∃ c, ch[i]? = some c := ⟨_, List.getElem?_eq_getElem (by omega)⟩
   obtain ⟨d, hd⟩ : ∃ d, ch[j]? = some d := ⟨_, List.getElem?_eq_getElem hj⟩
   have q := Tb.rise_get hr hij hcc hd
   rw [hcc] at hp
   rw [hd]
   simp [Tb.laterAt] at hp ⊢
   omega)
 rw [countP_places ch (fun o => !Tb.laterAt n o), show ch.countP (fun c => !Tb.laterAt n (some c)) = Tb.cnt n ch from (by unfold Tb.cnt; congr 1; funext c; by_cases q : c.at_ ≤ n <;> simp [Tb.laterAt, q] <;> omega)] at hS
 obtain ⟨k, hk⟩ : ∃ k, Tb.cnt n ch = k := ⟨_, rfl⟩
 rw [hk] at hS
 have hS2 : Calls Tryz.prog 136 #[.int .i64 ch.length, .func (.func 137) #[] #[.pointer (some ⟨w.heap.size, 0, none⟩), .pointer (some ⟨w.heap.size + 1, 0, none⟩)]] W0 fun e w' => e = .returned (.int .i64 k) ∧ Below W0.heap.size W0 w' :=
  Calls.mono hS fun _ _ ⟨he, q, os, hq⟩ => ⟨he, by rw [hq]; exact below_grown_sl _ _ _ _ (Nat.le_refl _)⟩
 have hkl : k ≤ ch.length := by rw [← hk]; exact Tb.cnt_le _ _
 have HH := hid h
 have HX := hid X0
 have HZ := hid Z0
 have HB := hid B0
 have HW := hid hW
 obtain ⟨R, hR⟩ : ∃ R, Tb.look ⟨f, ch⟩ n = R := ⟨_, rfl⟩
 rw [hR]
 have HS := hid hS2
 have HK : Hid (Tb.LastIs R f ch k) := by
  show Tb.LastIs R f ch k
  clear HS hS2 hS
  cases k with
  | zero => exact hR.symm.trans (Tb.look_zero (t := ⟨f, ch⟩) hr hk)
  | succ j =>
    obtain ⟨c, hcc⟩ : ∃ c, ch[j]? = some c := ⟨_, List.getElem?_eq_getElem (by omega)⟩
    exact ⟨c, hcc, hR.symm.trans (Tb.look_succ (t := ⟨f, ch⟩) hr hk hcc)⟩
 clear hS hS2 hk hr X0 Z0 B0 A0 hW hR eg h
 rw [← HW.out] at HS
 go_enter Tryz.func75, Tryz.ntmps75
 go_wp2_with fail
 refine HS.out.mono ?_
 rintro e w1 ⟨rfl, hb1⟩
 rw [HW.out] at hb1
 have XU := hid (ca_below HX.out hb1)
 have ZU := hid (ca_below HZ.out hb1)
 have BU : Hid (Below w.heap.size w w1) := HB.out.trans (hb1.mono HB.out.size)
 clear HS HX HZ HB HW hb1
 obtain ⟨x0, f0⟩ := ca_at XU.out 0 rfl
 obtain ⟨x1, f1⟩ := ca_at XU.out 1 rfl
 obtain ⟨x2, f2⟩ := ca_at XU.out 2 rfl
 obtain ⟨x3, f3⟩ := ca_at XU.out 3 rfl
 obtain ⟨z0, g0⟩ := ca_at ZU.out 0 rfl
 obtain ⟨z1, g1⟩ := ca_at ZU.out 1 rfl
 obtain ⟨z2, g2⟩ := ca_at ZU.out 2 rfl
 have sx := XU.out.1
 have sz := ZU.out.1
 cases k with
 | zero =>
   have HR : Hid (R = f) := HK.out
   clear HK
   go_wp2
   refine bodyPost_ret (v := lcV f) (by simp [results, Tryz.results75, go_sem, *]) rfl ⟨by rw [HR.out], ?_⟩
   exact below_set (below_set (below_set BU.out (by omega) _) (by omega) _) (by omega) _
 | succ j =>
   obtain ⟨c, hcc, hR⟩ := HK.out
   obtain ⟨bb, bo, bcap, e, hbb, c0, c1, c2, c3⟩ := rdCh_at (rdCh_below HH.out BU.out) hcc
   simp only [Value.slice.injEq] at e
   obtain ⟨rfl, _, rfl⟩ := e
   have HR := hid hR
   clear HK hR hcc
   go_wp2
   refine bodyPost_ret (v := lcV c.lc) (by simp [results, Tryz.results75, go_sem, *]) rfl ⟨by rw [HR.out], ?_⟩
   exact below_set (below_set (below_set BU.out (by omega) _) (by omega) _) (by omega) _

theorem rise_of_good {t : Tb.Tbl} (h : Tb.tableE t = 0) : Tb.Rise t.ch ∧ t.ch.length ≤ 1000 := by
 obtain ⟨g1, _, g3⟩ := Tb.good_parts h
 exact ⟨(Tb.goE_rise t.ch t.first none g3).1, g1⟩
/- what Look says is wrong -/
def Tb.lookErr (t : Tb.Tbl) (at_ : Int) : Int := if Tb.tableE t ≠ 0 then Tb.tableE t else if Tb.inYears at_ = false then 3 else 0
def Tb.lookO (t : Tb.Tbl) (at_ : Int) : Tb.Lc := if Tb.lookErr t at_ = 0 then Tb.look t at_ else lc0
theorem pLook_any (t : Tb.Tbl) (v : Value) (n : Int) (w : World) (h : RdCh w v t.ch) (hS : Tb.Sized t) :
  Calls Tryz.prog 32 #[tbV t.first v, .int .i64 n] w fun e w' => e = .returned (.tuple #[lcV (Tb.lookO t n), .int .i64 (Tb.lookErr t n)]) ∧ Below w.heap.size w w' := by
 have h' := h
 obtain ⟨a, cap, rfl, hc⟩ := h'
 clear hc
 obtain ⟨E, hE⟩ : ∃ E, Tb.tableE t = E := ⟨_, rfl⟩
 obtain ⟨T, hT⟩ : ∃ T, Tb.inYears n = T := ⟨_, rfl⟩
 have HC : Hid (∀ W, Below w.heap.size w W → Calls Tryz.prog 31 #[tbV t.first (.slice a t.ch.length cap)] W fun e w' => e = .returned (.int .i64 E) ∧ Below W.heap.size W w') := fun W hW => by
  rw [← hE]; exact pCheck_any t _ W (rdCh_below h hW) hS
 have HM : Hid (E = 0 → ∀ W, Below w.heap.size w W → Calls Tryz.prog 75 #[tbV t.first (.slice a t.ch.length cap), .int .i64 n] W fun e w' => e = .returned (lcV (Tb.look t n)) ∧ Below W.heap.size W w') := fun h0 W hW =>
  momentLocal_any t _ n W (rdCh_below h hW) (rise_of_good (hE.trans h0)).1 (rise_of_good (hE.trans h0)).2
 have HT := hid hT
 obtain ⟨R, hR⟩ : ∃ R, Tb.lookErr t n = R := ⟨_, rfl⟩
 have HR : Hid (R = if E ≠ 0 then E else if T = false then 3 else 0) := by show _ = _; rw [← hR, Tb.lookErr, hE, hT]
 obtain ⟨K, hK⟩ : ∃ K, Tb.look t n = K := ⟨_, rfl⟩
 obtain ⟨Q, hQ⟩ : ∃ Q, Tb.lookO t n = Q := ⟨_, rfl⟩
 have HQ : Hid (Q = if R = 0 then K else lc0) := by show _ = _; rw [← hQ, Tb.lookO, hR, hK]
 rw [hR, hQ]
 rw [hK] at HM
 obtain ⟨f, ch⟩ := t
 dsimp only at HC HM ⊢
 clear hE hT hR h hS hK hQ
 obtain ⟨W0, hW⟩ : ∃ W0, (w.alloc (.cells (tbL f (.slice a ch.length cap)).toArray 76)).alloc (.cells (lcL lc0).toArray 31) = W0 := ⟨_, rfl⟩
 have B0 : Hid (Below w.heap.size w W0) := by
  rw [← hW]
  exact ((Below.refl _ _).alloc (Nat.le_refl _) _).alloc (by simp) _
 have X0 : Hid (CellsAt W0 w.heap.size (tbL f (.slice a ch.length cap))) := by rw [← hW]; exact ca_alloc (ca_new _ _ _) _
 have Z0 : Hid (CellsAt W0 (w.heap.size + 1) (lcL lc0)) := by
  rw [← hW]; show CellsAt _ _ _
  have := ca_new (w.alloc (.cells (tbL f (.slice a ch.length cap)).toArray 76)) (lcL lc0) 31
  simpa using this
 have HS := hid (HC.out W0 B0.out)
 have HW := hid hW
 clear hW HC
 rw [← HW.out] at HS
 go_enter Tryz.func32, Tryz.ntmps32
 go_wp2_with fail
 refine HS.out.mono ?_
 rintro e w1 ⟨rfl, hb1⟩
 rw [HW.out] at hb1
 have XU := hid (ca_below X0.out hb1)
 have ZU := hid (ca_below Z0.out hb1)
 have BU : Hid (Below w.heap.size w w1) := B0.out.trans (hb1.mono B0.out.size)
 clear HS X0 Z0 B0 HW hb1
 obtain ⟨x0, f0⟩ := ca_at XU.out 0 rfl
 obtain ⟨x1, f1⟩ := ca_at XU.out 1 rfl
 obtain ⟨x2, f2⟩ := ca_at XU.out 2 rfl
 obtain ⟨x3, f3⟩ := ca_at XU.out 3 rfl
 obtain ⟨z0, g0⟩ := ca_at ZU.out 0 rfl
 obtain ⟨z1, g1⟩ := ca_at ZU.out 1 rfl
 obtain ⟨z2, g2⟩ := ca_at ZU.out 2 rfl
 have sx := XU.out.1
 have sz := ZU.out.1
 by_cases h0 : E = 0
 case neg =>
  have HR2 : Hid (R = E) := by show _ = _; rw [HR.out, if_pos h0]
  have h0' : (E != 0) = true := by simp [h0]
  have HR3 : Hid (Q = lc0) := by show _ = _; rw [HQ.out, HR2.out, if_neg h0]
  clear HR HM HQ
  go_wp2
  refine bodyPost_ret (v := .tuple #[lcV lc0, .int .i64 E]) (by simp [results, Tryz.results32, go_sem, lc0, *]) rfl ⟨by rw [HR3.out, HR2.out], ?_⟩
  exact below_set (below_set (below_set BU.out (by omega) _) (by omega) _) (by omega) _
 have HM2 := hid (HM.out h0 w1 BU.out)
 subst h0
 clear HM
 cases T
 case false =>
  have HR2 : Hid (R = 3) := by show _ = _; rw [HR.out]; rfl
  have HR3 : Hid (Q = lc0) := by show _ = _; rw [HQ.out, HR2.out]; rfl
  clear HR HM2 HQ
  go_wp2_with (go_at_call 47; refine (pInYears_is _ _ HT.out).mono ?_; rintro e w2 ⟨rfl, rfl⟩)
  refine bodyPost_ret (v := .tuple #[lcV lc0, .int .i64 3]) (by simp [results, Tryz.results32, go_sem, lc0, *]) rfl ⟨by rw [HR3.out, HR2.out], ?_⟩
  exact below_set (below_set (below_set BU.out (by omega) _) (by omega) _) (by omega) _
 case true =>
  have HR2 : Hid (R = 0) := by show _ = _; rw [HR.out]; rfl
  have HR3 : Hid (Q = K) := by show _ = _; rw [HQ.out, HR2.out]; rfl
  clear HR HQ
  go_wp2_with (go_at_call 47; refine (pInYears_is _ _ HT.out).mono ?_; rintro e w2 ⟨rfl, rfl⟩)
  refine HM2.out.mono ?_
  rintro e w5 ⟨rfl, hb5⟩
  have ZV := hid (ca_below ZU.out hb5)
  have BV : Hid (Below w.heap.size w w5) := BU.out.trans (hb5.mono BU.out.size)
  clear HM2 XU ZU BU hb5 x0 f0 x1 f1 x2 f2 x3 f3 z0 g0 z1 g1 z2 g2 sx sz
  obtain ⟨z0, g0⟩ := ca_at ZV.out 0 rfl
  obtain ⟨z1, g1⟩ := ca_at ZV.out 1 rfl
  obtain ⟨z2, g2⟩ := ca_at ZV.out 2 rfl
  have sz := ZV.out.1
  go_wp2
  refine bodyPost_ret (v := .tuple #[lcV K, .int .i64 0]) (by simp [results, Tryz.results32, go_sem, lc0, *]) rfl ⟨by rw [HR3.out, HR2.out], ?_⟩
  exact below_set (below_set (below_set BV.out (by omega) _) (by omega) _) (by omega) _
end Go.Proofs.YtkhlkohlccndgaaGreat
namespace Go.Proofs.YtkhlkohlccndgaaGreat
open Go.RowKit

def smA : Tb.Lc := ⟨3600, 0, [65]⟩
def smB : Tb.Lc := ⟨7200, 3600, [66]⟩
def sm : Tb.Tbl := ⟨smA, [⟨100, smB⟩, ⟨90000, smA⟩]⟩
theorem sm_sized : Tb.Sized sm := ⟨by unfold maxLen; decide, by unfold maxLen; decide, by intro c hc; unfold maxLen; simp [sm, smA, smB] at hc; rcases hc with rfl | rfl <;> decide⟩
theorem small_any (w : World) : Calls Tryz.prog 70 #[] w fun e w' => ∃ v, e = .returned (tbV sm.first v) ∧ RdCh w' v sm.ch ∧ Below w.heap.size w w' := by
 go_enter Tryz.func70, Tryz.ntmps70
 go_wp2
 refine bodyPost_ret (v := tbV sm.first (.slice (some ⟨w.heap.size + 1 + 1 + 1, 0, none⟩) 2 2)) (by simp [results, Tryz.results70, go_sem, sm, smA, *]) rfl ⟨_, rfl, ?_, ?_⟩
 ·have := World.ownsRow_lit (base := 0) (e := 86) (size := 4) (((w.alloc (.cells #[.int .i64 3600, .int .i64 0, .string ⟨#[65]⟩, .slice (some ⟨w.heap.size + 1 + 1 + 1, 0, none⟩) 2 2] 76)).alloc (.cells #[.int .i64 3600, .int .i64 0, .string ⟨#[65]⟩] 31)).alloc (.cells #[.int .i64 7200, .int .i64 3600, .string ⟨#[66]⟩] 31)) #[.int .i64 100, .int .i64 7200, .int .i64 3600, .string ⟨#[66]⟩, .int .i64 90000, .int .i64 3600, .int .i64 0, .string ⟨#[65]⟩] 2 (Nat.zero_le _) (by unfold maxLen; decide) rfl
  simp only [World.size_alloc] at this
  exact own_rd cgCells_len (xs := sm.ch) this
 ·exact ((((Below.refl _ _).alloc (Nat.le_refl _) _).alloc (by simp) _).alloc (by simp; omega) _).alloc (by simp; omega) _
end Go.Proofs.YtkhlkohlccndgaaGreat
namespace Go.Proofs.YtkhlkohlccndgaaGreat
open Go.RowKit Go.Shelf
attribute [local go_sem] Oper.semAt_some
attribute [local go_sem ↓] Go.wp_at_zero Go.wp_at_succ

def ch0 : List Tb.Cg := (compT src0 [⟨town0, none, 0⟩] oldB).ch
def lmt : Tb.Lc := ⟨600, 0, [76, 77, 84]⟩
set_option maxRecDepth 1000000 in
theorem comp0E (a : Option Addr) (c : Nat) : compE src0 [⟨town0, a, c⟩] oldB = 0 := by kernel_rfl
set_option maxRecDepth 1000000 in
theorem comp0T (a : Option Addr) (c : Nat) : compT src0 [⟨town0, a, c⟩] oldB = ⟨lmt, ch0⟩ := by kernel_rfl
set_option maxRecDepth 1000000 in
theorem ch0_len : ch0.length = 211 := by kernel_rfl
set_option maxRecDepth 1000000 in
theorem ch0_good : Tb.tableE ⟨lmt, ch0⟩ = 0 := by kernel_rfl
set_option maxRecDepth 1000000 in
theorem ch0_short : ch0.all (fun c => decide (c.lc.name.length ≤ 24)) = true := by kernel_rfl
theorem sizedT_of {f : Tb.Lc} {ch : List Tb.Cg} {n : Nat} (h1 : ch.length = n) (hn : n ≤ 1000) (h2 : ch.all (fun c => decide (c.lc.name.length ≤ 24)) = true) (h3 : f.name.length ≤ 24) : Tb.Sized ⟨f, ch⟩ := by
 refine ⟨by simp only; unfold maxLen; omega, by simp only; unfold maxLen; omega, fun c hc => ?_⟩
 have := List.all_eq_true.1 h2 c hc
 simp at this
 unfold maxLen
 omega
theorem ch0_sized : Tb.Sized ⟨lmt, ch0⟩ := sizedT_of ch0_len (by omega) ch0_short (by decide)
theorem compile0 {w : World} {r z l : Value} (h : Made w r z l) : Calls Tryz.prog 30 #[.agg #[r, z, l], strV oldB] w fun e w' => ∃ cv, e = .returned (.tuple #[.agg #[.int .i64 600, .int .i64 0, .string ⟨#[76, 77, 84]⟩, cv], .int .i64 0]) ∧ OwnCh w' w.heap.size cv ch0 ∧ Below w.heap.size w w' := by
 obtain ⟨ra, za, la, rcap, zcap, lcap, a, c, m, rfl, rfl, rfl, hs⟩ := made_in h
 have q := compile_any src0 [⟨town0, a, c⟩] ra za la rcap zcap lcap m oldB w hs
 rw [comp0E, comp0T] at q
 dsimp only [lmt, strV] at q
 exact q
theorem small_lit (w : World) : Calls Tryz.prog 70 #[] w fun e w' => ∃ b o c, e = .returned (.agg #[.int .i64 3600, .int .i64 0, .string ⟨#[65]⟩, .slice (some ⟨b, o, none⟩) 2 c]) ∧ RdCh w' (.slice (some ⟨b, o, none⟩) 2 c) sm.ch ∧
  (b < w'.heap.size ∧ w'.cell? ⟨b, o + 1, none⟩ = some (.int .i64 7200) ∧ w'.cell? ⟨b, o + 2, none⟩ = some (.int .i64 3600) ∧ w'.cell? ⟨b, o + 3, none⟩ = some (.string ⟨#[66]⟩)) ∧ Below w.heap.size w w' := by
 refine (small_any w).mono ?_
 rintro e w' ⟨v, rfl, r, hb⟩
 obtain ⟨b, o, c, rfl, h, c0, c1, c2, c3⟩ := rdCh_at r (show sm.ch[0]? = some ⟨100, smB⟩ from rfl)
 exact ⟨b, o, c, rfl, r, ⟨h, by simpa [smB] using c1, by simpa [smB] using c2, by simpa [smB] using c3⟩, hb⟩
theorem look100 : Tb.lookErr sm 100 = 0 ∧ Tb.lookO sm 100 = smB := by decide
theorem look99 : Tb.lookErr sm 99 = 0 ∧ Tb.lookO sm 99 = smA := by decide
theorem made_ofD {w w1 : World} {B : Nat} {r z l : Value} {m : Int} (hm : w.cell? ⟨0, 0, none⟩ = some (.int .i64 m)) (h0 : 0 < w.heap.size) (hb : Below w.heap.size w w1) (h : OwnSrc w1 B r z l src0) : Made w1 r z l :=
 ⟨⟨B, h⟩, ⟨m, (hb.cell (p := ⟨0, 0, none⟩) h0).trans hm⟩, Nat.lt_of_lt_of_le h0 hb.size⟩
theorem tableBegun_is (m : Int) (w : World) (hm : w.cell? ⟨0, 0, none⟩ = some (.int .i64 m)) (h0 : 0 < w.heap.size) : Calls Tryz.prog 29 #[] w fun e w' => e = .returned (.bool true) ∧ Below w.heap.size w w' := by
 have HM := hid hm
 have H0 := hid h0
 clear hm h0
 go_enter Tryz.func29, Tryz.ntmps29
 go_wp2_with fail
 refine (parsed_any _).mono ?_
 rintro e w1 ⟨r, z, l, rfl, hown, hb⟩
 have B : Hid (Below w.heap.size w w1) := hb
 have MD := hid (made_ofD HM.out H0.out B.out hown)
 clear hown hb
 have CP := hid (compile0 MD.out)
 go_wp2_with fail
 refine CP.out.mono ?_
 rintro e w2 ⟨cv, rfl, hO, hb⟩
 replace B := hid (below_on B.out B.out.size hb)
 have RC := hid (ownCh_rd hO)
 obtain ⟨ca, cc, rfl⟩ := owns_shape0 hO
 clear hO hb CP MD
 rw [ch0_len] at *
 obtain ⟨w3, g3, TT0, hb, sz⟩ := named_new w2 #[.int .i64 600, .int .i64 0, .string ⟨#[76, 77, 84]⟩, .slice ca 211 cc] 76
 obtain ⟨bT, hbT⟩ : ∃ b, w2.heap.size = b := ⟨_, rfl⟩
 have TT : Hid (CellsAt w3 bT [.int .i64 600, .int .i64 0, .string ⟨#[76, 77, 84]⟩, .slice ca 211 cc]) := hbT ▸ TT0
 replace B := hid (below_on B.out B.out.size hb)
 replace RC := hid (rdCh_below RC.out hb)
 clear hb sz TT0
 go_wp2_with fail
 refine (small_lit _).mono ?_
 rintro e w4 ⟨b4, o4, k4, rfl, r4, _, hb⟩
 replace B := hid (below_on B.out B.out.size hb)
 replace RC := hid (rdCh_below RC.out hb)
 replace TT := hid (ca_below TT.out hb)
 have CL := pLook_any sm _ 100 w4 r4 sm_sized
 rw [look100.1, look100.2] at CL
 have CLH : Hid (Calls Tryz.prog 32 #[.agg #[.int .i64 3600, .int .i64 0, .string ⟨#[65]⟩, .slice (some ⟨b4, o4, none⟩) 2 k4], .int .i64 100] w4 fun e w' => e = .returned (.tuple #[.agg #[.int .i64 7200, .int .i64 3600, .string ⟨#[66]⟩], .int .i64 0]) ∧ Below w4.heap.size w4 w') := CL
 clear hb r4 CL g3 hbT
 go_wp2_with fail
 refine CLH.out.mono ?_
 rintro e w5 ⟨rfl, hb⟩
 replace B := hid (below_on B.out B.out.size hb)
 replace RC := hid (rdCh_below RC.out hb)
 replace TT := hid (ca_below TT.out hb)
 clear CLH hb
 obtain ⟨w6, g6, L30, hb, sz⟩ := named_new w5 #[.int .i64 7200, .int .i64 3600, .string ⟨#[66]⟩] 31
 obtain ⟨b3, hb3⟩ : ∃ b, w5.heap.size = b := ⟨_, rfl⟩
 have LL3 : Hid (CellsAt w6 b3 [.int .i64 7200, .int .i64 3600, .string ⟨#[66]⟩]) := hb3 ▸ L30
 replace B := hid (below_on B.out B.out.size hb)
 replace RC := hid (rdCh_below RC.out hb)
 replace TT := hid (ca_below TT.out hb)
 clear hb sz L30
 go_wp2_with fail
 refine (small_lit _).mono ?_
 rintro e w7 ⟨b7, o7, k7, rfl, r7, _, hb⟩
 replace B := hid (below_on B.out B.out.size hb)
 replace RC := hid (rdCh_below RC.out hb)
 replace TT := hid (ca_below TT.out hb)
 replace LL3 := hid (ca_below LL3.out hb)
 have CL := pLook_any sm _ 99 w7 r7 sm_sized
 rw [look99.1, look99.2] at CL
 have CLH : Hid (Calls Tryz.prog 32 #[.agg #[.int .i64 3600, .int .i64 0, .string ⟨#[65]⟩, .slice (some ⟨b7, o7, none⟩) 2 k7], .int .i64 99] w7 fun e w' => e = .returned (.tuple #[.agg #[.int .i64 3600, .int .i64 0, .string ⟨#[65]⟩], .int .i64 0]) ∧ Below w7.heap.size w7 w') := CL
 clear hb r7 CL g6 hb3
 go_wp2_with fail
 refine CLH.out.mono ?_
 rintro e w8 ⟨rfl, hb⟩
 replace B := hid (below_on B.out B.out.size hb)
 replace RC := hid (rdCh_below RC.out hb)
 replace TT := hid (ca_below TT.out hb)
 replace LL3 := hid (ca_below LL3.out hb)
 clear CLH hb
 obtain ⟨W, g9, L50, hb, sz⟩ := named_new w8 #[.int .i64 3600, .int .i64 0, .string ⟨#[65]⟩] 31
 obtain ⟨b5, hb5⟩ : ∃ b, w8.heap.size = b := ⟨_, rfl⟩
 have LL5 : Hid (CellsAt W b5 [.int .i64 3600, .int .i64 0, .string ⟨#[65]⟩]) := hb5 ▸ L50
 replace B := hid (below_on B.out B.out.size hb)
 replace RC := hid (rdCh_below RC.out hb)
 replace TT := hid (ca_below TT.out hb)
 replace LL3 := hid (ca_below LL3.out hb)
 clear hb sz L50
 have SS : Hid (W.cell? ⟨bT, 0, none⟩ = some (.int .i64 600) ∧ W.cell? ⟨bT, 1, none⟩ = some (.int .i64 0) ∧ W.cell? ⟨bT, 2, none⟩ = some (.string ⟨#[76, 77, 84]⟩) ∧ W.cell? ⟨bT, 3, none⟩ = some (.slice ca 211 cc) ∧ W.cell? ⟨b3, 0, none⟩ = some (.int .i64 7200) ∧ W.cell? ⟨b3, 1, none⟩ = some (.int .i64 3600) ∧ W.cell? ⟨b3, 2, none⟩ = some (.string ⟨#[66]⟩) ∧ W.cell? ⟨b5, 0, none⟩ = some (.int .i64 3600) ∧ W.cell? ⟨b5, 1, none⟩ = some (.int .i64 0) ∧ W.cell? ⟨b5, 2, none⟩ = some (.string ⟨#[65]⟩)) := ⟨(ca_at TT.out 0 rfl).1, (ca_at TT.out 1 rfl).1, (ca_at TT.out 2 rfl).1, (ca_at TT.out 3 rfl).1, (ca_at LL3.out 0 rfl).1, (ca_at LL3.out 1 rfl).1, (ca_at LL3.out 2 rfl).1, (ca_at LL5.out 0 rfl).1, (ca_at LL5.out 1 rfl).1, (ca_at LL5.out 2 rfl).1⟩
 have KS : Hid (∀ w', Below W.heap.size W w' → w'.cell? ⟨bT, 0, none⟩ = some (.int .i64 600) ∧ w'.cell? ⟨bT, 1, none⟩ = some (.int .i64 0) ∧ w'.cell? ⟨bT, 2, none⟩ = some (.string ⟨#[76, 77, 84]⟩) ∧ w'.cell? ⟨bT, 3, none⟩ = some (.slice ca 211 cc) ∧ w'.cell? ⟨b3, 0, none⟩ = some (.int .i64 7200) ∧ w'.cell? ⟨b3, 1, none⟩ = some (.int .i64 3600) ∧ w'.cell? ⟨b3, 2, none⟩ = some (.string ⟨#[66]⟩) ∧ w'.cell? ⟨b5, 0, none⟩ = some (.int .i64 3600) ∧ w'.cell? ⟨b5, 1, none⟩ = some (.int .i64 0) ∧ w'.cell? ⟨b5, 2, none⟩ = some (.string ⟨#[65]⟩)) := fun w' hb => by
  have a := ca_below TT.out hb
  have b := ca_below LL3.out hb
  have c := ca_below LL5.out hb
  exact ⟨(ca_at a 0 rfl).1, (ca_at a 1 rfl).1, (ca_at a 2 rfl).1, (ca_at a 3 rfl).1, (ca_at b 0 rfl).1, (ca_at b 1 rfl).1, (ca_at b 2 rfl).1, (ca_at c 0 rfl).1, (ca_at c 1 rfl).1, (ca_at c 2 rfl).1⟩
 have HCK : Hid (∀ w', Below W.heap.size W w' → Calls Tryz.prog 31 #[.agg #[.int .i64 600, .int .i64 0, .string ⟨#[76, 77, 84]⟩, .slice ca 211 cc]] w' fun e w'' => e = .returned (.int .i64 0) ∧ Below w'.heap.size w' w'') := fun w' hb => by
  have q := pCheck_any ⟨lmt, ch0⟩ (.slice ca 211 cc) w' (rdCh_below RC.out hb) ch0_sized
  rw [ch0_good] at q
  exact q
 have f1 : ∀ (a b c d : Value) (w : World), (Instr.field 76 (.agg #[a, b, c, d]) 1).run Tryz.prog w = .ok d w := fun _ _ _ _ _ => by kernel_rfl
 have f0 : ∀ (a b c d : Value) (w : World), (Instr.field 76 (.agg #[a, b, c, d]) 0).run Tryz.prog w = .ok (.agg #[a, b, c]) w := fun _ _ _ _ _ => by kernel_rfl
 clear RC TT LL3 LL5
 go_upto_region 4 with fail
 clear g9 hb5
 refine wp_region_held_drew (S := fun w' => w'.cell? ⟨bT, 0, none⟩ = some (.int .i64 600) ∧ w'.cell? ⟨bT, 1, none⟩ = some (.int .i64 0) ∧ w'.cell? ⟨bT, 2, none⟩ = some (.string ⟨#[76, 77, 84]⟩) ∧ w'.cell? ⟨bT, 3, none⟩ = some (.slice ca 211 cc) ∧ w'.cell? ⟨b3, 0, none⟩ = some (.int .i64 7200) ∧ w'.cell? ⟨b3, 1, none⟩ = some (.int .i64 3600) ∧ w'.cell? ⟨b3, 2, none⟩ = some (.string ⟨#[66]⟩) ∧ w'.cell? ⟨b5, 0, none⟩ = some (.int .i64 3600) ∧ w'.cell? ⟨b5, 1, none⟩ = some (.int .i64 0) ∧ w'.cell? ⟨b5, 2, none⟩ = some (.string ⟨#[65]⟩)) (by kernel_rfl) SS.out (fun hHeld => ?_)
 refine tkH 0 ?vz1 rfl ?z1 ?_
 case z1 => (intro w hSw; (obtain ⟨p0, p1, p2, p3, q0, q1, q2, u0, u1, u2⟩ := hSw); go_simp; try with_reducible rfl)
 try simp only [Act.put, jP, jO, jS, jG, jH, jI]
 refine tkH 1 ?vz2 rfl ?z2 ?_
 case z2 => (intro w hSw; (obtain ⟨p0, p1, p2, p3, q0, q1, q2, u0, u1, u2⟩ := hSw); go_simp; try with_reducible rfl)
 try simp only [Act.put, jP, jO, jS, jG, jH, jI]
 refine tkH 2 ?vz3 rfl ?z3 ?_
 case z3 => (intro w hSw; (obtain ⟨p0, p1, p2, p3, q0, q1, q2, u0, u1, u2⟩ := hSw); go_simp; try with_reducible rfl)
 try simp only [Act.put, jP, jO, jS, jG, jH, jI]
 refine tkH 3 ?vz4 rfl ?z4 ?_
 case z4 => (intro w hSw; (obtain ⟨p0, p1, p2, p3, q0, q1, q2, u0, u1, u2⟩ := hSw); go_simp; try with_reducible rfl)
 try simp only [Act.put, jP, jO, jS, jG, jH, jI]
 refine tkH 4 ?vz5 rfl ?z5 ?_
 case z5 => (intro w hSw; (obtain ⟨p0, p1, p2, p3, q0, q1, q2, u0, u1, u2⟩ := hSw); go_simp; try with_reducible rfl)
 try simp only [Act.put, jP, jO, jS, jG, jH, jI]
 refine tkH 5 ?vz6 rfl ?z6 ?_
 case z6 => (intro w hSw; (obtain ⟨p0, p1, p2, p3, q0, q1, q2, u0, u1, u2⟩ := hSw); go_simp; try with_reducible rfl)
 try simp only [Act.put, jP, jO, jS, jG, jH, jI]
 refine tkH 6 ?vz7 rfl ?z7 ?_
 case z7 => (intro w hSw; (obtain ⟨p0, p1, p2, p3, q0, q1, q2, u0, u1, u2⟩ := hSw); go_simp; try with_reducible rfl)
 try simp only [Act.put, jP, jO, jS, jG, jH, jI]
 refine tkH 7 ?vz8 rfl ?z8 ?_
 case z8 => (intro w hSw; (obtain ⟨p0, p1, p2, p3, q0, q1, q2, u0, u1, u2⟩ := hSw); go_simp; try with_reducible rfl)
 try simp only [Act.put, jP, jO, jS, jG, jH, jI]
 refine tkH 8 ?vz9 rfl ?z9 ?_
 case z9 => (intro w hSw; (obtain ⟨p0, p1, p2, p3, q0, q1, q2, u0, u1, u2⟩ := hSw); go_simp; try with_reducible rfl)
 try simp only [Act.put, jP, jO, jS, jG, jH, jI]
 refine tkH 9 ?vz10 rfl ?z10 ?_
 case z10 => (intro w hSw; (obtain ⟨p0, p1, p2, p3, q0, q1, q2, u0, u1, u2⟩ := hSw); go_simp; try with_reducible rfl)
 try simp only [Act.put, jP, jO, jS, jG, jH, jI]
 refine tkH 10 ?vz11 rfl ?z11 ?_
 case z11 => (intro w hSw; (obtain ⟨p0, p1, p2, p3, q0, q1, q2, u0, u1, u2⟩ := hSw); go_simp; try with_reducible rfl)
 try simp only [Act.put, jP, jO, jS, jG, jH, jI]
 refine tkH 11 ?vz12 rfl ?z12 ?_
 case z12 => (intro w hSw; (obtain ⟨p0, p1, p2, p3, q0, q1, q2, u0, u1, u2⟩ := hSw); go_simp; try with_reducible rfl)
 try simp only [Act.put, jP, jO, jS, jG, jH, jI]
 refine rdH 12 rfl fun K hK => ?_
 go_simp
 refine (HCK.out _ (show Below W.heap.size W W.drew from ⟨rfl, rfl, rfl, Nat.le_refl _, fun _ _ => rfl⟩)).mono ?_
 rintro e x1 ⟨rfl, hb⟩
 have hx1 := below_drew1 hb
 have S1 := KS.out x1 hx1
 refine hK.out _ _ ?_ (fun hHeld => ?_)
 ·exact S1
 clear hK K
 try simp only [Act.put, jP, jO, jS, jG, jH, jI]
 refine tkH 13 ?vz13 rfl ?z13 ?_
 case z13 => (intro w hSw; (obtain ⟨p0, p1, p2, p3, q0, q1, q2, u0, u1, u2⟩ := hSw); go_simp; try with_reducible rfl)
 try simp only [Act.put, jP, jO, jS, jG, jH, jI]
 refine tkH 14 ?vz14 rfl ?z14 ?_
 case z14 => (intro w hSw; (obtain ⟨p0, p1, p2, p3, q0, q1, q2, u0, u1, u2⟩ := hSw); go_simp; try with_reducible rfl)
 try simp only [Act.put, jP, jO, jS, jG, jH, jI]
 refine tkH 15 ?vz15 rfl ?z15 ?_
 case z15 => (intro w hSw; (obtain ⟨p0, p1, p2, p3, q0, q1, q2, u0, u1, u2⟩ := hSw); go_simp; try with_reducible rfl)
 try simp only [Act.put, jP, jO, jS, jG, jH, jI]
 refine tkH 16 ?vz16 rfl ?z16 ?_
 case z16 => (intro w hSw; (obtain ⟨p0, p1, p2, p3, q0, q1, q2, u0, u1, u2⟩ := hSw); go_simp; try with_reducible rfl)
 try simp only [Act.put, jP, jO, jS, jG, jH, jI]
 refine tkH 17 ?vz17 rfl ?z17 ?_
 case z17 => (intro w hSw; (obtain ⟨p0, p1, p2, p3, q0, q1, q2, u0, u1, u2⟩ := hSw); go_simp; try with_reducible rfl)
 try simp only [Act.put, jP, jO, jS, jG, jH, jI]
 refine tkH 18 ?vz18 rfl ?z18 ?_
 case z18 => (intro w hSw; (obtain ⟨p0, p1, p2, p3, q0, q1, q2, u0, u1, u2⟩ := hSw); go_simp; try with_reducible rfl)
 try simp only [Act.put, jP, jO, jS, jG, jH, jI]
 refine tkH 19 ?vz19 rfl ?z19 ?_
 case z19 => (intro w hSw; (obtain ⟨p0, p1, p2, p3, q0, q1, q2, u0, u1, u2⟩ := hSw); go_simp; try with_reducible rfl)
 try simp only [Act.put, jP, jO, jS, jG, jH, jI]
 refine tkH 20 ?vz20 rfl ?z20 ?_
 case z20 => (intro w hSw; (obtain ⟨p0, p1, p2, p3, q0, q1, q2, u0, u1, u2⟩ := hSw); go_simp; try with_reducible rfl)
 try simp only [Act.put, jP, jO, jS, jG, jH, jI]
 refine tkH 21 ?vz21 rfl ?z21 ?_
 case z21 => (intro w hSw; (obtain ⟨p0, p1, p2, p3, q0, q1, q2, u0, u1, u2⟩ := hSw); go_simp; try with_reducible rfl)
 try simp only [Act.put, jP, jO, jS, jG, jH, jI]
 refine tkH 22 ?vz22 rfl ?z22 ?_
 case z22 => (intro w hSw; (obtain ⟨p0, p1, p2, p3, q0, q1, q2, u0, u1, u2⟩ := hSw); go_simp; try with_reducible rfl)
 try simp only [Act.put, jP, jO, jS, jG, jH, jI]
 refine tkH 23 ?vz23 rfl ?z23 ?_
 case z23 => (intro w hSw; (obtain ⟨p0, p1, p2, p3, q0, q1, q2, u0, u1, u2⟩ := hSw); go_simp; try with_reducible rfl)
 try simp only [Act.put, jP, jO, jS, jG, jH, jI]
 refine tkH 24 ?vz24 rfl ?z24 ?_
 case z24 => (intro w hSw; (obtain ⟨p0, p1, p2, p3, q0, q1, q2, u0, u1, u2⟩ := hSw); go_simp; try with_reducible rfl)
 try simp only [Act.put, jP, jO, jS, jG, jH, jI]
 refine tkH 25 ?vz25 rfl ?z25 ?_
 case z25 => (intro w hSw; (obtain ⟨p0, p1, p2, p3, q0, q1, q2, u0, u1, u2⟩ := hSw); go_simp; try with_reducible rfl)
 try simp only [Act.put, jP, jO, jS, jG, jH, jI]
 refine tkH 26 ?vz26 rfl ?z26 ?_
 case z26 => (intro w hSw; (obtain ⟨p0, p1, p2, p3, q0, q1, q2, u0, u1, u2⟩ := hSw); go_simp; try with_reducible rfl)
 try simp only [Act.put, jP, jO, jS, jG, jH, jI]
 refine tkH 27 ?vz27 rfl ?z27 ?_
 case z27 => (intro w hSw; (obtain ⟨p0, p1, p2, p3, q0, q1, q2, u0, u1, u2⟩ := hSw); go_simp; try with_reducible rfl)
 try simp only [Act.put, jP, jO, jS, jG, jH, jI]
 refine tkH 28 ?vz28 rfl ?z28 ?_
 case z28 => (intro w hSw; (obtain ⟨p0, p1, p2, p3, q0, q1, q2, u0, u1, u2⟩ := hSw); go_simp; try with_reducible rfl)
 try simp only [Act.put, jP, jO, jS, jG, jH, jI]
 refine rdH 29 rfl fun K hK => ?_
 go_simp
 refine (small_lit x1).mono ?_
 rintro e x2 ⟨sb, so, sc, rfl, r2, ⟨hsb, c1, c2, c3⟩, hb2⟩
 have hx2 := hx1.trans (hb2.mono hx1.size)
 have S2 := KS.out x2 hx2
 refine hK.out _ _ ?_ (fun hHeld => ?_)
 ·exact S2
 clear hK K
 try simp only [Act.put, jP, jO, jS, jG, jH, jI]
 refine tkH 30 ?vz29 rfl ?z29 ?_
 case z29 => (intro w hSw; (obtain ⟨p0, p1, p2, p3, q0, q1, q2, u0, u1, u2⟩ := hSw); go_simp; try with_reducible rfl)
 try simp only [Act.put, jP, jO, jS, jG, jH, jI]
 refine tkH 31 ?vz30 rfl ?z30 ?_
 case z30 => (intro w hSw; (obtain ⟨p0, p1, p2, p3, q0, q1, q2, u0, u1, u2⟩ := hSw); go_simp; try with_reducible rfl)
 try simp only [Act.put, jP, jO, jS, jG, jH, jI]
 refine tkH 32 ?vz31 rfl ?z31 ?_
 case z31 => (intro w hSw; (obtain ⟨p0, p1, p2, p3, q0, q1, q2, u0, u1, u2⟩ := hSw); go_simp; try with_reducible rfl)
 try simp only [Act.put, jP, jO, jS, jG, jH, jI]
 refine rdH 33 rfl fun K hK => ?_
 go_simp
 have S3 := S2
 refine hK.out _ _ ?_ (fun hHeld => ?_)
 ·exact S3
 clear hK K
 try simp only [Act.put, jP, jO, jS, jG, jH, jI]
 refine tkH 34 ?vz32 rfl ?z32 ?_
 case z32 => (intro w hSw; (obtain ⟨p0, p1, p2, p3, q0, q1, q2, u0, u1, u2⟩ := hSw); go_simp; try with_reducible rfl)
 try simp only [Act.put, jP, jO, jS, jG, jH, jI]
 refine tkH 35 ?vz33 rfl ?z33 ?_
 case z33 => (intro w hSw; (obtain ⟨p0, p1, p2, p3, q0, q1, q2, u0, u1, u2⟩ := hSw); go_simp; try with_reducible rfl)
 try simp only [Act.put, jP, jO, jS, jG, jH, jI]
 refine tkH 36 ?vz34 rfl ?z34 ?_
 case z34 => (intro w hSw; (obtain ⟨p0, p1, p2, p3, q0, q1, q2, u0, u1, u2⟩ := hSw); go_simp; try with_reducible rfl)
 try simp only [Act.put, jP, jO, jS, jG, jH, jI]
 refine tkH 37 ?vz35 rfl ?z35 ?_
 case z35 => (intro w hSw; (obtain ⟨p0, p1, p2, p3, q0, q1, q2, u0, u1, u2⟩ := hSw); go_simp; try with_reducible rfl)
 try simp only [Act.put, jP, jO, jS, jG, jH, jI]
 refine rdH 38 rfl fun K hK => ?_
 go_simp
 refine (small_lit x2).mono ?_
 rintro e x3 ⟨sb3, so3, sc3, rfl, r3, _, hb3⟩
 have hx3 := hx2.trans (hb3.mono hx2.size)
 have S4 := KS.out x3 hx3
 refine hK.out _ _ ?_ (fun hHeld => ?_)
 ·exact S4
 clear hK K
 try simp only [Act.put, jP, jO, jS, jG, jH, jI]
 refine tkH 39 ?vz36 rfl ?z36 ?_
 case z36 => (intro w hSw; (obtain ⟨p0, p1, p2, p3, q0, q1, q2, u0, u1, u2⟩ := hSw); go_simp; try with_reducible rfl)
 try simp only [Act.put, jP, jO, jS, jG, jH, jI]
 refine tkH 40 ?vz37 rfl ?z37 ?_
 case z37 => (intro w hSw; (obtain ⟨p0, p1, p2, p3, q0, q1, q2, u0, u1, u2⟩ := hSw); go_simp; try with_reducible rfl)
 try simp only [Act.put, jP, jO, jS, jG, jH, jI]
 refine tkH 41 ?vz38 rfl ?z38 ?_
 case z38 => (intro w hSw; (obtain ⟨p0, p1, p2, p3, q0, q1, q2, u0, u1, u2⟩ := hSw); go_simp; try with_reducible rfl)
 try simp only [Act.put, jP, jO, jS, jG, jH, jI]
 refine tkH 42 ?vz39 rfl ?z39 ?_
 case z39 => (intro w hSw; (obtain ⟨p0, p1, p2, p3, q0, q1, q2, u0, u1, u2⟩ := hSw); go_simp; try with_reducible rfl)
 try simp only [Act.put, jP, jO, jS, jG, jH, jI]
 refine wpAnyH_done (by kernel_rfl) ?_ _
 go_wp2
 go_ret
 exact ⟨rfl, below_on B.out B.out.size hx3⟩
end Go.Proofs.YtkhlkohlccndgaaGreat
namespace Go.Proofs.YtkhlkohlccndgaaGreat
open Go.ChangeShapes Go.WideShapes Go.ChangeAt Go.RowKit

theorem int_of_shape {P : Program} {w : World} {g : Nat} {t : TypeId} {zero : Array Value} (h : w.ShapedOpen P) (hg : g < P.globals.size)
  (h0 : ((begin P (fun _ _ => 0) default).world.heap[g]?).bind Obj.row? = some (zero, t)) (hz : zero.size = 1)
  (hb : P.buildable t = true) (hc : P.cellTypes P.depth t = some [t]) (hu : P.underlying t = some (.int .i64)) : ∃ m, w.cell? ⟨g, 0, none⟩ = some (.int .i64 m) := by
 obtain ⟨cs, hh, hs, hr⟩ := h.1 g zero t hg h0
 obtain ⟨ts, hts, _, hall⟩ := hr hb
 rw [hc] at hts
 cases hts
 have h1 : 0 < cs.size := by omega
 obtain ⟨u, hu', hok⟩ := hall 0 cs[0] (by simp [h1])
 have : u = t := by simpa using hu'.symm
 subst this
 have hcell : w.cell? ⟨g, 0, none⟩ = some cs[0] := by simp [World.cell?, hh, h1]
 rw [hcell]
 unfold Cell.ok at hok
 rw [hu] at hok
 cases hv : cs[0] <;> rw [hv] at hok <;> simp at hok ⊢
 rename_i k n
 cases k <;> simp_all
theorem globalsSome : decide (0 < Tryz.prog.globals.size) = true := by kernel_rfl
theorem maxLen_is {w : World} (h : w.ShapedOpen Tryz.prog) : ∃ m, w.cell? ⟨0, 0, none⟩ = some (.int .i64 m) :=
 int_of_shape (t := 3) (zero := #[.int .i64 0]) h (of_decide_eq_true globalsSome) (by kernel_rfl) rfl (by kernel_rfl) (by kernel_rfl) Tryz.underlying3
theorem heap_pos {w : World} {m : Int} (h : w.cell? ⟨0, 0, none⟩ = some (.int .i64 m)) : 0 < w.heap.size := by
 unfold World.cell? at h
 split at h
 ·rename_i hb; exact (Array.getElem?_eq_some_iff.1 hb).1
 ·cases h
end Go.Proofs.YtkhlkohlccndgaaGreat
