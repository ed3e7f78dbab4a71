/- Proved: At answers just what the document says, errors too (the law ZoneAts), for every source, name and time; no condition. -/
import Derived.Test.YtkhlkohlccndgaaGreatQz
import Derived.Test.YtkhlkohlccndgaaGreatQam
import Derived.Test.YtkhlkohlccndgaaGreatQai
import Derived.Test.YtkhlkohlccndgaaGreatQah
import Derived.Deep.DeepCutAuto
import Derived.Test.YtkhlkohlccndgaaGreatQag
import Derived.Test.YtkhlkohlccndgaaGreatQaa
import Derived.ProofKit
import Derived.OpenShut
import Derived.Lib.SmallJoins
import Derived.Carry
import Derived.HandedShaped
set_option linter.unusedVariables false
set_option linter.unusedSimpArgs false
set_option maxRecDepth 100000
set_option maxHeartbeats 16000000
namespace Go.Proofs.YtkhlkohlccndgaaGreat
section
open Go.RowKit Go.Shelf
attribute [local go_sem] Oper.semAt_some
attribute [local go_sem ↓] Go.wp_at_zero Go.wp_at_succ

theorem own_low {w : World} {B : Nat} {e : TypeId} {z : Nat} {v : Value} {n : Nat} {xs : List Value} (h : w.ownsRow B e z v n xs) {q o : Nat} {u : Value} (hq : q < B) : (w.setCell ⟨q, o, none⟩ u).ownsRow B e z v n xs := by
 obtain ⟨h1, h2⟩ := h
 refine ⟨h1, ?_⟩
 rcases h2 with h | ⟨g', cap', cur, hv, hg, hh, r1, r2, r3, r4⟩
 ·exact .inl h
 ·exact .inr ⟨g', cap', cur, hv, hg, (Below.heap_setCell _ _ _ _ (show ¬ g' = q by omega)).trans hh, r1, r2, r3, r4⟩
end
section
open Go.RowKit Go.Shelf

end
section
open Go.RowKit Go.Shelf
attribute [local go_sem] Oper.semAt_some
attribute [local go_sem ↓] Go.wp_at_zero Go.wp_at_succ

end
section
open Go.RowKit Go.Shelf
attribute [local go_sem] Oper.semAt_some
attribute [local go_sem ↓] Go.wp_at_zero Go.wp_at_succ

end
section
open Go.RowKit Go.Shelf
attribute [local go_sem] Oper.semAt_some
attribute [local go_sem ↓] Go.wp_at_zero Go.wp_at_succ

end
section
open Go.RowKit Go.Shelf
attribute [local go_sem] Oper.semAt_some
attribute [local go_sem ↓] Go.wp_at_zero Go.wp_at_succ

end
section
open Go.RowKit Go.Shelf
end
section
open Go.RowKit Go.Shelf
attribute [local go_sem] Oper.semAt_some
attribute [local go_sem ↓] Go.wp_at_zero Go.wp_at_succ

end
namespace Tb
end Tb
section
open Go.RowKit Go.Shelf
end
namespace Sx
end Sx
section
open Go.RowKit Go.Shelf
end
namespace Tb
end Tb
section
open Go.RowKit Go.Shelf
/- the times at which something may be other -/
def timesZ (rs : List Sx.Rl) (x : Sx.Er) : List Sx.Tm := if x.rules = [] then [] else Sx.times rs x.rules x.shift
end
section
open Go.RowKit Go.Shelf
attribute [local go_sem] Oper.semAt_some
attribute [local go_sem ↓] Go.wp_at_zero Go.wp_at_succ

structure TV where
 l : List Sx.Tm
 a : Option Addr
 c : Nat
def tvCells (p : TV) : List Value := [.slice p.a p.l.length p.c]
def OwnTv (w : World) (B : Nat) (v : Value) (l : List TV) : Prop := w.ownsRow B 68 1 v l.length (l.flatMap tvCells)
theorem ownTv_nil (w : World) (B : Nat) : OwnTv w B (.slice none 0 0) [] := World.ownsRow_nil _ _ _ _
theorem ownTv_rd {w : World} {B : Nat} {v : Value} {l : List TV} (h : OwnTv w B v l) : Rd 1 tvCells w v l := own_rd (fun _ => rfl) h
theorem Tryz.infoTms : (Tryz.prog.info? 68).map (fun i => (i.zero, i.size, i.bytes)) = some (some (.slice none 0 0), 1, 24) := by kernel_rfl
/- what is told, in memory -/
structure ToldIn (rs : List Sx.Rl) (es : List Sx.Er) (va : Option Addr) (vc : Nat) (ta : Option Addr) (tc : Nat) (ps : List TV) (w : World) : Prop where
 ends : RdInts w (.slice va (endsE es).length vc) (endsE es)
 row : Rd 1 tvCells w (.slice ta ps.length tc) ps
 els : ∀ p ∈ ps, RdTimes w (.slice p.a p.l.length p.c) p.l
 map : ps.map TV.l = es.map (timesZ rs)
theorem toldIn_below {rs : List Sx.Rl} {es : List Sx.Er} {va : Option Addr} {vc : Nat} {ta : Option Addr} {tc : Nat} {ps : List TV} {w w' : World} (h : ToldIn rs es va vc ta tc ps w) (hb : Below w.heap.size w w') : ToldIn rs es va vc ta tc ps w' :=
 ⟨rd_below h.ends hb, rd_below h.row hb, fun p hp => rd_below (h.els p hp) hb, h.map⟩
def ToldEnd (rs : List Sx.Rl) (nm : Tx.Bs) (es : List Sx.Er) (a : Option Addr) (c : Nat) (w : World) (e : Ending) (w' : World) : Prop :=
 ∃ va vc ta tc ps, e = .returned (.agg #[strV nm, .slice a es.length c, .slice va (endsE es).length vc, .slice ta ps.length tc]) ∧ ToldIn rs es va vc ta tc ps w' ∧ Below w.heap.size w w'
structure TellSt (rs : List Sx.Rl) (ra : Option Addr) (rcap : Nat) (zv lv : Value) (nm : Tx.Bs) (es : List Sx.Er) (a : Option Addr) (c : Nat) (va : Option Addr) (vc : Nat) (L : List Int) (w : World) (N M T : Nat) (wr : World) (tv : Value) (ps : List TV) : Prop where
 bel : Below N w wr
 x : CellsAt wr N [.slice ra rs.length rcap, zv, lv]
 z : CellsAt wr (N + 1) [strV nm, .slice a es.length c]
 r : CellsAt wr (N + 1 + 1) [.string ⟨#[]⟩, .slice none 0 0, .slice none 0 0, .slice none 0 0]
 t : CellsAt wr T [strV nm, .slice a es.length c, .slice va L.length vc, tv]
 ends : OwnEnds wr (N + 1 + 1 + 1) (.slice va L.length vc) L
 own : OwnTv wr M tv ps
 els : ∀ p ∈ ps, OwnTm wr M (.slice p.a p.l.length p.c) p.l
 eb : ∀ g, (Value.slice va L.length vc).ownBlock = some g → g < M ∧ g ≠ T
 ord : N + 1 + 1 + 1 ≤ T ∧ T < M ∧ M ≤ wr.heap.size
section
variable {rs : List Sx.Rl} {ra : Option Addr} {rcap : Nat} {zv lv : Value} {nm : Tx.Bs} {es : List Sx.Er} {a : Option Addr} {c : Nat} {va : Option Addr} {vc : Nat} {L : List Int} {w : World} {N M T : Nat} {wr w' w9 : World} {tv v' : Value} {ps : List TV}
theorem tell_call (H : TellSt rs ra rcap zv lv nm es a c va vc L w N M T wr tv ps) (hb : Below wr.heap.size wr w') : TellSt rs ra rcap zv lv nm es a c va vc L w N M T w' tv ps := by
 obtain ⟨h1, h2, h3, h4, h5, h6, h7, h8, h9, h10, h11, h12⟩ := H
 exact ⟨below_on h1 (by omega) hb, ca_below h2 hb, ca_below h3 hb, ca_below h4 hb, ca_below h5 hb, owns_below h6 hb, owns_below h7 hb, fun p hp => owns_below (h8 p hp) hb, h9, h10, h11, Nat.le_trans h12 hb.size⟩
theorem tell_grown {n : Nat} {o : Obj} {xs : List Value} (H : TellSt rs ra rcap zv lv nm es a c va vc L w N M T wr tv ps) (hown : w9.ownsRow M 68 1 v' n xs) (hg : (wr.alloc o).grownBy w9 tv.ownBlock) :
  Below N w w9 ∧ CellsAt w9 N [.slice ra rs.length rcap, zv, lv] ∧ CellsAt w9 (N + 1) [strV nm, .slice a es.length c] ∧ CellsAt w9 (N + 1 + 1) [.string ⟨#[]⟩, .slice none 0 0, .slice none 0 0, .slice none 0 0] ∧ CellsAt w9 T [strV nm, .slice a es.length c, .slice va L.length vc, tv] ∧ OwnEnds w9 (N + 1 + 1 + 1) (.slice va L.length vc) L ∧ (∀ p ∈ ps, OwnTm w9 M (.slice p.a p.l.length p.c) p.l) ∧ M ≤ w9.heap.size := by
 obtain ⟨h1, h2, h3, h4, h5, h6, h7, h8, h9, h10, h11, h12⟩ := H
 have ne : ∀ X, X < M → ∀ k, tv.ownBlock = some k → k ≠ X := fun X hX k hk => by have := (h7.lt k hk).1; omega
 have hz := hg.size
 simp at hz
 refine ⟨Below.grown (h1.alloc (by omega) _) hg (by simp; omega) (fun k hk => by have := (h7.lt k hk).1; omega), ca_grownO (ca_alloc h2 _) hg (ne _ (by omega)), ca_grownO (ca_alloc h3 _) hg (ne _ (by omega)), ca_grownO (ca_alloc h4 _) hg (ne _ (by omega)), ca_grownO (ca_alloc h5 _) hg (ne _ (by omega)), ?_, fun p hp => own_other (h8 p hp) h7 (by decide) hg, by omega⟩
 exact own_other h6 (owns_base h7 (by omega)) (by decide) hg
theorem tell_arm {n : Nat} {o : Obj} {xs : List Value} (H : TellSt rs ra rcap zv lv nm es a c va vc L w N M T wr tv ps) (hown : w9.ownsRow M 68 1 v' n xs) (hg : (wr.alloc o).grownBy w9 tv.ownBlock) :
  ∃ ta tc, v' = .slice ta n tc ∧ w9.cell? ⟨T, 3, none⟩ = some tv ∧ w9.frozen? ⟨T, 3, none⟩ = false ∧ T < w9.heap.size := by
 obtain ⟨ta, tc, rfl⟩ := owns_shape0 hown
 obtain ⟨_, _, _, _, t, _⟩ := tell_grown H hown hg
 obtain ⟨g1, g2⟩ := ca_at t 3 rfl
 exact ⟨ta, tc, rfl, g1, g2, t.1⟩
theorem tell_app {o : Obj} {p : TV} {ta : Option Addr} {tc : Nat} (H : TellSt rs ra rcap zv lv nm es a c va vc L w N M T wr tv ps) (he : OwnTm wr M (.slice p.a p.l.length p.c) p.l) (hown : w9.ownsRow M 68 1 (.slice ta (ps.length + 1) tc) (ps.length + 1) (ps.flatMap tvCells ++ tvCells p)) (hg : (wr.alloc o).grownBy w9 tv.ownBlock) :
  TellSt rs ra rcap zv lv nm es a c va vc L w N M T (w9.setCell ⟨T, 3, none⟩ (.slice ta (ps.length + 1) tc)) (.slice ta (ps.length + 1) tc) (ps ++ [p]) := by
 obtain ⟨g1, g2, g3, g4, g5, g6, g8, g9⟩ := tell_grown H hown hg
 have he9 := own_other he H.own (by decide) hg
 obtain ⟨h1, h2, h3, h4, h5, h6, h7, h8, h9, h10, h11, h12⟩ := H
 refine ⟨below_set g1 (by omega) _, ca_far g2 (by omega), ca_far g3 (by omega), ca_far g4 (by omega), ca_put g5 3 _ (by simp), ownsRow_setCell_other g6 (fun q => (h9 _ q).2 rfl) _, ?_, ?_, h9, h10, h11, by simpa using g9⟩
 ·refine ownsRow_setCell_other ?_ (fun q => ?_) _
  ·show World.ownsRow _ _ _ _ _ _ _; simpa using hown
  ·have : M ≤ T := (hown.lt _ q).1; omega
 ·intro y hy
  rcases List.mem_append.1 hy with hy | hy
  ·exact ownsRow_setCell_other (g8 y hy) (fun q => by have : M ≤ T := ((g8 y hy).lt _ q).1; omega) _
  ·have : y = p := by simpa using hy
   subst this
   exact ownsRow_setCell_other he9 (fun q => by have : M ≤ T := (he9.lt _ q).1; omega) _
theorem tell_end {ta : Option Addr} {tc : Nat} (H : TellSt rs ra rcap zv lv nm es a c va vc L w N M T wr (.slice ta ps.length tc) ps) (hL : endsE es = L) (hM : ps.map TV.l = es.map (timesZ rs)) (u0 u1 u2 u3 : Value) :
  ToldIn rs es va vc ta tc ps ((((wr.setCell ⟨N + 1 + 1, 0, none⟩ u0).setCell ⟨N + 1 + 1, 1, none⟩ u1).setCell ⟨N + 1 + 1, 2, none⟩ u2).setCell ⟨N + 1 + 1, 3, none⟩ u3) ∧ Below N w ((((wr.setCell ⟨N + 1 + 1, 0, none⟩ u0).setCell ⟨N + 1 + 1, 1, none⟩ u1).setCell ⟨N + 1 + 1, 2, none⟩ u2).setCell ⟨N + 1 + 1, 3, none⟩ u3) := by
 obtain ⟨h1, h2, h3, h4, h5, h6, h7, h8, h9, h10, h11, h12⟩ := H
 subst hL
 have hq : N + 1 + 1 < M := by omega
 refine ⟨⟨ownEnds_rd (own_low (own_low (own_low (own_low h6 (by omega)) (by omega)) (by omega)) (by omega)), ownTv_rd (own_low (own_low (own_low (own_low h7 hq) hq) hq) hq), fun p hp => ownTm_rd (own_low (own_low (own_low (own_low (h8 p hp) hq) hq) hq) hq), hM⟩, below_put (below_put (below_put (below_put h1 (by omega) _ _) (by omega) _ _) (by omega) _ _) (by omega) _ _⟩
end
theorem tellOf_any (rs : List Sx.Rl) (nm : Tx.Bs) (es : List Sx.Er) (ra a : Option Addr) (rcap c : Nat) (zv lv : Value) (w : World) (h1 : RdRules w (.slice ra rs.length rcap) rs) (hs : ∀ r ∈ rs, r.name.length ≤ maxLen ∧ r.letter.length ≤ maxLen) (h2 : RdEras w (.slice a es.length c) es) (ho : LastO es) (hl : es.length ≤ 1000) (hok : ∀ e ∈ es, e.opn = true ∨ EndOk e) (hte : ∀ x ∈ es, x.rules ≠ [] → Sx.timesE rs x.rules x.shift = 0) :
  Calls Tryz.prog 25 #[.agg #[.slice ra rs.length rcap, zv, lv], .agg #[strV nm, .slice a es.length c]] w fun e w' => ToldEnd rs nm es a c w e w' := by
 obtain ⟨i0, hi, hz0, hz1, hz2⟩ := info_parts Tryz.infoTms
 obtain ⟨L, hL⟩ : ∃ L, endsE es = L := ⟨_, rfl⟩
 have HL := hid hL
 have LO := hid ho
 have TILL := hid hok
 have HTE := hid hte
 have HSZ := hid hs
 have RE0 := hid h2
 have RR0 := hid h1
 obtain ⟨N, hN⟩ : ∃ N, w.heap.size = N := ⟨_, rfl⟩
 obtain ⟨V0, g0, X0, hb0, sz0⟩ := named_new w #[.slice ra rs.length rcap, zv, lv] 26
 obtain ⟨V1, g1, Y0, hb1, sz1⟩ := named_new V0 #[strV nm, .slice a es.length c] 44
 obtain ⟨V, g2, R0, hb2, sz2⟩ := named_new V1 #[.string ⟨#[]⟩, .slice none 0 0, .slice none 0 0, .slice none 0 0] 58
 have e0 : V0.heap.size = N + 1 := by omega
 have e1 : V1.heap.size = N + 1 + 1 := by omega
 have eV : V.heap.size = N + 1 + 1 + 1 := by omega
 rw [hN] at X0
 rw [e0] at Y0
 rw [e1] at R0
 have X : Hid (CellsAt V N [.slice ra rs.length rcap, zv, lv]) := ca_below (ca_below X0 hb1) hb2
 have Z : Hid (CellsAt V (N + 1) [strV nm, .slice a es.length c]) := ca_below Y0 hb2
 have R : Hid (CellsAt V (N + 1 + 1) [.string ⟨#[]⟩, .slice none 0 0, .slice none 0 0, .slice none 0 0]) := R0
 have bb := hb0.trans ((hb1.trans (hb2.mono (by omega))).mono (by omega))
 have B : Hid (Below N w V) := hN ▸ bb
 have RE1 := hid (rd_below h2 bb)
 have gV : ((w.alloc (.cells #[.slice ra rs.length rcap, zv, lv] 26)).alloc (.cells #[strV nm, .slice a es.length c] 44)).alloc (.cells #[.string ⟨#[]⟩, .slice none 0 0, .slice none 0 0, .slice none 0 0] 58) = V := by rw [g0, g1]; exact g2
 have sV : N + 1 + 1 + 1 ≤ V.heap.size := by omega
 clear h1 hs h2 ho hok hte X0 Y0 R0 hb0 hb1 hb2 sz0 sz1 sz2 g0 g1 g2 e0 e1 eV hL bb
 unfold ToldEnd
 go_enter Tryz.func25, Tryz.ntmps25
 simp only [hN]
 obtain ⟨z0, _⟩ := ca_at Z.out 0 rfl
 obtain ⟨z1, _⟩ := ca_at Z.out 1 rfl
 have sz := Z.out.1
 have SS := hid (show V.cell? ⟨N + 1, 0, none⟩ = some (strV nm) ∧ V.cell? ⟨N + 1, 1, none⟩ = some (.slice a es.length c) from ⟨z0, z1⟩)
 have KS : Hid (∀ wz, Below V.heap.size V wz → (wz.cell? ⟨N + 1, 0, none⟩ = some (strV nm) ∧ wz.cell? ⟨N + 1, 1, none⟩ = some (.slice a es.length c))) := fun wz hb => ⟨(hb.cell (p := ⟨N + 1, 0, none⟩) sz).trans z0, (hb.cell (p := ⟨N + 1, 1, none⟩) sz).trans z1⟩
 have CE : Hid (∀ W, Below V.heap.size V W → Calls Tryz.prog 20 #[.agg #[strV nm, .slice a es.length c]] W fun e w' => ∃ va vc, e = .returned (.slice va L.length vc) ∧ OwnEnds w' W.heap.size (.slice va L.length vc) L ∧ Below W.heap.size W w') := fun W hW => by
  have := rEndsOf_any nm es a c W (rd_below RE1.out hW) LO.out (by omega) TILL.out
  rw [HL.out] at this
  refine this.mono ?_
  rintro e w' ⟨v, rfl, hO, hb⟩
  obtain ⟨va, vc, rfl⟩ := owns_shape0 hO
  exact ⟨va, vc, rfl, hO, hb⟩
 go_upto_region 1 with fail
 clear gV z0 z1 sz
 go_cut [5] from 10 to 13 (fun s5 wc => ∃ T va vc, s5 = .pointer (some ⟨T, 0, none⟩) ∧ V.heap.size ≤ T ∧ CellsAt wc T [strV nm, .slice a es.length c, .slice va L.length vc, .slice none 0 0] ∧ Below V.heap.size V wc ∧ OwnEnds wc V.heap.size (.slice va L.length vc) L ∧ ∀ g, (Value.slice va L.length vc).ownBlock = some g → g ≠ T)
 case first =>
  refine wp_region_held_drew (S := fun w' => w'.cell? ⟨N + 1, 0, none⟩ = some (strV nm) ∧ w'.cell? ⟨N + 1, 1, none⟩ = some (.slice a es.length c)) (by kernel_rfl) SS.out (fun hHeld => ?_)
  refine tkA 0 rfl ?_
  try simp only [Act.put, j]
  refine tkA 1 rfl ?_
  try simp only [Act.put, j]
  refine wpAnyH_ready (rs := [2,4]) (by kernel_rfl) (by simp) ?_
  refine AllReadyH.cons rfl (fun K hK => ?_) ?_
  ·go_simp
   refine (CE.out _ (show Below V.heap.size V V.drew from ⟨rfl, rfl, rfl, Nat.le_refl _, fun _ _ => rfl⟩)).mono ?_
   rintro e w7x ⟨va, vc, rfl, hO, hb7⟩
   have hb := below_drew1 hb7
   have S7 := KS.out w7x hb
   refine hK.out _ _ S7 (fun hHeld2 => ?_)
   clear hK K
   try simp only [Act.put, j]
   refine tkA 3 rfl ?_
   try simp only [Act.put, j]
   have B8 : Below V.heap.size V (w7x.alloc (.cells #[.string ⟨#[]⟩, .slice none 0 0, .slice none 0 0, .slice none 0 0] 58)) := hb.trans (((Below.refl w7x.heap.size w7x).alloc (Nat.le_refl _) _).mono hb.size)
   have S8 := KS.out _ B8
   refine rdH 4 rfl fun K hK => ?_
   go_simp
   refine hK.out _ _ S8 (fun hHeld2 => ?_)
   clear hK K
   try simp only [Act.put, j]
   have B9 : Below V.heap.size V (w7x.alloc (.cells #[strV nm, .slice a es.length c, .slice va L.length vc, .slice none 0 0] 58)) := hb.trans (((Below.refl w7x.heap.size w7x).alloc (Nat.le_refl _) _).mono hb.size)
   have S9 := KS.out _ B9
   have T9 : CellsAt (w7x.alloc (.cells #[strV nm, .slice a es.length c, .slice va L.length vc, .slice none 0 0] 58)) w7x.heap.size [strV nm, .slice a es.length c, .slice va L.length vc, .slice none 0 0] := ca_new w7x [strV nm, .slice a es.length c, .slice va L.length vc, .slice none 0 0] 58
   have N9 : V.heap.size ≤ w7x.heap.size := hb.size
   refine rdH 5 rfl fun K hK => ?_
   go_simp
   refine hK.out _ _ S9 (fun hHeld2 => ?_)
   clear hK K
   try simp only [Act.put, j]
   refine wpAnyH_done (by kernel_rfl) ?_ _
   have O9 := World.ownsRow.alloc hO (.cells #[strV nm, .slice a es.length c, .slice va L.length vc, .slice none 0 0] 58)
   have E9 : ∀ g, (Value.slice va L.length vc).ownBlock = some g → g ≠ w7x.heap.size := fun g q => by have := (hO.lt g q).2; omega
   go_wp2_with fail
   go_meet
   exact ⟨_, va, vc, rfl, N9, T9, B9, O9, E9⟩
  refine AllReadyH.cons rfl (fun K hK => ?_) AllReadyH.nil
  have BB : Below V.heap.size V (V.drew.alloc (.cells #[.string ⟨#[]⟩, .slice none 0 0, .slice none 0 0, .slice none 0 0] 58)) := (show Below V.heap.size V V.drew from ⟨rfl, rfl, rfl, Nat.le_refl _, fun _ _ => rfl⟩).trans ((Below.refl V.drew.heap.size V.drew).alloc (Nat.le_refl _) _)
  have TB := ca_new V.drew [.string ⟨#[]⟩, .slice none 0 0, .slice none 0 0, .slice none 0 0] 58
  go_simp
  have S7 := KS.out _ BB
  refine hK.out _ _ S7 (fun hHeld2 => ?_)
  clear hK K
  try simp only [Act.put, j]
  refine rdH 2 rfl fun K hK => ?_
  go_simp
  refine (CE.out _ BB).mono ?_
  rintro e w7x ⟨va, vc, rfl, hO, hb7⟩
  have hb := BB.trans (hb7.mono BB.size)
  have S8 := KS.out w7x hb
  have T7 : CellsAt w7x V.heap.size [.string ⟨#[]⟩, .slice none 0 0, .slice none 0 0, .slice none 0 0] := ca_below TB hb7
  obtain ⟨q0, k0⟩ := ca_at T7 0 rfl
  obtain ⟨q1, k1⟩ := ca_at T7 1 rfl
  obtain ⟨q2, k2⟩ := ca_at T7 2 rfl
  obtain ⟨q3, k3⟩ := ca_at T7 3 rfl
  have sT := T7.1
  refine hK.out _ _ S8 (fun hHeld2 => ?_)
  clear hK K
  try simp only [Act.put, j]
  refine tkA 3 rfl ?_
  try simp only [Act.put, j]
  have B9 := (below_put (below_put (below_put (below_put hb (Nat.le_refl _) 0 (strV nm)) (Nat.le_refl _) 1 (.slice a es.length c)) (Nat.le_refl _) 2 (.slice va L.length vc)) (Nat.le_refl _) 3 (.slice none 0 0))
  have S9 := KS.out _ B9
  have T9 := (ca_put (ca_put (ca_put (ca_put T7 0 (strV nm) (by simp)) 1 (.slice a es.length c) (by simp)) 2 (.slice va L.length vc) (by simp)) 3 (.slice none 0 0) (by simp))
  simp only [List.set_cons_zero, List.set_cons_succ] at T9
  have N9 : V.heap.size ≤ V.heap.size := Nat.le_refl _
  refine rdH 5 rfl fun K hK => ?_
  go_simp
  refine hK.out _ _ S9 (fun hHeld2 => ?_)
  clear hK K
  try simp only [Act.put, j]
  refine wpAnyH_done (by kernel_rfl) ?_ _
  have E9 : ∀ g, (Value.slice va L.length vc).ownBlock = some g → g ≠ V.heap.size := fun g q => by have := (hO.lt g q).1; simp at this; omega
  have hq9 : V.heap.size < (V.drew.alloc (.cells #[.string ⟨#[]⟩, .slice none 0 0, .slice none 0 0, .slice none 0 0] 58)).heap.size := by simp
  have O9 := own_low (own_low (own_low (own_low (hO) hq9 (o := 0) (u := strV nm)) hq9 (o := 1) (u := .slice a es.length c)) hq9 (o := 2) (u := .slice va L.length vc)) hq9 (o := 3) (u := .slice none 0 0)
  replace O9 := owns_base O9 (show V.heap.size ≤ _ by simp)
  go_wp2_with fail
  go_meet
  exact ⟨_, va, vc, rfl, N9, T9, B9, O9, E9⟩
 case rest =>
 obtain ⟨T, va, vc, rfl, hT, CT1, BW, OE, E9⟩ := hcut
 obtain ⟨M, hM⟩ : ∃ M, wc.heap.size = M := ⟨_, rfl⟩
 have hTM : T < M := by have := CT1.1; omega
 have ST : Hid (TellSt rs ra rcap zv lv nm es a c va vc L w N M T wc (.slice none 0 0) []) := by
  refine ⟨below_on B.out (by omega) BW, ca_below X.out BW, ca_below Z.out BW, ca_below R.out BW, CT1, owns_base OE (by omega), ownTv_nil _ _, fun p hp => (by cases hp), fun g q => ⟨by have := (OE.lt g q).2; omega, E9 g q⟩, by omega, hTM, by omega⟩
 clear SS KS CE B X Z R CT1 BW OE E9 sV hM hT hTM
 obtain ⟨w1, hw1⟩ : ∃ y, wc = y := ⟨_, rfl⟩
 rw [hw1] at ST ⊢
 clear hw1
 go_wp2_with fail
 go_loopw [6] (fun kv wr => ∃ (k : Nat) (ps : List TV) (tv : Value), k ≤ es.length ∧ kv = .int .i64 k ∧ Hid (ps.length = k) ∧ Hid (ps.map TV.l = (es.take k).map (timesZ rs)) ∧ Hid (TellSt rs ra rcap zv lv nm es a c va vc L w N M T wr tv ps)) (fun kv _ => es.length - (intOf kv).toNat)
 case atStart => exact ⟨0, [], _, Nat.zero_le _, rfl, rfl, rfl, ST⟩
 case round =>
  clear ST
  obtain ⟨k, ps, tv, hk, rfl, hpl, HM, H⟩ := hrel
  obtain ⟨z1, _⟩ := ca_at H.out.z 1 rfl
  have sz := H.out.z.1
  have hown := H.out.own
  obtain ⟨ta, tc, rfl⟩ := owns_shape0 hown
  clear hown
  by_cases hlt : k < es.length
  case neg =>
   have e : k = es.length := by omega
   have q : ¬ (k : Int) < (es.length : Int) := by omega
   have HM2 : Hid (ps.map TV.l = es.map (timesZ rs)) := by have := HM.out; rw [e, List.take_length] at this; exact this
   obtain ⟨t0, _⟩ := ca_at H.out.t 0 rfl
   obtain ⟨t1, _⟩ := ca_at H.out.t 1 rfl
   obtain ⟨t2, _⟩ := ca_at H.out.t 2 rfl
   obtain ⟨t3, _⟩ := ca_at H.out.t 3 rfl
   have st := H.out.t.1
   obtain ⟨r0, f0⟩ := ca_at H.out.r 0 rfl
   obtain ⟨r1, f1⟩ := ca_at H.out.r 1 rfl
   obtain ⟨r2, f2⟩ := ca_at H.out.r 2 rfl
   obtain ⟨r3, f3⟩ := ca_at H.out.r 3 rfl
   have sr := H.out.r.1
   have E := hid (tell_end H.out HL.out HM2.out (strV nm) (.slice a es.length c) (.slice va L.length vc) (.slice ta ps.length tc))
   clear hlt e HM
   go_wp2
   refine bodyPost_ret (v := .agg #[strV nm, .slice a es.length c, .slice va L.length vc, .slice ta ps.length tc]) (by simp [results, Tryz.results25, go_sem, *]) rfl ⟨va, vc, ta, tc, ps, by rw [HL.out], E.out.1, E.out.2⟩
  obtain ⟨x, hx⟩ : ∃ x, es[k]? = some x := ⟨_, List.getElem?_eq_getElem hlt⟩
  obtain ⟨eb, eo, e1, heb, hc⟩ := rd_elem (rd_below RE0.out (hN ▸ H.out.bel)) hx
  subst e1
  have c0 : wr.cell? ⟨eb, eo + k * 10, none⟩ = some (.int .i64 x.shift) := by have := hc 0 _ rfl; simpa using this
  have c1 : wr.cell? ⟨eb, eo + k * 10 + 1, none⟩ = some (strV x.rules) := hc 1 _ rfl
  have hdr : es.take (k + 1) = es.take k ++ [x] := by rw [List.take_add_one, hx]; rfl
  have hmem := List.mem_of_getElem? hx
  have q : (k : Int) < (es.length : Int) := by omega
  clear hc hx
  cases hr : x.rules.isEmpty
  case true =>
   have hr0 : x.rules = [] := by simpa using hr
   have HTX : Hid (([] : List Sx.Tm) = timesZ rs x) := by show _ = _; unfold timesZ; rw [if_pos hr0]
   rw [hr0] at c1
   clear hr hr0 hmem
   have H9 := H.out
   have OW9 := H9.own
   obtain ⟨t3, _⟩ := ca_at H9.t 3 rfl
   have stt := H9.t.1
   have hm9 := H9.ord.2.2
   go_wp2_with (at_builtin; refine wpList_append_own _ rfl _ _ 56 rfl M 68 i0 (.slice none 0 0) 1 24 Tryz.underlying56 hi hz0 hz1 hz2 rfl (by decide) _ _ _ rfl (World.ownsRow.alloc OW9 _) _ 1 1 [.slice none 0 0] rfl rfl (one_cell _ _) (by intro u hu; simp at hu; subst hu; rfl) (by have := hpl.out; unfold maxLen; omega) (by have := hpl.out; omega) (by simp; omega) ?_)
   intro v' w9 hown' hgrow _
   obtain ⟨ta', tc', rfl, t3', m3', st3⟩ := tell_arm H9 hown' hgrow
   have H2 := hid (tell_app (p := ⟨[], none, 0⟩) H9 (ownTm_nil _ _) hown' hgrow)
   clear H H9 hown' hgrow OW9 t3 stt hm9
   go_wp2
   go_roundw
   case rel => exact ⟨k + 1, ps ++ [⟨[], none, 0⟩], _, by omega, by go_num, by show _ = _; rw [List.length_append, hpl.out]; rfl, by show _ = _; rw [List.map_append, HM.out, hdr, List.map_append]; show _ ++ [_] = _ ++ [_]; rw [← HTX.out], H2⟩
   case measure => simp [intOf]; omega
  have hr0 : x.rules ≠ [] := by intro q; rw [q] at hr; cases hr
  have hTE := HTE.out x hmem hr0
  obtain ⟨Q, hQ⟩ : ∃ T, Sx.times rs x.rules x.shift = T := ⟨_, rfl⟩
  have hQ1 : Q.length ≤ 1000 := by rw [← hQ]; exact Sx.times_fewZ _ _ _
  have HTX : Hid (Q = timesZ rs x) := by show _ = _; unfold timesZ; rw [if_neg hr0, hQ]
  have RR := hid (rd_below RR0.out (hN ▸ H.out.bel))
  have CT : Hid (∀ W, Below wr.heap.size wr W → Calls Tryz.prog 59 #[.slice ra rs.length rcap, strV x.rules, .int .i64 x.shift] W fun e w' => ∃ pa pc, e = .returned (.tuple #[.slice pa Q.length pc, .int .i64 0]) ∧ OwnTm w' W.heap.size (.slice pa Q.length pc) Q ∧ Below W.heap.size W w') := fun W hW => by
   have := timesOf_any rs _ x.rules x.shift W (rd_below RR.out hW) HSZ.out
   refine this.mono ?_
   intro e w' hE
   unfold TmEnd at hE
   rw [hTE, hQ] at hE
   obtain ⟨v, rfl, hO, hb⟩ := hE
   obtain ⟨pa, pc, rfl⟩ := owns_shape0 hO
   exact ⟨pa, pc, rfl, hO, hb⟩
  clear hQ hTE hmem
  obtain ⟨s0, _⟩ := ca_at H.out.x 0 rfl
  have sx := H.out.x.1
  have HNE : Hid (x.rules ≠ []) := hr0
  have SS := hid (show wr.cell? ⟨N, 0, none⟩ = some (.slice ra rs.length rcap) ∧ wr.cell? ⟨N + 1, 1, none⟩ = some (.slice (some ⟨eb, eo, none⟩) es.length c) ∧ wr.cell? ⟨eb, eo + k * 10, none⟩ = some (.int .i64 x.shift) ∧ wr.cell? ⟨eb, eo + k * 10 + 1, none⟩ = some (strV x.rules) from ⟨s0, z1, c0, c1⟩)
  have KS : Hid (∀ wz, Below wr.heap.size wr wz → (wz.cell? ⟨N, 0, none⟩ = some (.slice ra rs.length rcap) ∧ wz.cell? ⟨N + 1, 1, none⟩ = some (.slice (some ⟨eb, eo, none⟩) es.length c) ∧ wz.cell? ⟨eb, eo + k * 10, none⟩ = some (.int .i64 x.shift) ∧ wz.cell? ⟨eb, eo + k * 10 + 1, none⟩ = some (strV x.rules))) := fun wz hb => ⟨(hb.cell (p := ⟨N, 0, none⟩) sx).trans s0, (hb.cell (p := ⟨N + 1, 1, none⟩) sz).trans z1, (hb.cell (p := ⟨eb, eo + k * 10, none⟩) heb).trans c0, (hb.cell (p := ⟨eb, eo + k * 10 + 1, none⟩) heb).trans c1⟩
  clear hr0
  go_upto_region 7 with fail
  refine wp_region_held_drew (S := fun w' => w'.cell? ⟨N, 0, none⟩ = some (.slice ra rs.length rcap) ∧ w'.cell? ⟨N + 1, 1, none⟩ = some (.slice (some ⟨eb, eo, none⟩) es.length c) ∧ w'.cell? ⟨eb, eo + k * 10, none⟩ = some (.int .i64 x.shift) ∧ w'.cell? ⟨eb, eo + k * 10 + 1, none⟩ = some (strV x.rules)) (by kernel_rfl) SS.out (fun hHeld => ?_)
  refine tkA 0 rfl ?_
  try simp only [Act.put, j]
  refine tkA 1 rfl ?_
  try simp only [Act.put, j]
  refine tkA 2 rfl ?_
  try simp only [Act.put, j]
  refine tkA 3 rfl ?_
  try simp only [Act.put, j]
  refine tkA 4 rfl ?_
  try simp only [Act.put, j]
  refine tkA 5 rfl ?_
  try simp only [Act.put, j]
  refine tkA 6 rfl ?_
  try simp only [Act.put, j]
  refine tkA 7 rfl ?_
  try simp only [Act.put, j]
  refine tkA 8 rfl ?_
  try simp only [Act.put, j]
  refine tkA 9 rfl ?_
  try simp only [Act.put, j]
  refine tkA 10 rfl ?_
  try simp only [Act.put, j]
  refine tkA 11 rfl ?_
  try simp only [Act.put, j]
  refine tkA 12 rfl ?_
  try simp only [Act.put, j]
  refine tkA 13 rfl ?_
  try simp only [Act.put, j]
  refine rdH 14 rfl fun K hK => ?_
  go_simp
  refine (CT.out _ (show Below wr.heap.size wr wr.drew from ⟨rfl, rfl, rfl, Nat.le_refl _, fun _ _ => rfl⟩)).mono ?_
  rintro e w10 ⟨pa, pc, rfl, hO, hb10⟩
  have hb := below_drew1 hb10
  have SS7 := KS.out w10 hb
  refine hK.out _ _ ?_ (fun hHeld => ?_)
  ·exact SS7
  clear hK K
  try simp only [Act.put, j]
  refine tkA 15 rfl ?_
  try simp only [Act.put, j]
  refine tkA 16 rfl ?_
  try simp only [Act.put, j]
  refine tkA 17 rfl ?_
  try simp only [Act.put, j]
  refine tkA 18 rfl ?_
  try simp only [Act.put, j]
  refine tkA 19 rfl ?_
  try simp only [Act.put, j]
  refine wpAnyH_done (by kernel_rfl) ?_ _
  have H' := hid (tell_call H.out hb)
  have HEL := hid (owns_base hO (show M ≤ wr.drew.heap.size from H.out.ord.2.2))
  clear H hO s0 sx z1 c0 c1 heb sz KS SS CT SS7 hb hb10 hHeld RR HNE
  have H9 := H'.out
  have OW9 := H9.own
  obtain ⟨t3, _⟩ := ca_at H9.t 3 rfl
  have stt := H9.t.1
  have hm9 := H9.ord.2.2
  go_wp2_with (at_builtin; refine wpList_append_own _ rfl _ _ 56 rfl M 68 i0 (.slice none 0 0) 1 24 Tryz.underlying56 hi hz0 hz1 hz2 rfl (by decide) _ _ _ rfl (World.ownsRow.alloc OW9 _) _ 1 1 [.slice pa Q.length pc] rfl rfl (one_cell _ _) (by intro u hu; simp at hu; subst hu; rfl) (by have := hpl.out; unfold maxLen; omega) (by have := hpl.out; omega) (by simp; omega) ?_)
  intro v' w9 hown' hgrow _
  obtain ⟨ta', tc', rfl, t3', m3', st3⟩ := tell_arm H9 hown' hgrow
  have H2 := hid (tell_app (p := ⟨Q, pa, pc⟩) H9 HEL.out hown' hgrow)
  clear H' H9 hown' hgrow OW9 t3 stt hm9
  go_wp2
  go_roundw
  case rel => exact ⟨k + 1, ps ++ [⟨Q, pa, pc⟩], _, by omega, by go_num, by show _ = _; rw [List.length_append, hpl.out]; rfl, by show _ = _; rw [List.map_append, HM.out, hdr, List.map_append]; show _ ++ [_] = _ ++ [_]; rw [← HTX.out], H2⟩
  case measure => simp [intOf]; omega
end
section
open Go.RowKit
def nameR (sv : Int) (lt : Tx.Bs) (pre : Tx.Bs) : Tx.Bs → Tx.Bs
 | [] => pre
 | c :: r => if c = 47 then (if sv = 0 then pre else r) else if c = 37 then pre ++ lt ++ r.drop 1 else nameR sv lt (pre ++ [c]) r
theorem nameR_plain {sv : Int} {lt : Tx.Bs} : ∀ (p pre r : Tx.Bs), Sx.plainB p = true → nameR sv lt pre (p ++ r) = nameR sv lt (pre ++ p) r
 | [], pre, r, _ => by simp
 | c :: p, pre, r, h => by
   have h' : Sx.plainC c = true ∧ Sx.plainB p = true := by simpa [Sx.plainB] using h
   have c1 : ¬ c = 47 := by intro q; rw [q] at h'; exact absurd h'.1 (by decide)
   have c2 : ¬ c = 37 := by intro q; rw [q] at h'; exact absurd h'.1 (by decide)
   show (if c = 47 then (if sv = 0 then pre else p ++ r) else if c = 37 then pre ++ lt ++ (p ++ r).drop 1 else nameR sv lt (pre ++ [c]) (p ++ r)) = _
   rw [if_neg c1, if_neg c2, nameR_plain p _ r h'.2]
   simp
theorem cut_found {sub : Tx.Bs} (hs : sub.isEmpty = false) : ∀ s : Tx.Bs, (Lib.cut s sub).2.2 = true → s = (Lib.cut s sub).1 ++ sub ++ (Lib.cut s sub).2.1
 | [], h => by rw [Sx.cut_nil sub hs] at h; cases h
 | c :: r, h => by
   cases q : sub.isPrefixOf (c :: r)
   ·rw [Sx.cut_on q] at h ⊢
    have := cut_found hs r h
    simp only [List.cons_append]
    rw [← this]
   ·rw [Sx.cut_here q]
    obtain ⟨t, ht⟩ := List.isPrefixOf_iff_prefix.1 q
    simp only [List.nil_append]
    rw [← ht]; simp
theorem cut_none {sub : Tx.Bs} (hs : sub.isEmpty = false) : ∀ s : Tx.Bs, (Lib.cut s sub).2.2 = false → (Lib.cut s sub).1 = s
 | [], h => by rw [Sx.cut_nil sub hs]
 | c :: r, h => by
   cases q : sub.isPrefixOf (c :: r)
   ·rw [Sx.cut_on q] at h ⊢
    have := cut_none hs r h
    simp only
    rw [this]
   ·rw [Sx.cut_here q] at h; cases h
theorem nameR_is {s lt : Tx.Bs} {sv : Int} (h : Sx.fmtH true s = true) (hv : 0 ≤ sv) : nameR sv lt [] s = nameE s sv lt := by
 unfold Sx.fmtH at h
 unfold nameE
 cases c1 : (Lib.cut s Sx.pct).2.2
 ·rw [c1] at h
  simp only [Bool.false_eq_true, ↓reduceIte] at h ⊢
  cases c2 : (Lib.cut s Sx.slash).2.2
  ·rw [c2] at h
   simp only [Bool.false_eq_true, ↓reduceIte, false_and] at h ⊢
   rw [cut_none (by rfl) s c2]
   have := nameR_plain (sv := sv) (lt := lt) s [] [] h
   rw [List.append_nil] at this
   rw [this]; rfl
  ·rw [c2] at h
   simp only [↓reduceIte, true_and] at h ⊢
   simp at h
   obtain ⟨h1, h2⟩ := h
   have e := cut_found (by rfl) s c2
   conv => lhs; rw [e]
   rw [List.append_assoc, nameR_plain _ _ _ h1.2]
   show (if (47 : UInt8) = 47 then (if sv = 0 then [] ++ (Lib.cut s Sx.slash).1 else (Lib.cut s Sx.slash).2.1) else _) = _
   rw [if_pos rfl]
   by_cases q : sv = 0
   ·rw [if_pos q, if_neg (by omega)]; rfl
   ·rw [if_neg q, if_pos (by omega)]
 ·rw [c1] at h
  simp only [↓reduceIte] at h ⊢
  simp at h
  have e := cut_found (by rfl) s c1
  conv => lhs; rw [e]
  rw [List.append_assoc, nameR_plain _ _ _ h.1]
  show (if (37 : UInt8) = 47 then _ else if (37 : UInt8) = 37 then ([] ++ (Lib.cut s Sx.pct).1) ++ lt ++ ((115 : UInt8) :: (Lib.cut s Sx.pct).2.1).drop 1 else _) = _
  rw [if_neg (by decide), if_pos rfl]
  rfl
end
section
open Go.RowKit
theorem ba_str {a : ByteArray} {l : Tx.Bs} (h : a.data.toList = l) : Ending.returned (.string a) = .returned (.string ⟨l.toArray⟩) := by
 have : a = ⟨l.toArray⟩ := by apply ByteArray.ext; rw [← h]
 rw [this]
theorem nameR_step {sv : Int} {lt pre r : Tx.Bs} {c : UInt8} (h1 : c ≠ 47) (h2 : c ≠ 37) : nameR sv lt pre (c :: r) = nameR sv lt (pre ++ [c]) r := by
 show (if c = 47 then _ else if c = 37 then _ else _) = _
 rw [if_neg h1, if_neg h2]
theorem nameR_slash {sv : Int} {lt pre r : Tx.Bs} : nameR sv lt pre (47 :: r) = if sv = 0 then pre else r := by
 show (if (47 : UInt8) = 47 then _ else _) = _
 rw [if_pos rfl]
theorem nameR_mark {sv : Int} {lt pre r : Tx.Bs} : nameR sv lt pre (37 :: r) = pre ++ lt ++ r.drop 1 := by
 show (if (37 : UInt8) = 47 then _ else if (37 : UInt8) = 37 then _ else _) = _
 rw [if_neg (by decide), if_pos rfl]
theorem rNameOf_any (s t : ByteArray) (sv : Int) (w : World) (hs : s.size ≤ 1000000) (ht : t.size ≤ 1000000) (hp : ∀ k, s.data.toList[k]? = some 37 → k + 2 ≤ s.size) :
  Calls Tryz.prog 64 #[.string s, .string t, .int .i64 sv] w fun e w' => e = .returned (.string ⟨(nameR sv t.data.toList [] s.data.toList).toArray⟩) ∧ Below w.heap.size w w' := by
 obtain ⟨R, hR⟩ : ∃ R, nameR sv t.data.toList [] s.data.toList = R := ⟨_, rfl⟩
 have HR : Hid (nameR sv t.data.toList (s.data.toList.take 0) (s.data.toList.drop 0) = R) := by show _ = _; rw [List.take_zero, List.drop_zero]; exact hR
 have HP := hid hp
 rw [hR]
 clear hR hp
 go_enter Tryz.func64, Tryz.ntmps64
 go_wp2_with fail
 go_loop [7] (fun a => ∃ k : Nat, k ≤ s.size ∧ a = .int .i64 k ∧ Hid (nameR sv t.data.toList (s.data.toList.take k) (s.data.toList.drop k) = R)) (fun a => s.size - (intOf a).toNat)
 case atStart => exact ⟨0, by omega, rfl, HR⟩
 case round =>
  clear HR
  obtain ⟨k, hk, rfl, HR⟩ := hrel
  have hsl : s.data.toList.length = s.size := size_len s
  by_cases hlt : k < s.size
  case neg =>
   have e1 : s.data.toList.drop k = [] := List.drop_eq_nil_of_le (by omega)
   have e2 : s.data.toList = R := by
    have := HR.out
    rw [e1, List.take_of_length_le (by omega)] at this
    exact this
   have q : ¬ (k : Int) < (s.size : Int) := by omega
   have HE := hid e2
   clear hlt e1 HR e2
   go_wp2
   go_ret
   exact ⟨ba_str HE.out, Below.refl _ _⟩
  obtain ⟨c, hc⟩ : ∃ c, s[k] = c := ⟨_, rfl⟩
  have hd : s.data.toList.drop k = c :: s.data.toList.drop (k + 1) := by rw [drop_cons s k hlt, hc]
  have hg : s.data.toList[k]? = some c := by
   have : (s.data.toList.drop k)[0]? = some c := by rw [hd]; rfl
   rw [List.getElem?_drop, Nat.add_zero] at this
   exact this
  have HR1 : Hid (nameR sv t.data.toList (s.data.toList.take k) (c :: s.data.toList.drop (k + 1)) = R) := by show _ = _; rw [← hd]; exact HR.out
  have q : (k : Int) < (s.size : Int) := by omega
  have HG := hid hg
  have HX := hid (extract1 s k hlt)
  rw [hc] at HX
  have hx1 := extract1_size s k hlt
  clear HR hd hg
  by_cases c47 : c = 47
  ·have e47 : ((c.toNat : Int) == 47) = true := by rw [c47]; rfl
   have HR2 : Hid ((if sv = 0 then s.data.toList.take k else s.data.toList.drop (k + 1)) = R) := by show _ = _; rw [← HR1.out, c47, nameR_slash]
   clear c47 HR1
   by_cases hz : sv = 0
   ·have ez : (sv == 0) = true := by simp [hz]
    have HE : Hid ((s.extract 0 k).data.toList = R) := by show _ = _; rw [Lib.extract_data, ← HR2.out, if_pos hz]; simp
    clear hz HR2
    go_wp2
    go_ret
    exact ⟨ba_str HE.out, Below.refl _ _⟩
   ·have ez : (sv == 0) = false := by simp [hz]
    have HE : Hid ((s.extract (k + 1) s.size).data.toList = R) := by
     show _ = _
     rw [Lib.extract_data, ← HR2.out, if_neg hz, List.take_of_length_le (by rw [List.length_drop]; omega)]
    have w1 : wrap64 ((k : Int) + 1) = (k : Int) + 1 := by unfold wrap64; omega
    have b1 : (k : Int) + 1 ≤ (s.size : Int) := by omega
    clear hz HR2
    go_wp2
    go_ret
    exact ⟨ba_str HE.out, Below.refl _ _⟩
  have e47 : ((c.toNat : Int) == 47) = false := by simp; intro h; exact c47 (UInt8.toNat_inj.1 (by show c.toNat = 47; omega))
  by_cases c37 : c = 37
  ·have e37 : ((c.toNat : Int) == 37) = true := by rw [c37]; rfl
   have h2 : k + 2 ≤ s.size := HP.out k (by rw [← c37]; exact HG.out)
   have HE : Hid ((s.extract 0 k ++ t ++ s.extract (k + 2) s.size).data.toList = R) := by
    show _ = _
    rw [← HR1.out, c37, nameR_mark, List.drop_drop]
    simp only [ByteArray.data_append, Array.toList_append, Lib.extract_data]
    rw [List.drop_zero, Nat.sub_zero, List.take_of_length_le (l := s.data.toList.drop (k + 2)) (by rw [List.length_drop]; omega)]
   have w1 : wrap64 ((k : Int) + 2) = (k : Int) + 2 := by unfold wrap64; omega
   have w2 : IntKind.i64.wrap ((k : Int) + 2) = (k : Int) + 2 := IntWalk.i64_in _ (by omega)
   have b1 : (k : Int) + 2 ≤ (s.size : Int) := by omega
   clear c37 c47 HR1
   go_wp2_with fail
   go_quiet (fail)
   go_wp2
   go_ret
   exact ⟨ba_str HE.out, below_drewN (Below.refl _ _) _⟩
  have e37 : ((c.toNat : Int) == 37) = false := by simp; intro h; exact c37 (UInt8.toNat_inj.1 (by show c.toNat = 37; omega))
  have HR2 : Hid (nameR sv t.data.toList (s.data.toList.take (k + 1)) (s.data.toList.drop (k + 1)) = R) := by
   show _ = _
   rw [List.take_add_one, HG.out, ← HR1.out, nameR_step c47 c37]; rfl
  clear c37 c47 HR1
  go_wp2
  go_round
  case rel => exact ⟨k + 1, by omega, by go_num, HR2⟩
  case measure => simp [intOf]; omega
end
section
open Go.RowKit
theorem fmt_mark_in : ∀ (s : Tx.Bs) (f : Bool), (Sx.fmtM f s).isSome = true → ∀ k, s[k]? = some 37 → k + 2 ≤ s.length
 | [], _, _, k, h => by simp at h
 | c :: r, f, hs, k, hk => by
   have tail : (Sx.fmtM false r).isSome = true ∧ (c = 37 → r.head? = some 115) := by
    unfold Sx.fmtM at hs
    split at hs
    ·rename_i q
     split at hs
     ·cases hs
     ·refine ⟨by cases h : Sx.fmtM false r with
       | none => rw [h] at hs; cases hs
       | some n => rfl, fun w => ?_⟩
      rw [q] at w; exact absurd w (by decide)
    ·split at hs
     ·split at hs
      ·rename_i q
       refine ⟨by cases h : Sx.fmtM false r with
        | none => rw [h] at hs; cases hs
        | some n => rfl, fun _ => q⟩
      ·cases hs
     ·rename_i q
      split at hs
      ·exact ⟨hs, fun w => absurd w q⟩
      ·cases hs
   cases k with
   | zero =>
     simp at hk
     have := tail.2 hk
     cases r with
     | nil => simp at this
     | cons a l => simp
   | succ k =>
     have := fmt_mark_in r false tail.1 k (by simpa using hk)
     simp; omega
theorem format_mark {s : Tx.Bs} (h : Sx.formatB s = true) : s.length ≤ 24 ∧ (∀ k, s[k]? = some 37 → k + 2 ≤ s.length) ∧ Sx.fmtH true s = true := by
 have h2 := h
 rw [Sx.format_cut] at h2
 unfold Sx.formatB at h
 simp at h h2
 refine ⟨h.1.2, fmt_mark_in s true ?_, h2.2⟩
 cases q : Sx.fmtM true s with
 | none => have := h.2; rw [q] at this; cases this
 | some n => rfl
end
section
open Go.RowKit Go.Shelf
attribute [local go_sem] Oper.semAt_some
attribute [local go_sem ↓] Go.wp_at_zero Go.wp_at_succ

def stT (sv at_ : Int) (l : List Sx.Tm) : Sx.Tm := l.foldl (fun a t => if t.at_ ≤ at_ then t else a) ⟨0, sv, []⟩
theorem stT_snoc (sv at_ : Int) (l : List Sx.Tm) (t : Sx.Tm) : stT sv at_ (l ++ [t]) = if t.at_ ≤ at_ then t else stT sv at_ l := by
 unfold stT; rw [List.foldl_append]; rfl
theorem saved_st {rs : List Sx.Rl} {x : Sx.Er} {at_ : Int} (h : x.rules ≠ [] → x.save = 0) : savedT rs x at_ = stT x.save at_ (timesZ rs x) := by
 unfold savedT timesZ
 by_cases q : x.rules = []
 ·rw [if_pos q, if_pos q]; rfl
 ·rw [if_neg q, if_neg q, h q]
  unfold lastT stT
  congr 1
  funext a t
  simp
/- what a zone's eras are, where the document tells what is shown -/
structure TaOk (rs : List Sx.Rl) (es : List Sx.Er) : Prop where
 few : es.length ≤ 1000
 opn : LastO es
 fm : ∀ e ∈ es, Sx.formatB e.format = true
 sh : ∀ e ∈ es, -64800 ≤ e.shift ∧ e.shift ≤ 64800
 sv : ∀ e ∈ es, 0 ≤ e.save ∧ e.save ≤ 10800 ∧ (e.rules ≠ [] → e.save = 0)
 tm : ∀ e ∈ es, ∀ t ∈ timesZ rs e, 0 ≤ t.save ∧ t.save ≤ 10800 ∧ t.letter.length ≤ 1000000
 tl : ∀ e ∈ es, (timesZ rs e).length ≤ 1000
theorem stT_mem (sv at_ : Int) (l : List Sx.Tm) : stT sv at_ l = ⟨0, sv, []⟩ ∨ stT sv at_ l ∈ l := by
 have aux : ∀ (l : List Sx.Tm) (a : Sx.Tm), l.foldl (fun a t => if t.at_ ≤ at_ then t else a) a = a ∨ l.foldl (fun a t => if t.at_ ≤ at_ then t else a) a ∈ l := by
  intro l
  induction l with
  | nil => exact fun a => .inl rfl
  | cons t r ih =>
    intro a
    rw [List.foldl_cons]
    by_cases q : t.at_ ≤ at_
    ·rw [if_pos q]
     rcases ih t with h | h
     ·rw [h]; exact .inr (List.mem_cons_self ..)
     ·exact .inr (List.mem_cons_of_mem _ h)
    ·rw [if_neg q]
     rcases ih a with h | h
     ·exact .inl h
     ·exact .inr (List.mem_cons_of_mem _ h)
 exact aux l _
theorem ta_saved {rs : List Sx.Rl} {es : List Sx.Er} {x : Sx.Er} {at_ : Int} {T : Sx.Tm} (ok : TaOk rs es) (hx : x ∈ es) (h : savedT rs x at_ = T) : 0 ≤ T.save ∧ T.save ≤ 10800 ∧ T.letter.length ≤ 1000000 := by
 rw [saved_st (fun q => (ok.sv x hx).2.2 q)] at h
 rcases stT_mem x.save at_ (timesZ rs x) with q | q
 ·rw [← h, q]
  obtain ⟨a, b, _⟩ := ok.sv x hx
  exact ⟨a, b, by simp⟩
 ·rw [h] at q
  exact ok.tm x hx T q
theorem keep11 {w : World} {bE N k : Nat} {u x y : Value} (h : w.cell? ⟨bE, 0, none⟩ = some x ∧ w.cell? ⟨bE, 3, none⟩ = some y) (hn : ¬ bE = N + 1) : (w.setCell ⟨N + 1, k, none⟩ u).cell? ⟨bE, 0, none⟩ = some x ∧ (w.setCell ⟨N + 1, k, none⟩ u).cell? ⟨bE, 3, none⟩ = some y :=
 ⟨(World.cell?_of_block (Below.heap_setCell _ _ _ _ hn)).trans h.1, (World.cell?_of_block (Below.heap_setCell _ _ _ _ hn)).trans h.2⟩
theorem toldAt_any (rs : List Sx.Rl) (nm : Tx.Bs) (es : List Sx.Er) (a va ta : Option Addr) (c vc tc : Nat) (ps : List TV) (at_ : Int) (w : World) (h : ToldIn rs es va vc ta tc ps w) (he : RdEras w (.slice a es.length c) es) (ok : TaOk rs es) :
  Calls Tryz.prog 26 #[.agg #[strV nm, .slice a es.length c, .slice va (endsE es).length vc, .slice ta ps.length tc], .int .i64 at_] w fun e w' => e = .returned (lcV (localE rs ⟨nm, es⟩ at_)) ∧ Below w.heap.size w w' := by
 obtain ⟨N, hN⟩ : ∃ N, w.heap.size = N := ⟨_, rfl⟩
 obtain ⟨L, hL⟩ : ∃ L, endsE es = L := ⟨_, rfl⟩
 obtain ⟨V0, g0, X0, hb0, sz0⟩ := named_new w #[strV nm, .slice a es.length c, .slice va (endsE es).length vc, .slice ta ps.length tc] 58
 obtain ⟨V, g1, Y0, hb1, sz1⟩ := named_new V0 #[.int .i64 0, .int .i64 0, .string ⟨#[]⟩] 31
 have e0 : V0.heap.size = N + 1 := by omega
 rw [hN, hL] at X0
 rw [e0] at Y0
 have X : Hid (CellsAt V N [strV nm, .slice a es.length c, .slice va L.length vc, .slice ta ps.length tc]) := ca_below X0 hb1
 have R : Hid (CellsAt V (N + 1) [.int .i64 0, .int .i64 0, .string ⟨#[]⟩]) := Y0
 have bb := hb0.trans (hb1.mono (by omega))
 have B : Hid (Below N w V) := hN ▸ bb
 have gV : (w.alloc (.cells #[strV nm, .slice a es.length c, .slice va (endsE es).length vc, .slice ta ps.length tc] 58)).alloc (.cells #[.int .i64 0, .int .i64 0, .string ⟨#[]⟩] 31) = V := by rw [g0]; exact g1
 have zV : N + 1 + 1 ≤ V.heap.size := by omega
 have H := hid (toldIn_below h bb)
 have HE := hid (rd_below he bb)
 have OK := hid ok
 have HL := hid hL
 have hfew := ok.few
 have hLn : L.length + 1 = es.length := by rw [← hL]; exact ends_len ok.opn
 have hpn : ps.length = es.length := by have := congrArg List.length h.map; simpa using this
 have HPN := hid hpn
 have RE : Hid (RdInts V (.slice va L.length vc) L) := by show RdInts _ _ _; rw [← hL]; exact (toldIn_below h bb).ends
 rw [hL] at gV ⊢
 clear h he ok X0 Y0 hb0 hb1 sz0 sz1 g0 g1 e0 bb hL hpn
 obtain ⟨x0, _⟩ := ca_at X.out 0 rfl
 obtain ⟨x1, _⟩ := ca_at X.out 1 rfl
 obtain ⟨x2, _⟩ := ca_at X.out 2 rfl
 obtain ⟨x3, _⟩ := ca_at X.out 3 rfl
 have sx := X.out.1
 go_enter Tryz.func26, Tryz.ntmps26
 simp only [hN]
 go_upto_block 0 with fail
 clear gV
 go_cut [5] from 10 to 25 (fun kv wc => wc = V ∧ ∃ k : Nat, kv = .int .i64 k ∧ k ≤ L.length ∧ Hid (∀ (j : Nat) (n : Int), j < k → L[j]? = some n → n ≤ at_) ∧ Hid (k = L.length ∨ ∃ n, L[k]? = some n ∧ at_ < n))
 case first =>
  go_wp2_with fail
  go_loop [5] (fun kv => ∃ k : Nat, k ≤ L.length ∧ kv = .int .i64 k ∧ Hid (∀ (j : Nat) (n : Int), j < k → L[j]? = some n → n ≤ at_)) (fun kv => L.length - (intOf kv).toNat)
  case atStart => exact ⟨0, Nat.zero_le _, rfl, fun j n h => absurd h (Nat.not_lt_zero _)⟩
  case round =>
   obtain ⟨k, hk, rfl, HJ⟩ := hrel
   by_cases hlt2 : k < L.length
   case neg =>
    have q : ¬ (k : Int) < (L.length : Int) := by omega
    clear hlt2
    go_wp2
    go_meet
    exact ⟨rfl, k, rfl, hk, HJ, .inl (by omega)⟩
   obtain ⟨n, hn⟩ : ∃ n, L[k]? = some n := ⟨_, List.getElem?_eq_getElem hlt2⟩
   obtain ⟨lb, lo, e1, hlb, hc⟩ := rd_elem RE.out hn
   rw [e1] at x2
   have c0 : V.cell? ⟨lb, lo + k, none⟩ = some (.int .i64 n) := by have := hc 0 _ rfl; simpa using this
   have HN := hid hn
   have q : (k : Int) < (L.length : Int) := by omega
   clear hc hn
   by_cases hle2 : n ≤ at_
   case neg =>
    clear e1
    go_wp2
    go_meet
    exact ⟨rfl, k, rfl, hk, HJ, .inr ⟨n, HN.out, by omega⟩⟩
   clear e1
   go_wp2
   go_round
   case rel =>
    refine ⟨k + 1, by omega, by go_num, fun j x hj hx => ?_⟩
    rcases Nat.lt_or_ge j k with a | a
    ·exact HJ.out j x a hx
    ·have e : j = k := by omega
     rw [e, HN.out] at hx
     simp at hx
     omega
   case measure => simp [intOf]; omega
 case rest =>
 obtain ⟨hwc, k, rfl, hk, HJ, HD⟩ := hcut
 rw [hwc]
 clear hwc
 obtain ⟨x, hx⟩ : ∃ x, es[k]? = some x := ⟨_, List.getElem?_eq_getElem (by omega)⟩
 have EX : Hid (eraAt ⟨nm, es⟩ at_ = x) := by
  show _ = _
  unfold eraAt
  rw [era_at OK.out.opn hx (by rw [HL.out]; exact HJ.out) (by rw [HL.out]; exact HD.out)]
  rfl
 obtain ⟨p, hp⟩ : ∃ p, ps[k]? = some p := ⟨_, List.getElem?_eq_getElem (by have := HPN.out; omega)⟩
 have HP := hid hp
 have hpl : Hid (p.l = timesZ rs x) := by
  show _ = _
  have h1 : (ps.map TV.l)[k]? = some p.l := by rw [List.getElem?_map, hp]; rfl
  rw [H.out.map, List.getElem?_map, hx] at h1
  simp at h1
  exact h1.symm
 have hxm := List.mem_of_getElem? hx
 have hl9 : p.l.length ≤ 1000 := by rw [hpl.out]; exact OK.out.tl x hxm
 have HXM := hid hxm
 obtain ⟨eb, eo, e1, heb, hc⟩ := rd_elem HE.out hx
 subst e1
 obtain ⟨c0, c1, c2, c3, c4, c5, c6, c7, c8, c9⟩ := rd_era hc
 have q : (k : Int) < (es.length : Int) := by omega
 obtain ⟨w1, g2, L0, hb2, sz2⟩ := named_new V #[.int .i64 x.shift, strV x.rules, .int .i64 x.save, strV x.format, .bool x.opn, .int .i64 x.uy, .int .i64 x.um, .int .i64 x.ud, .int .i64 x.uat, .int .i64 x.uclock] 67
 obtain ⟨bE, hbE⟩ : ∃ b, V.heap.size = b := ⟨_, rfl⟩
 have LE : Hid (CellsAt w1 bE [.int .i64 x.shift, strV x.rules, .int .i64 x.save, strV x.format, .bool x.opn, .int .i64 x.uy, .int .i64 x.um, .int .i64 x.ud, .int .i64 x.uat, .int .i64 x.uclock]) := hbE ▸ L0
 have X2 := hid (ca_below X.out hb2)
 have R2 := hid (ca_below R.out hb2)
 have B2 := hid (below_on B.out (by omega) hb2)
 have H2 := hid (toldIn_below H.out hb2)
 have hE1 : ¬ bE = N + 1 := by omega
 have hE2 : N + 1 + 1 ≤ w1.heap.size := by omega
 clear hc hx hp hxm L0 hb2 sz2 HJ HD X R B H HE RE hLn x0 x2 x3
 have HE1 := hid hE1
 obtain ⟨l0, _⟩ := ca_at LE.out 0 rfl
 obtain ⟨l2, _⟩ := ca_at LE.out 2 rfl
 have sl := LE.out.1
 go_wp2_with fail
 clear g2 c0 c1 c2 c3 c4 c5 c6 c7 c8 c9 heb x1 sx hbE l0 l2 sl
 obtain ⟨tb, to_, e1, htb, hc⟩ := rd_elem H2.out.row HP.out
 subst e1
 go_loopw [7, 8, 9] (fun sv lt iv wr => ∃ (i : Nat) (T : Sx.Tm), i ≤ p.l.length ∧ iv = .int .i64 i ∧ sv = .int .i64 T.save ∧ lt = strV T.letter ∧ Hid (stT x.save at_ (p.l.take i) = T) ∧ Hid (Below w1.heap.size w1 wr)) (fun _ _ iv _ => p.l.length - (intOf iv).toNat)
 case atStart => exact ⟨0, ⟨0, x.save, []⟩, Nat.zero_le _, rfl, rfl, rfl, rfl, Below.refl _ _⟩
 case round =>
  obtain ⟨i, T, hi, rfl, rfl, rfl, HT, BR⟩ := hrel
  have X := hid (ca_below X2.out BR.out)
  have R := hid (ca_below R2.out BR.out)
  have B := hid (below_on B2.out (by omega) BR.out)
  have E := hid (ca_below LE.out BR.out)
  obtain ⟨x3, _⟩ := ca_at X.out 3 rfl
  have sx := X.out.1
  have y0 : wr.cell? ⟨tb, to_ + k, none⟩ = some (.slice p.a p.l.length p.c) := by have := (BR.out.cell (p := ⟨tb, to_ + k * 1, none⟩) htb).trans (hc 0 _ rfl); simpa using this
  have htb2 := Nat.lt_of_lt_of_le htb BR.out.size
  have hpk : (k : Int) < (ps.length : Int) := by have := HPN.out; omega
  by_cases hlt : i < p.l.length
  case neg =>
   have e : p.l.take i = p.l := List.take_of_length_le (by omega)
   have HS : Hid (savedT rs x at_ = T) := by show _ = _; rw [saved_st (fun h => (OK.out.sv x HXM.out).2.2 h), ← hpl.out, ← HT.out, e]
   have q : ¬ (i : Int) < (p.l.length : Int) := by omega
   obtain ⟨s0, s1, s2⟩ := ta_saved OK.out HXM.out HS.out
   obtain ⟨f0, f1, f2⟩ := format_mark (OK.out.fm x HXM.out)
   have hsh := OK.out.sh x HXM.out
   obtain ⟨NM, hNM⟩ : ∃ M, nameE x.format T.save T.letter = M := ⟨_, rfl⟩
   have HNM := hid hNM
   have CN : Hid (∀ W, Calls Tryz.prog 64 #[strV x.format, strV T.letter, .int .i64 T.save] W fun e w' => e = .returned (strV NM) ∧ Below W.heap.size W w') := fun W => by
    have := rNameOf_any ⟨x.format.toArray⟩ ⟨T.letter.toArray⟩ T.save W (by show x.format.length ≤ _; omega) (by show T.letter.length ≤ _; omega) (fun k hk => f1 k (by simpa using hk))
    simp only [List.toList_toArray] at this
    rw [nameR_is f2 s0, hNM] at this
    exact this
   have v1 : wrap64 (x.shift + T.save) = x.shift + T.save := by unfold wrap64; omega
   have v2 : IntKind.i64.wrap (x.shift + T.save) = x.shift + T.save := IntWalk.i64_in _ (by omega)
   obtain ⟨e0, _⟩ := ca_at E.out 0 rfl
   obtain ⟨e3, _⟩ := ca_at E.out 3 rfl
   have se := E.out.1
   have SS := hid (show wr.cell? ⟨bE, 0, none⟩ = some (.int .i64 x.shift) ∧ wr.cell? ⟨bE, 3, none⟩ = some (strV x.format) from ⟨e0, e3⟩)
   have KS : Hid (∀ wz, Below wr.heap.size wr wz → (wz.cell? ⟨bE, 0, none⟩ = some (.int .i64 x.shift) ∧ wz.cell? ⟨bE, 3, none⟩ = some (strV x.format))) := fun wz hb => ⟨(hb.cell (p := ⟨bE, 0, none⟩) se).trans e0, (hb.cell (p := ⟨bE, 3, none⟩) se).trans e3⟩
   have hBs := hid (B.out.size)
   clear hlt e hNM f1 f2 s1 s2 f0 e0 e3 se hc hE1
   go_upto_region 11 with fail
   have hE1 := HE1.out
   refine wp_region_held_drew (S := fun w' => w'.cell? ⟨bE, 0, none⟩ = some (.int .i64 x.shift) ∧ w'.cell? ⟨bE, 3, none⟩ = some (strV x.format)) (by kernel_rfl) SS.out (fun hHeld => ?_)
   refine tkA 0 rfl ?_
   try simp only [Act.put, j]
   refine tkA 1 rfl ?_
   try simp only [Act.put, j]
   refine tkA 2 rfl ?_
   try simp only [Act.put, j]
   refine tkA 3 rfl ?_
   try simp only [Act.put, j]
   refine tkA 4 rfl ?_
   try simp only [Act.put, j]
   refine tkA 5 rfl ?_
   try simp only [Act.put, j]
   refine tkA 6 rfl ?_
   try simp only [Act.put, j]
   refine tkA 7 rfl ?_
   try simp only [Act.put, j]
   refine tkA 8 rfl ?_
   try simp only [Act.put, j]
   refine rdH 9 rfl fun K hK => ?_
   go_simp
   refine (CN.out wr.drew).mono ?_
   rintro e w10 ⟨rfl, hb10⟩
   have hb := below_drew1 hb10
   have S7 := KS.out w10 hb
   have T7 : CellsAt w10 (N + 1) [.int .i64 0, .int .i64 0, .string ⟨#[]⟩] := ca_below R.out hb
   obtain ⟨q0, k0⟩ := ca_at T7 0 rfl
   obtain ⟨q1, k1⟩ := ca_at T7 1 rfl
   obtain ⟨q2, k2⟩ := ca_at T7 2 rfl
   have sT := T7.1
   have B9 : Below N w _ := below_put (below_put (below_put (below_on B.out (by have := B.out.size; omega) hb) (Nat.le_succ N) 0 (.int .i64 (x.shift + T.save))) (Nat.le_succ N) 1 (.int .i64 T.save)) (Nat.le_succ N) 2 (strV NM)
   have S9 := keep11 (keep11 (keep11 S7 hE1 (k := 0) (u := .int .i64 (x.shift + T.save))) hE1 (k := 1) (u := .int .i64 T.save)) hE1 (k := 2) (u := strV NM)
   refine hK.out _ _ ?_ (fun hHeld => ?_)
   ·exact S7
   clear hK K
   try simp only [Act.put, j]
   refine tkA 10 rfl ?_
   try simp only [Act.put, j]
   refine rdH 11 rfl fun K hK => ?_
   go_simp
   refine hK.out _ _ ?_ (fun hHeld => ?_)
   ·exact S9
   clear hK K
   try simp only [Act.put, j]
   refine wpAnyH_done (by kernel_rfl) ?_ _
   clear S7 S9 hHeld hb hb10 SS KS CN
   go_wp2
   refine bodyPost_ret (v := lcV ⟨x.shift + T.save, T.save, NM⟩) (by simp [results, Tryz.results26, go_sem, *]) rfl ⟨?_, B9⟩
   unfold localE
   rw [EX.out, HS.out, HNM.out]
  obtain ⟨t, ht⟩ : ∃ t, p.l[i]? = some t := ⟨_, List.getElem?_eq_getElem hlt⟩
  obtain ⟨qb, qo, e2, hqb, hcm⟩ := rd_elem (rd_below (H2.out.els p (List.mem_of_getElem? HP.out)) BR.out) ht
  rw [e2] at y0
  have m0 : wr.cell? ⟨qb, qo + i * 3, none⟩ = some (.int .i64 t.at_) := by have := hcm 0 _ rfl; simpa using this
  have m1 : wr.cell? ⟨qb, qo + i * 3 + 1, none⟩ = some (.int .i64 t.save) := hcm 1 _ rfl
  have m2 : wr.cell? ⟨qb, qo + i * 3 + 2, none⟩ = some (strV t.letter) := hcm 2 _ rfl
  have q : (i : Int) < (p.l.length : Int) := by omega
  have hst : p.l.take (i + 1) = p.l.take i ++ [t] := by rw [List.take_add_one, ht]; rfl
  have HT2 : Hid (stT x.save at_ (p.l.take (i + 1)) = if t.at_ ≤ at_ then t else T) := by show _ = _; rw [hst, stT_snoc, HT.out]
  clear hcm ht hst e2 HT
  by_cases hle : t.at_ ≤ at_
  case neg =>
   have HT3 : Hid (stT x.save at_ (p.l.take (i + 1)) = T) := by show _ = _; rw [HT2.out, if_neg hle]
   go_wp2
   go_roundw
   case rel => exact ⟨i + 1, T, by omega, by go_num, rfl, rfl, HT3, BR⟩
   case measure => simp [intOf]; omega
  have HT3 : Hid (stT x.save at_ (p.l.take (i + 1)) = t) := by show _ = _; rw [HT2.out, if_pos hle]
  have SS := hid (show wr.cell? ⟨N, 3, none⟩ = some (.slice (some ⟨tb, to_, none⟩) ps.length tc) ∧ wr.cell? ⟨tb, to_ + k, none⟩ = some (.slice (some ⟨qb, qo, none⟩) p.l.length p.c) ∧ wr.cell? ⟨qb, qo + i * 3 + 1, none⟩ = some (.int .i64 t.save) ∧ wr.cell? ⟨qb, qo + i * 3 + 2, none⟩ = some (strV t.letter) from ⟨x3, y0, m1, m2⟩)
  go_upto_region 10 with fail
  refine wp_region_held_drew (S := fun w' => w'.cell? ⟨N, 3, none⟩ = some (.slice (some ⟨tb, to_, none⟩) ps.length tc) ∧ w'.cell? ⟨tb, to_ + k, none⟩ = some (.slice (some ⟨qb, qo, none⟩) p.l.length p.c) ∧ w'.cell? ⟨qb, qo + i * 3 + 1, none⟩ = some (.int .i64 t.save) ∧ w'.cell? ⟨qb, qo + i * 3 + 2, none⟩ = some (strV t.letter)) (by kernel_rfl) SS.out (fun hHeld => ?_)
  refine tkA 0 rfl ?_
  try simp only [Act.put, j]
  refine tkA 1 rfl ?_
  try simp only [Act.put, j]
  refine tkA 2 rfl ?_
  try simp only [Act.put, j]
  refine tkA 3 rfl ?_
  try simp only [Act.put, j]
  refine tkA 4 rfl ?_
  try simp only [Act.put, j]
  refine tkA 5 rfl ?_
  try simp only [Act.put, j]
  refine tkA 6 rfl ?_
  try simp only [Act.put, j]
  refine tkA 7 rfl ?_
  try simp only [Act.put, j]
  refine tkA 8 rfl ?_
  try simp only [Act.put, j]
  refine tkA 9 rfl ?_
  try simp only [Act.put, j]
  refine tkA 10 rfl ?_
  try simp only [Act.put, j]
  refine tkA 11 rfl ?_
  try simp only [Act.put, j]
  refine tkA 12 rfl ?_
  try simp only [Act.put, j]
  refine tkA 13 rfl ?_
  try simp only [Act.put, j]
  refine tkA 14 rfl ?_
  try simp only [Act.put, j]
  refine tkA 15 rfl ?_
  try simp only [Act.put, j]
  refine tkA 16 rfl ?_
  try simp only [Act.put, j]
  refine tkA 17 rfl ?_
  try simp only [Act.put, j]
  refine tkA 18 rfl ?_
  try simp only [Act.put, j]
  refine tkA 19 rfl ?_
  try simp only [Act.put, j]
  refine wpAnyH_done (by kernel_rfl) ?_ _
  have BR2 : Hid (Below w1.heap.size w1 wr.drew) := BR.out.trans ((show Below wr.heap.size wr wr.drew from ⟨rfl, rfl, rfl, Nat.le_refl _, fun _ _ => rfl⟩).mono BR.out.size)
  clear SS x3 sx y0 m0 m1 m2 hqb
  go_wp2
  go_roundw
  case rel => exact ⟨i + 1, t, by omega, by go_num, rfl, rfl, HT3, BR2⟩
  case measure => simp [intOf]; omega
end
section
open Go.RowKit Go.Shelf
attribute [local go_sem] Oper.semAt_some
attribute [local go_sem ↓] Go.wp_at_zero Go.wp_at_succ

theorem era_save {x : Sx.Er} {b : Bool} (h : Sx.eraE x b = 0) (hr : x.rules ≠ []) : x.save = 0 := by
 unfold Sx.eraE at h
 split at h
 ·cases h
 split at h
 ·cases h
 split at h
 ·cases h
 split at h
 ·cases h
 ·rename_i g
  simpa [hr] using g
theorem taOk_of {s : Sx.Sr} {xs : List ZV} {v : Value} {w : World} {nm : Tx.Bs} (hz : RdZv w v s.zones xs) (h : zoneF s xs nm = 0) : TaOk s.rules (zoneZ s xs nm).eras := by
 obtain ⟨ok, zin, h8, h4⟩ := zoneZ_ok hz h
 have hzE := ok.zone _ zin
 refine ⟨by omega, lastO_zone hzE, fun e he => (h4 e he).fmt, fun e he => ⟨(h4 e he).sh0, (h4 e he).sh1⟩, fun e he => ⟨(h4 e he).sv0, (h4 e he).sv1, fun hr => ?_⟩, fun e he t ht => ?_, fun e he => ?_⟩
 ·unfold Sx.zoneE at hzE
  split at hzE
  ·cases hzE
  ·obtain ⟨b, hb⟩ := Sx.eras_mem hzE e he
   exact era_save hb hr
 ·unfold timesZ at ht
  split at ht
  ·cases ht
  ·obtain ⟨r, hr, e1, e2⟩ := Sx.times_memZ ht
   have hr0 := ok.rule r hr
   have ro := Sx.rule_ok hr0
   rw [e1, e2]
   refine ⟨ro.save.1, ro.save.2, ?_⟩
   unfold Sx.ruleE at hr0
   split at hr0
   ·cases hr0
   ·rename_i g
    simp [Sx.lettersB] at g
    omega
 ·unfold timesZ
  split
  ·simp
  ·exact Sx.times_fewZ _ _ _
theorem zoneAts_is (s : Sx.Sr) (xs : List ZV) (ra za la : Option Addr) (rcap zcap lcap : Nat) (m at_ : Int) (nm : Tx.Bs) (w : World) (h : SrcIn s xs ra za la rcap zcap lcap m w) :
  Calls Tryz.prog 6 #[.agg #[.slice ra s.rules.length rcap, .slice za xs.length zcap, .slice la s.links.length lcap], strV nm, .int .i64 at_] w fun e w' => e = .returned (.bool true) ∧ Below w.heap.size w w' := by
 obtain ⟨N, hN⟩ : ∃ N, w.heap.size = N := ⟨_, rfl⟩
 obtain ⟨V, gV, X0, hb, sz⟩ := named_new w #[.slice ra s.rules.length rcap, .slice za xs.length zcap, .slice la s.links.length lcap] 26
 rw [hN] at X0
 have X : Hid (CellsAt V N [.slice ra s.rules.length rcap, .slice za xs.length zcap, .slice la s.links.length lcap]) := X0
 have B : Hid (Below N w V) := hN ▸ hb
 have G := hid (srcIn_below h hb)
 clear h X0 sz hb
 go_enter Tryz.func6, Tryz.ntmps6
 simp only [hN]
 obtain ⟨s0, _⟩ := ca_at X.out 0 rfl
 obtain ⟨s1, _⟩ := ca_at X.out 1 rfl
 obtain ⟨s2, _⟩ := ca_at X.out 2 rfl
 have ss := X.out.1
 obtain ⟨F, hF⟩ : ∃ F, zoneF s xs nm = F := ⟨_, rfl⟩
 obtain ⟨z, hz⟩ : ∃ z, zoneZ s xs nm = z := ⟨_, rfl⟩
 have HF := hid hF
 have HZ := hid hz
 have CA0 := zAt_any s xs ra za la rcap zcap lcap m at_ nm V G.out
 rw [hF, hz] at CA0
 obtain ⟨A, hA⟩ : ∃ A, atL F at_ s.rules z = A := ⟨_, rfl⟩
 obtain ⟨Q, hQ⟩ : ∃ Q, atE F at_ = Q := ⟨_, rfl⟩
 rw [hA, hQ] at CA0
 have HC := hid CA0
 have HA := hid hA
 have HQ := hid hQ
 clear CA0 hA hQ
 go_wp2_with fail
 refine HC.out.mono ?_
 rintro e w1 ⟨rfl, hb⟩
 clear HC gV s0 s1 s2 ss
 have hle := Nat.le_of_lt X.out.1
 replace B := hid (below_on B.out hle hb)
 replace X := hid (ca_below X.out hb)
 replace G := hid (srcIn_below G.out hb)
 clear hle
 clear hb
 obtain ⟨w2, g_w2, L0, hb2, sz⟩ := named_new w1 #[.int .i64 A.shift, .int .i64 A.save, .string ⟨A.name.toArray⟩] 31
 obtain ⟨bL, h_bL⟩ : ∃ b, w1.heap.size = b := ⟨_, rfl⟩
 have LA : Hid (CellsAt w2 bL [.int .i64 A.shift, .int .i64 A.save, .string ⟨A.name.toArray⟩]) := h_bL ▸ L0
 have hle := Nat.le_of_lt X.out.1
 replace B := hid (below_on B.out hle hb2)
 replace X := hid (ca_below X.out hb2)
 replace G := hid (srcIn_below G.out hb2)
 clear hle
 clear hb2 sz L0
 obtain ⟨s0, _⟩ := ca_at X.out 0 rfl
 obtain ⟨s1, _⟩ := ca_at X.out 1 rfl
 obtain ⟨s2, _⟩ := ca_at X.out 2 rfl
 have ss := X.out.1
 obtain ⟨E, hE⟩ : ∃ E, zoneErr s xs = E := ⟨_, rfl⟩
 have CK0 := checkZones_any s xs ra za la rcap zcap lcap m w2 G.out
 rw [hE] at CK0
 have HC := hid CK0
 have HE := hid hE
 clear CK0 hF hz hE
 go_wp2_with fail
 refine HC.out.mono ?_
 rintro e w4 ⟨rfl, hb⟩
 clear HC g_w2 h_bL s0 s1 s2 ss
 have hle := Nat.le_of_lt X.out.1
 replace B := hid (below_on B.out hle hb)
 replace X := hid (ca_below X.out hb)
 replace G := hid (srcIn_below G.out hb)
 replace LA := hid (ca_below LA.out hb)
 clear hle
 clear hb
 by_cases e0 : E = 0
 case neg =>
  have hF0 : F = E := by rw [← HF.out]; unfold zoneF findE; rw [HE.out, if_pos e0]
  have hQ0 : E = Q := by rw [← HQ.out]; unfold atE; rw [hF0, if_pos e0]
  have hA0 : A = ⟨0, 0, []⟩ := by rw [← HA.out]; unfold atL; rw [HQ.out, ← hQ0, if_neg e0]; rfl
  have p1 : (E == 0) = false := by simp [e0]
  subst hQ0
  subst hA0
  have LA0 : Hid (CellsAt w4 bL [.int .i64 0, .int .i64 0, .string ⟨#[]⟩]) := LA.out
  clear LA HF HZ HA HQ
  have LA := LA0
  clear LA0
  obtain ⟨w5, g_w5, L0, hb2, sz⟩ := named_new w4 #[.int .i64 0, .int .i64 0, .string ⟨#[]⟩] 31
  obtain ⟨bW, h_bW⟩ : ∃ b, w4.heap.size = b := ⟨_, rfl⟩
  have ZW : Hid (CellsAt w5 bW [.int .i64 0, .int .i64 0, .string ⟨#[]⟩]) := h_bW ▸ L0
  have hle := Nat.le_of_lt X.out.1
  replace B := hid (below_on B.out hle hb2)
  replace X := hid (ca_below X.out hb2)
  replace G := hid (srcIn_below G.out hb2)
  replace LA := hid (ca_below LA.out hb2)
  clear hle
  clear hb2 sz L0
  go_wp2_with fail
  refine (zoneBegun_is m w5 G.out.max G.out.pos).mono ?_
  rintro e n1 ⟨rfl, hb⟩
  have hle := Nat.le_of_lt X.out.1
  replace B := hid (below_on B.out hle hb)
  replace X := hid (ca_below X.out hb)
  replace G := hid (srcIn_below G.out hb)
  replace LA := hid (ca_below LA.out hb)
  replace ZW := hid (ca_below ZW.out hb)
  clear hle
  clear hb
  obtain ⟨l0, _⟩ := ca_at LA.out 0 rfl
  obtain ⟨l1, _⟩ := ca_at LA.out 1 rfl
  obtain ⟨l2, _⟩ := ca_at LA.out 2 rfl
  have sl := LA.out.1
  obtain ⟨u0, _⟩ := ca_at ZW.out 0 rfl
  obtain ⟨u1, _⟩ := ca_at ZW.out 1 rfl
  obtain ⟨u2, _⟩ := ca_at ZW.out 2 rfl
  have su := ZW.out.1
  go_wp2
  go_ret
  exact ⟨rfl, B.out⟩
 subst e0
 obtain ⟨f2, f3, f4⟩ : xs.length ≤ 20 ∧ s.links.length ≤ 20 ∧ Sx.SrcOk s := by
  have ok := Sx.src_okZ (errs_zero HE.out 0 (by omega))
  obtain ⟨f1, f2, f3, f4⟩ := many_few ok.many
  have hl := rdZv_len G.out.zv
  exact ⟨by omega, by omega, ok⟩
 have OKS := hid f4
 obtain ⟨n', hn'⟩ : ∃ n', nameTo s.links nm = n' := ⟨_, rfl⟩
 have HN' := hid hn'
 have CL0 := lookOf_any nm s.zones s.links xs ra za la s.rules.length rcap zcap lcap w4 G.out.zv G.out.links (by omega) (by omega)
 rw [hn'] at CL0
 obtain ⟨H, hH⟩ : ∃ H, zvHas xs n' = H := ⟨_, rfl⟩
 have HH := hid hH
 clear hn' hH f4
 obtain ⟨s0, _⟩ := ca_at X.out 0 rfl
 obtain ⟨s1, _⟩ := ca_at X.out 1 rfl
 obtain ⟨s2, _⟩ := ca_at X.out 2 rfl
 have ss := X.out.1
 cases H
 case false =>
  have hF0 : F = 5 := by rw [← HF.out]; unfold zoneF findE; rw [HE.out, HN'.out, HH.out]; rfl
  have hQ0 : 5 = Q := by rw [← HQ.out]; unfold atE; rw [hF0]; rfl
  have hA0 : A = ⟨0, 0, []⟩ := by rw [← HA.out]; unfold atL; rw [HQ.out, ← hQ0]; rfl
  subst hQ0
  subst hA0
  rw [zPlace_none xs 0 HH.out] at CL0
  have HC := hid CL0
  clear CL0
  go_wp2_with fail
  refine HC.out.mono ?_
  rintro e w5 ⟨rfl, hb⟩
  clear HC s0 s1 s2 ss
  have hle := Nat.le_of_lt X.out.1
  replace B := hid (below_on B.out hle hb)
  replace X := hid (ca_below X.out hb)
  replace G := hid (srcIn_below G.out hb)
  replace LA := hid (ca_below LA.out hb)
  clear hle
  clear hb
  have LA0 : Hid (CellsAt w5 bL [.int .i64 0, .int .i64 0, .string ⟨#[]⟩]) := LA.out
  clear LA HF HZ HA HQ
  have LA := LA0
  clear LA0
  obtain ⟨w6, g_w6, L0, hb2, sz⟩ := named_new w5 #[.int .i64 0, .int .i64 0, .string ⟨#[]⟩] 31
  obtain ⟨bW, h_bW⟩ : ∃ b, w5.heap.size = b := ⟨_, rfl⟩
  have ZW : Hid (CellsAt w6 bW [.int .i64 0, .int .i64 0, .string ⟨#[]⟩]) := h_bW ▸ L0
  have hle := Nat.le_of_lt X.out.1
  replace B := hid (below_on B.out hle hb2)
  replace X := hid (ca_below X.out hb2)
  replace G := hid (srcIn_below G.out hb2)
  replace LA := hid (ca_below LA.out hb2)
  clear hle
  clear hb2 sz L0
  go_wp2_with fail
  refine (zoneBegun_is m w6 G.out.max G.out.pos).mono ?_
  rintro e n1 ⟨rfl, hb⟩
  have hle := Nat.le_of_lt X.out.1
  replace B := hid (below_on B.out hle hb)
  replace X := hid (ca_below X.out hb)
  replace G := hid (srcIn_below G.out hb)
  replace LA := hid (ca_below LA.out hb)
  replace ZW := hid (ca_below ZW.out hb)
  clear hle
  clear hb
  obtain ⟨l0, _⟩ := ca_at LA.out 0 rfl
  obtain ⟨l1, _⟩ := ca_at LA.out 1 rfl
  obtain ⟨l2, _⟩ := ca_at LA.out 2 rfl
  have sl := LA.out.1
  obtain ⟨u0, _⟩ := ca_at ZW.out 0 rfl
  obtain ⟨u1, _⟩ := ca_at ZW.out 1 rfl
  obtain ⟨u2, _⟩ := ca_at ZW.out 2 rfl
  have su := ZW.out.1
  go_wp2
  go_ret
  exact ⟨rfl, B.out⟩
 have hF0 : 0 = F := by rw [← HF.out]; unfold zoneF findE; rw [HE.out, HN'.out, HH.out]; rfl
 subst hF0
 obtain ⟨j, hj1, hj2⟩ := zPlace_has xs 0 HH.out
 rw [hj1, Nat.zero_add] at CL0
 obtain ⟨p, hp⟩ : ∃ p, zvAt xs n' = p := ⟨_, rfl⟩
 have hZ0 : z = p.z := by rw [← hp, ← HZ.out, ← HN'.out]; exact zoneZ_is HF.out
 subst hZ0
 rw [hp] at hj2
 have TA0 := taOk_of G.out.zv HF.out
 rw [HZ.out] at TA0
 have TA := hid TA0
 have TE0 : ∀ x ∈ p.z.eras, x.rules ≠ [] → Sx.timesE s.rules x.rules x.shift = 0 := fun x hx hr => by
  obtain ⟨u1, u2⟩ := zoneF_src HF.out
  refine times_there u1 ?_ hr
  exact era_of u2 (by rw [← zoneZ_is HF.out, HZ.out]; exact hx)
 obtain ⟨_, zin, _, h4⟩ := zoneZ_ok G.out.zv HF.out
 rw [HZ.out] at zin h4
 have TILL := hid (show ∀ e ∈ p.z.eras, e.opn = true ∨ EndOk e from fun e he => (h4 e he).till)
 have TE := hid TE0
 have hpin : p ∈ xs := List.mem_of_getElem? hj2
 have hjl : j < xs.length := (List.getElem?_eq_some_iff.1 hj2).1
 have HJ2 := hid hj2
 have HPIN := hid hpin
 have HC := hid CL0
 have hj3 : (j : Int) < (xs.length : Int) := by omega
 clear CL0 hp zin h4 hj2 hj1 hpin HF HZ TA0 TE0
 go_wp2_with fail
 refine HC.out.mono ?_
 rintro e w5 ⟨rfl, hb⟩
 clear HC s0 s1 s2 ss
 have hle := Nat.le_of_lt X.out.1
 replace B := hid (below_on B.out hle hb)
 replace X := hid (ca_below X.out hb)
 replace G := hid (srcIn_below G.out hb)
 replace LA := hid (ca_below LA.out hb)
 clear hle
 clear hb
 go_wp2_with fail
 by_cases y1 : at_ < -62135596800
 case pos =>
  refine (least_any w5).mono ?_
  rintro e w6 ⟨rfl, hb⟩
  have hle := Nat.le_of_lt X.out.1
  replace B := hid (below_on B.out hle hb)
  replace X := hid (ca_below X.out hb)
  replace G := hid (srcIn_below G.out hb)
  replace LA := hid (ca_below LA.out hb)
  clear hle
  clear hb
  have hQ0 : 3 = Q := by rw [← HQ.out]; unfold atE Tb.inYears Sx.inB; simp [Tb.least, Tb.most]; omega
  have hA0 : A = ⟨0, 0, []⟩ := by rw [← HA.out]; unfold atL; rw [HQ.out, ← hQ0]; rfl
  subst hQ0
  subst hA0
  have LA0 : Hid (CellsAt w6 bL [.int .i64 0, .int .i64 0, .string ⟨#[]⟩]) := LA.out
  clear LA HA HQ
  have LA := LA0
  clear LA0
  obtain ⟨w7, g_w7, L0, hb2, sz⟩ := named_new w6 #[.int .i64 0, .int .i64 0, .string ⟨#[]⟩] 31
  obtain ⟨bW, h_bW⟩ : ∃ b, w6.heap.size = b := ⟨_, rfl⟩
  have ZW : Hid (CellsAt w7 bW [.int .i64 0, .int .i64 0, .string ⟨#[]⟩]) := h_bW ▸ L0
  have hle := Nat.le_of_lt X.out.1
  replace B := hid (below_on B.out hle hb2)
  replace X := hid (ca_below X.out hb2)
  replace G := hid (srcIn_below G.out hb2)
  replace LA := hid (ca_below LA.out hb2)
  clear hle
  clear hb2 sz L0
  go_wp2_with fail
  refine (zoneBegun_is m w7 G.out.max G.out.pos).mono ?_
  rintro e n1 ⟨rfl, hb⟩
  have hle := Nat.le_of_lt X.out.1
  replace B := hid (below_on B.out hle hb)
  replace X := hid (ca_below X.out hb)
  replace G := hid (srcIn_below G.out hb)
  replace LA := hid (ca_below LA.out hb)
  replace ZW := hid (ca_below ZW.out hb)
  clear hle
  clear hb
  obtain ⟨l0, _⟩ := ca_at LA.out 0 rfl
  obtain ⟨l1, _⟩ := ca_at LA.out 1 rfl
  obtain ⟨l2, _⟩ := ca_at LA.out 2 rfl
  have sl := LA.out.1
  obtain ⟨u0, _⟩ := ca_at ZW.out 0 rfl
  obtain ⟨u1, _⟩ := ca_at ZW.out 1 rfl
  obtain ⟨u2, _⟩ := ca_at ZW.out 2 rfl
  have su := ZW.out.1
  go_wp2
  go_ret
  exact ⟨rfl, B.out⟩
 refine (least_any w5).mono ?_
 rintro e w6 ⟨rfl, hb⟩
 have hle := Nat.le_of_lt X.out.1
 replace B := hid (below_on B.out hle hb)
 replace X := hid (ca_below X.out hb)
 replace G := hid (srcIn_below G.out hb)
 replace LA := hid (ca_below LA.out hb)
 clear hle
 clear hb
 go_wp2_with fail
 by_cases y2 : 253402300799 < at_
 case pos =>
  refine (most_any w6).mono ?_
  rintro e w7 ⟨rfl, hb⟩
  have hle := Nat.le_of_lt X.out.1
  replace B := hid (below_on B.out hle hb)
  replace X := hid (ca_below X.out hb)
  replace G := hid (srcIn_below G.out hb)
  replace LA := hid (ca_below LA.out hb)
  clear hle
  clear hb
  have hQ0 : 3 = Q := by rw [← HQ.out]; unfold atE Tb.inYears Sx.inB; simp [Tb.least, Tb.most]; omega
  have hA0 : A = ⟨0, 0, []⟩ := by rw [← HA.out]; unfold atL; rw [HQ.out, ← hQ0]; rfl
  subst hQ0
  subst hA0
  have LA0 : Hid (CellsAt w7 bL [.int .i64 0, .int .i64 0, .string ⟨#[]⟩]) := LA.out
  clear LA HA HQ
  have LA := LA0
  clear LA0
  obtain ⟨w8, g_w8, L0, hb2, sz⟩ := named_new w7 #[.int .i64 0, .int .i64 0, .string ⟨#[]⟩] 31
  obtain ⟨bW, h_bW⟩ : ∃ b, w7.heap.size = b := ⟨_, rfl⟩
  have ZW : Hid (CellsAt w8 bW [.int .i64 0, .int .i64 0, .string ⟨#[]⟩]) := h_bW ▸ L0
  have hle := Nat.le_of_lt X.out.1
  replace B := hid (below_on B.out hle hb2)
  replace X := hid (ca_below X.out hb2)
  replace G := hid (srcIn_below G.out hb2)
  replace LA := hid (ca_below LA.out hb2)
  clear hle
  clear hb2 sz L0
  go_wp2_with fail
  refine (zoneBegun_is m w8 G.out.max G.out.pos).mono ?_
  rintro e n1 ⟨rfl, hb⟩
  have hle := Nat.le_of_lt X.out.1
  replace B := hid (below_on B.out hle hb)
  replace X := hid (ca_below X.out hb)
  replace G := hid (srcIn_below G.out hb)
  replace LA := hid (ca_below LA.out hb)
  replace ZW := hid (ca_below ZW.out hb)
  clear hle
  clear hb
  obtain ⟨l0, _⟩ := ca_at LA.out 0 rfl
  obtain ⟨l1, _⟩ := ca_at LA.out 1 rfl
  obtain ⟨l2, _⟩ := ca_at LA.out 2 rfl
  have sl := LA.out.1
  obtain ⟨u0, _⟩ := ca_at ZW.out 0 rfl
  obtain ⟨u1, _⟩ := ca_at ZW.out 1 rfl
  obtain ⟨u2, _⟩ := ca_at ZW.out 2 rfl
  have su := ZW.out.1
  go_wp2
  go_ret
  exact ⟨rfl, B.out⟩
 refine (most_any w6).mono ?_
 rintro e w7 ⟨rfl, hb⟩
 have hle := Nat.le_of_lt X.out.1
 replace B := hid (below_on B.out hle hb)
 replace X := hid (ca_below X.out hb)
 replace G := hid (srcIn_below G.out hb)
 replace LA := hid (ca_below LA.out hb)
 clear hle
 clear hb
 have hQ0 : 0 = Q := by rw [← HQ.out]; unfold atE Tb.inYears Sx.inB; simp [Tb.least, Tb.most]; omega
 subst hQ0
 have HA2 : Hid (localE s.rules ⟨p.z.name, p.z.eras⟩ at_ = A) := by show _ = _; rw [← HA.out]; unfold atL; rw [HQ.out, if_pos rfl]
 obtain ⟨w8, g_w8, L0, hb2, sz⟩ := named_new w7 #[.int .i64 0, .int .i64 0, .string ⟨#[]⟩] 31
 obtain ⟨bW, h_bW⟩ : ∃ b, w7.heap.size = b := ⟨_, rfl⟩
 have ZW : Hid (CellsAt w8 bW [.int .i64 0, .int .i64 0, .string ⟨#[]⟩]) := h_bW ▸ L0
 have BWD : Below w7.heap.size w7 w8.drew := hb2.trans ((show Below w8.heap.size w8 w8.drew from ⟨rfl, rfl, rfl, Nat.le_refl _, fun _ _ => rfl⟩).mono hb2.size)
 have HBW := hid BWD
 have hNb : w7.heap.size ≤ bW := by omega
 have HNB := hid hNb
 obtain ⟨zb, zo, e1, hzb, hc⟩ := rd_elem G.out.zv.rd HJ2.out
 subst e1
 have a0 : w7.cell? ⟨zb, zo + j * 2, none⟩ = some (strV p.z.name) := by have := hc 0 _ rfl; simpa using this
 have a1 : w7.cell? ⟨zb, zo + j * 2 + 1, none⟩ = some (.slice p.a p.z.eras.length p.c) := hc 1 _ rfl
 obtain ⟨s0, _⟩ := ca_at X.out 0 rfl
 obtain ⟨s1, _⟩ := ca_at X.out 1 rfl
 obtain ⟨s2, _⟩ := ca_at X.out 2 rfl
 have sx := X.out.1
 have KS : Hid (∀ wz, Below w7.heap.size w7 wz → (wz.cell? ⟨N, 0, none⟩ = some (.slice ra s.rules.length rcap) ∧ wz.cell? ⟨N, 1, none⟩ = some (.slice (some ⟨zb, zo, none⟩) xs.length zcap) ∧ wz.cell? ⟨N, 2, none⟩ = some (.slice la s.links.length lcap) ∧ wz.cell? ⟨zb, zo + j * 2, none⟩ = some (strV p.z.name) ∧ wz.cell? ⟨zb, zo + j * 2 + 1, none⟩ = some (.slice p.a p.z.eras.length p.c))) := fun wz hb => ⟨(hb.cell (p := ⟨N, 0, none⟩) sx).trans s0, (hb.cell (p := ⟨N, 1, none⟩) sx).trans s1, (hb.cell (p := ⟨N, 2, none⟩) sx).trans s2, (hb.cell (p := ⟨zb, zo + j * 2, none⟩) hzb).trans a0, (hb.cell (p := ⟨zb, zo + j * 2 + 1, none⟩) hzb).trans a1⟩
 have SS := hid (KS.out _ hb2)
 have CT : Hid (∀ W, Below w7.heap.size w7 W → Calls Tryz.prog 25 #[.agg #[.slice ra s.rules.length rcap, .slice (some ⟨zb, zo, none⟩) xs.length zcap, .slice la s.links.length lcap], .agg #[strV p.z.name, .slice p.a p.z.eras.length p.c]] W fun e w' => ∃ va vc ta tc ps, e = .returned (.agg #[strV p.z.name, .slice p.a p.z.eras.length p.c, .slice va (endsE p.z.eras).length vc, .slice ta ps.length tc]) ∧ ToldIn s.rules p.z.eras va vc ta tc ps w' ∧ Below W.heap.size W w') := fun W hW =>
  tellOf_any s.rules p.z.name p.z.eras ra p.a rcap p.c _ _ W (rd_below G.out.rules hW) G.out.size.rules (rd_below (G.out.zv.eras p HPIN.out) hW) TA.out.opn TA.out.few TILL.out TE.out
 have CV : Hid (∀ W va ta vc tc ps, ToldIn s.rules p.z.eras va vc ta tc ps W → Below w7.heap.size w7 W → Calls Tryz.prog 26 #[.agg #[strV p.z.name, .slice p.a p.z.eras.length p.c, .slice va (endsE p.z.eras).length vc, .slice ta ps.length tc], .int .i64 at_] W fun e w' => e = .returned (.agg #[.int .i64 A.shift, .int .i64 A.save, strV A.name]) ∧ Below W.heap.size W w') := fun W va ta vc tc ps hT hW => by
  have := toldAt_any s.rules p.z.name p.z.eras p.a va ta p.c vc tc ps at_ W hT (rd_below (G.out.zv.eras p HPIN.out) hW) TA.out
  rw [HA2.out] at this
  exact this
 clear s0 s1 s2 sx a0 a1 hc hzb L0 sz hb2 BWD hNb HA HQ
 go_upto_region 12 with fail
 clear g_w8 h_bW
 have BWD := HBW.out
 have hNb := HNB.out
 refine wp_region_held_drew (S := fun w' => w'.cell? ⟨N, 0, none⟩ = some (.slice ra s.rules.length rcap) ∧ w'.cell? ⟨N, 1, none⟩ = some (.slice (some ⟨zb, zo, none⟩) xs.length zcap) ∧ w'.cell? ⟨N, 2, none⟩ = some (.slice la s.links.length lcap) ∧ w'.cell? ⟨zb, zo + j * 2, none⟩ = some (strV p.z.name) ∧ w'.cell? ⟨zb, zo + j * 2 + 1, none⟩ = some (.slice p.a p.z.eras.length p.c)) (by kernel_rfl) SS.out (fun hHeld => ?_)
 refine tkA 0 rfl ?_
 try simp only [Act.put, j]
 refine tkA 1 rfl ?_
 try simp only [Act.put, j]
 refine tkA 2 rfl ?_
 try simp only [Act.put, j]
 refine tkA 3 rfl ?_
 try simp only [Act.put, j]
 refine tkA 4 rfl ?_
 try simp only [Act.put, j]
 refine tkA 5 rfl ?_
 try simp only [Act.put, j]
 refine tkA 7 rfl ?_
 try simp only [Act.put, j]
 refine rdH 6 rfl fun K hK => ?_
 go_simp
 refine (CT.out w8.drew BWD).mono ?_
 rintro e w10 ⟨va, vc, ta, tc, ps, rfl, TI, hb10⟩
 have hb := BWD.trans (hb10.mono BWD.size)
 have S7 := KS.out w10 hb
 refine hK.out _ _ ?_ (fun hHeld => ?_)
 ·exact S7
 clear hK K
 try simp only [Act.put, j]
 refine rdH 8 rfl fun K hK => ?_
 go_simp
 refine (CV.out w10 va ta vc tc ps TI hb).mono ?_
 rintro e w11 ⟨rfl, hb11⟩
 have hb2 := hb.trans (hb11.mono hb.size)
 have S8 := KS.out w11 hb2
 have T7 : CellsAt w11 bW [.int .i64 0, .int .i64 0, .string ⟨#[]⟩] := ca_below (ca_below (ca_drew ZW.out) hb10) hb11
 obtain ⟨q0, k0⟩ := ca_at T7 0 rfl
 obtain ⟨q1, k1⟩ := ca_at T7 1 rfl
 obtain ⟨q2, k2⟩ := ca_at T7 2 rfl
 have sT := T7.1
 have B9 := below_put (below_put (below_put (hb2) hNb 0 (.int .i64 A.shift)) hNb 1 (.int .i64 A.save)) hNb 2 (strV A.name)
 have S9 := KS.out _ B9
 have T9 := ca_put (ca_put (ca_put (T7) 0 (.int .i64 A.shift) (by simp)) 1 (.int .i64 A.save) (by simp)) 2 (strV A.name) (by simp)
 simp only [List.set_cons_zero, List.set_cons_succ] at T9
 refine hK.out _ _ ?_ (fun hHeld => ?_)
 ·exact S8
 clear hK K
 try simp only [Act.put, j]
 refine rdH 9 rfl fun K hK => ?_
 go_simp
 refine hK.out _ _ ?_ (fun hHeld => ?_)
 ·exact S9
 clear hK K
 try simp only [Act.put, j]
 refine wpAnyH_done (by kernel_rfl) ?_ _
 obtain ⟨wS, hwS⟩ : ∃ y, ((w11.setCell ⟨bW, 0, none⟩ (.int .i64 A.shift)).setCell ⟨bW, 1, none⟩ (.int .i64 A.save)).setCell ⟨bW, 2, none⟩ (strV A.name) = y := ⟨_, rfl⟩
 rw [hwS] at B9 T9 ⊢
 have ZW := hid T9
 have HB9 := hid B9
 clear S7 S8 S9 hHeld TI T7 q0 q1 q2 k0 k1 k2 sT T9 B9 hwS hb hb2 hb10 hb11 KS SS CT CV BWD hNb HBW HNB
 have hle := Nat.le_of_lt X.out.1
 replace B := hid (below_on B.out hle HB9.out)
 replace X := hid (ca_below X.out HB9.out)
 replace G := hid (srcIn_below G.out HB9.out)
 replace LA := hid (ca_below LA.out HB9.out)
 clear hle
 go_wp2_with fail
 refine (zoneBegun_is m wS G.out.max G.out.pos).mono ?_
 rintro e n1 ⟨rfl, hb⟩
 have hle := Nat.le_of_lt X.out.1
 replace B := hid (below_on B.out hle hb)
 replace X := hid (ca_below X.out hb)
 replace G := hid (srcIn_below G.out hb)
 replace LA := hid (ca_below LA.out hb)
 replace ZW := hid (ca_below ZW.out hb)
 clear hle
 clear hb
 obtain ⟨l0, _⟩ := ca_at LA.out 0 rfl
 obtain ⟨l1, _⟩ := ca_at LA.out 1 rfl
 obtain ⟨l2, _⟩ := ca_at LA.out 2 rfl
 have sl := LA.out.1
 obtain ⟨u0, _⟩ := ca_at ZW.out 0 rfl
 obtain ⟨u1, _⟩ := ca_at ZW.out 1 rfl
 obtain ⟨u2, _⟩ := ca_at ZW.out 2 rfl
 have su := ZW.out.1
 go_wp2
 go_ret
 exact ⟨rfl, B.out⟩
theorem zoneAts_row (s : Sx.Sr) (xs : List ZV) (ra za la : Option Addr) (rcap zcap lcap : Nat) (a1 : ByteArray) (a2 : Int) (w : World) (g : SrcArg s xs ra za la rcap zcap lcap w) (m : Int) (hm : w.cell? ⟨0, 0, none⟩ = some (.int .i64 m)) (h0 : 0 < w.heap.size) :
  Calls Tryz.prog 6 #[.agg #[.slice ra s.rules.length rcap, .slice za xs.length zcap, .slice la s.links.length lcap], .string a1, .int .i64 a2] w fun e w' => e = .returned (.bool true) ∧ Below w.heap.size w w' := by
 have q := zoneAts_is s xs ra za la rcap zcap lcap m a2 a1.data.toList w (srcIn_arg g hm h0)
 rw [strT_of] at q
 exact q
end
section
open Go.ChangeShapes Go.WideShapes Go.ChangeAt Go.RowKit

theorem int_of_shape {P : Program} {w : World} {g : Nat} {t : TypeId} {zero : Array Value} (h : w.ShapedOpen P) (hg : g < P.globals.size)
  (h0 : ((begin P (fun _ _ => 0) default).world.heap[g]?).bind Obj.row? = some (zero, t)) (hz : zero.size = 1)
  (hb : P.buildable t = true) (hc : P.cellTypes P.depth t = some [t]) (hu : P.underlying t = some (.int .i64)) : ∃ m, w.cell? ⟨g, 0, none⟩ = some (.int .i64 m) := by
 obtain ⟨cs, hh, hs, hr⟩ := h.1 g zero t hg h0
 obtain ⟨ts, hts, _, hall⟩ := hr hb
 rw [hc] at hts
 cases hts
 have h1 : 0 < cs.size := by omega
 obtain ⟨u, hu', hok⟩ := hall 0 cs[0] (by simp [h1])
 have : u = t := by simpa using hu'.symm
 subst this
 have hcell : w.cell? ⟨g, 0, none⟩ = some cs[0] := by simp [World.cell?, hh, h1]
 rw [hcell]
 unfold Cell.ok at hok
 rw [hu] at hok
 cases hv : cs[0] <;> rw [hv] at hok <;> simp at hok ⊢
 rename_i k n
 cases k <;> simp_all
theorem globalsSome : decide (0 < Tryz.prog.globals.size) = true := by kernel_rfl
theorem maxLen_is {w : World} (h : w.ShapedOpen Tryz.prog) : ∃ m, w.cell? ⟨0, 0, none⟩ = some (.int .i64 m) :=
 int_of_shape (t := 3) (zero := #[.int .i64 0]) h (of_decide_eq_true globalsSome) (by kernel_rfl) rfl (by kernel_rfl) (by kernel_rfl) Tryz.underlying3
theorem heap_pos {w : World} {m : Int} (h : w.cell? ⟨0, 0, none⟩ = some (.int .i64 m)) : 0 < w.heap.size := by
 unfold World.cell? at h
 split at h
 ·rename_i hb; exact (Array.getElem?_eq_some_iff.1 hb).1
 ·cases h
end
section
open Go.ChangeShapes Go.WideShapes Go.ChangeAt Go.RowKit Go.Joins Go.ChangeMaps

theorem zoneAts_lifted (os : Os) (started : os.Started) (H : Type) (enc : TypeId × Value → H) :
  ReturnsInHanded {} Tryz.checked os 6 .any (Rows.zoneAtsSpec.pre6 enc Tryz.prog Tryz.f6 Rows.zoneAtsRow.domain false) (Rows.zoneAtsSpec.post enc Tryz.prog Tryz.f6 false true false false) := by
 refine returnsInHanded_of_change_shaped (C := Tryz.checked) own started (by kernel_rfl) Tryz.func6
  (ChangeSpec.witness6 (enc := enc) (C := Tryz.checked) false ⟨#[], #[.agg #[.slice none 0 0, .slice none 0 0, .slice none 0 0], .string ⟨#[]⟩, .int .i64 0], []⟩ 8 (by kernel_rfl) (by kernel_rfl) (by kernel_rfl) (by kernel_rfl)) ?_
 intro W base args ds gs before hval0 hW hcnd hsz hsh _
 have hval : ∀ (j : Nat) t v, Tryz.f6.params[j]? = some t → args[j]? = some v → Value.okWide Tryz.prog W .any base t v := hval0
 have hW' := hW
 obtain ⟨p, q, hA0, hV, rfl, hfz, hnd⟩ := hW
 have hA : DataW.TrodAll enc Tryz.prog W 0 (fun _ => true) true Tryz.f6.params.toList args.toList ds p := hA0
 rw [Tryz.params6] at hA hval
 obtain ⟨v0, v1, v2, d0, d1, d2, p0, p1, p2, rfl, rfl, rfl, h0, h1, h2⟩ := trodAll_three hA
 obtain ⟨rfl, rfl⟩ := trodVars_none hV
 obtain ⟨⟨s0, xs0, ra0, za0, la0, rc0, zc0, lc0, rfl, g0⟩, lt0⟩ := open_source_arg (hval 0 26 v0 rfl rfl) h0
 obtain ⟨a1, rfl, rfl, rfl, w1⟩ := open_string Tryz.underlying9 (hval 1 9 v1 rfl rfl) h1
 obtain ⟨a2, rfl, rfl, rfl, w2⟩ := open_int Tryz.underlying3 (hval 2 3 v2 rfl rfl) h2
 obtain ⟨m, hm⟩ := maxLen_is hsh
 clear hA0 hval0
 refine (zoneAts_row s0 xs0 ra0 za0 la0 rc0 zc0 lc0 a1 a2 W g0 m hm (heap_pos hm)).mono fun e W' ⟨he, bel⟩ => ?_
 subst he
 exact ⟨_, rfl, _, _, _, [], _, [], hW', trodAll_mk1 (shut_bool Tryz.underlying4 _), trodAll_mk3 (source_stays h0 bel lt0) (shut_string Tryz.underlying9 w1) (shut_int Tryz.underlying3 w2), rfl, bel.frame _, fun h => by cases h⟩

theorem zoneAts_holds : Rows.ZoneAtsSaid :=
 OpenClaim.holds_of_wide 6 Tryz.f6 rfl rfl rfl rfl rfl rfl rfl ⟨rfl, rfl, rfl, rfl, rfl⟩ rfl rfl rfl rfl rfl (by kernel_rfl) Tryz.func6 (by kernel_rfl)
  (of_decide_eq_true (by kernel_rfl)) (by unfold Func.isWrapper; first | (rw [if_pos (by decide +kernel)]; kernel_rfl) | (rw [if_neg (by decide +kernel)]; exact ⟨rfl, rfl⟩))
  (fun os started H enc _ => zoneAts_lifted os started H enc)
#print axioms zoneAts_holds
end
end Go.Proofs.YtkhlkohlccndgaaGreat
