/- The contract of delta's Apply. -/
import Derived.Test.YtombhnjmelidcaaPdD
import Derived.Test.YtombhnjmelidcaaTbH
namespace Go.Proofs.Ytombhnjmelidcaa
open Go.RowKit Go.Lib
set_option linter.unusedVariables false
set_option linter.unusedSimpArgs false

def Tb.pApplyE (t : Tb.Tbl) (p : Tb.Pt) : Int := if Tb.tableE t ≠ 0 then Tb.tableE t else Tb.applyE t p
def PApplyEnd (t : Tb.Tbl) (p : Tb.Pt) (w : World) (e : Ending) (w' : World) : Prop :=
  ∃ f ov l, e = .returned (.tuple #[tbV f ov, .int .i64 (Tb.pApplyE t p)]) ∧ (Tb.pApplyE t p = 0 → f = p.first ∧ l = (Tb.applied t p).ch) ∧ (¬ Tb.pApplyE t p = 0 → f = ⟨0, 0, []⟩ ∧ l = []) ∧ OwnCh w' w.heap.size ov l ∧ Below w.heap.size w w'
theorem pApplyEnd_no {t : Tb.Tbl} {p : Tb.Pt} {w w' : World} {E : Int} (h : Tb.pApplyE t p = E) (h0 : E ≠ 0) (hb : Below w.heap.size w w') : PApplyEnd t p w (.returned (.tuple #[.agg #[.int .i64 0, .int .i64 0, .string ⟨#[]⟩, .slice none 0 0], .int .i64 E])) w' :=
  ⟨⟨0, 0, []⟩, .slice none 0 0, [], by rw [h], fun q => absurd (h ▸ q) h0, fun _ => ⟨rfl, rfl⟩, ownCh_nil _ _, hb⟩
theorem res4 {w w5 : World} {R : Nat} {c0 c1 c2 c3 : Value} (h : CellsAt w R [c0, c1, c2, c3]) (hb : Below w.heap.size w w5) : CellsAt w5 R [c0, c1, c2, c3] ∧ (w5.cell? ⟨R, 0, none⟩ = some c0 ∧ w5.cell? ⟨R, 1, none⟩ = some c1 ∧ w5.cell? ⟨R, 2, none⟩ = some c2 ∧ w5.cell? ⟨R, 3, none⟩ = some c3) ∧
    (w5.frozen? ⟨R, 0, none⟩ = false ∧ w5.frozen? ⟨R, 1, none⟩ = false ∧ w5.frozen? ⟨R, 2, none⟩ = false ∧ w5.frozen? ⟨R, 3, none⟩ = false) ∧ R < w5.heap.size := by
  have h5 := ca_below h hb
  exact ⟨h5, ⟨(ca_at h5 0 rfl).1, (ca_at h5 1 rfl).1, (ca_at h5 2 rfl).1, (ca_at h5 3 rfl).1⟩, ⟨(ca_at h5 0 rfl).2, (ca_at h5 1 rfl).2, (ca_at h5 2 rfl).2, (ca_at h5 3 rfl).2⟩, h5.1⟩
/- all that is put together has a length -/
theorem Tb.applied_sized {t : Tb.Tbl} {p : Tb.Pt} (hS : Tb.Sized t) (n1 : p.first.name.length ≤ maxLen) (n3 : ∀ c ∈ p.put, c.lc.name.length ≤ maxLen) (h1 : t.ch.length ≤ 1000) (h2 : p.put.length ≤ 1000) : Tb.Sized (Tb.applied t p) ∧ (Tb.applied t p).ch.length ≤ 3000 := by
  have l : (Tb.applied t p).ch.length ≤ 3000 := by simp [Tb.applied]; omega
  refine ⟨⟨by unfold maxLen; omega, n1, fun c hc => ?_⟩, l⟩
  simp only [Tb.applied, List.mem_append] at hc
  rcases hc with (hc | hc) | hc
  · exact hS.names c (List.mem_of_mem_take hc)
  · exact n3 c hc
  · exact hS.names c (List.mem_of_mem_drop hc)

/- what the region reads: of the table its changes, of the patch all -/
abbrev ApRd (N : Nat) (g : Tb.Lc) (h s : Int) (tv pv : Value) (w : World) : Prop :=
  w.cell? ⟨N, 3, none⟩ = some tv ∧ w.cell? ⟨N + 1, 0, none⟩ = some (.int .i64 g.shift) ∧ w.cell? ⟨N + 1, 1, none⟩ = some (.int .i64 g.save) ∧ w.cell? ⟨N + 1, 2, none⟩ = some (strV g.name) ∧ w.cell? ⟨N + 1, 3, none⟩ = some (.int .i64 h) ∧ w.cell? ⟨N + 1, 4, none⟩ = some (.int .i64 s) ∧ w.cell? ⟨N + 1, 5, none⟩ = some pv
theorem apRd_of {N : Nat} {f g : Tb.Lc} {h s : Int} {tv pv : Value} {w : World} (ht : CellsAt w N (tbC f tv)) (hp : CellsAt w (N + 1) (ptC g h s pv)) : ApRd N g h s tv pv w :=
  ⟨(ca_at ht 3 rfl).1, (ca_at hp 0 rfl).1, (ca_at hp 1 rfl).1, (ca_at hp 2 rfl).1, (ca_at hp 3 rfl).1, (ca_at hp 4 rfl).1, (ca_at hp 5 rfl).1⟩
theorem apRd_kept {N : Nat} {g : Tb.Lc} {h s : Int} {tv pv : Value} {w w' : World} (H : ApRd N g h s tv pv w) (e : ∀ b o, b < N + 1 + 1 → w'.cell? ⟨b, o, none⟩ = w.cell? ⟨b, o, none⟩) : ApRd N g h s tv pv w' := by
  obtain ⟨a0, a1, a2, a3, a4, a5, a6⟩ := H
  exact ⟨(e _ _ (by omega)).trans a0, (e _ _ (by omega)).trans a1, (e _ _ (by omega)).trans a2, (e _ _ (by omega)).trans a3, (e _ _ (by omega)).trans a4, (e _ _ (by omega)).trans a5, (e _ _ (by omega)).trans a6⟩

theorem apRd_alloc {N : Nat} {g : Tb.Lc} {h s : Int} {tv pv : Value} {w : World} (H : ApRd N g h s tv pv w) (hs : N + 1 < w.heap.size) (o : Obj) : ApRd N g h s tv pv (w.alloc o) :=
  apRd_kept H fun b p hb => World.cell?_of_block (Below.heap_alloc _ _ _ (show b < w.heap.size by omega))
theorem apRd_set {N : Nat} {g : Tb.Lc} {h s : Int} {tv pv : Value} {w : World} {q o : Nat} {u : Value} (H : ApRd N g h s tv pv w) (hq : N + 1 < q) : ApRd N g h s tv pv (w.setCell ⟨q, o, none⟩ u) :=
  apRd_kept H fun b p hb => World.cell?_of_block (Below.heap_setCell _ _ _ _ (show b ≠ q by omega))
theorem apRd_below {N : Nat} {g : Tb.Lc} {h s : Int} {tv pv : Value} {V w : World} (H : ApRd N g h s tv pv V) (hs : N + 1 < V.heap.size) (hb : Below V.heap.size V w) : ApRd N g h s tv pv w ∧ N + 1 < w.heap.size :=
  ⟨apRd_kept H fun b p hb' => hb.cell (p := ⟨b, p, none⟩) (show b < V.heap.size by omega), Nat.lt_of_lt_of_le hs hb.size⟩
/- the table that comes, in a block of its own -/
structure ApFin (w1 : World) (M : Nat) (g : Tb.Lc) (L : List Tb.Cg) (wc : World) (Z : Nat) (ov : Value) : Prop where
  lt : M ≤ Z
  cells : CellsAt wc Z (tbC g ov)
  own : OwnCh wc M ov L
  bel : Below w1.heap.size w1 wc
theorem apFin_new {w1 w6 : World} {M : Nat} {g : Tb.Lc} {L : List Tb.Cg} {ov : Value} (hM : M ≤ w1.heap.size) (ho : OwnCh w6 M ov L) (hb : Below w1.heap.size w1 w6) : ApFin w1 M g L (w6.alloc (.cells (tbC g ov).toArray 26)) w6.heap.size ov :=
  ⟨Nat.le_trans hM hb.size, ca_new _ _ _, World.ownsRow.alloc ho _, hb.alloc hb.size _⟩
theorem apFin_old {w1 w6 : World} {M Z : Nat} {g : Tb.Lc} {L : List Tb.Cg} {ov : Value} (hM : M ≤ w1.heap.size) (hZ : w1.heap.size ≤ Z) (hc : CellsAt w6 Z (tbC ⟨0, 0, []⟩ (.slice none 0 0))) (ho : OwnCh w6 (Z + 1) ov L) (hb : Below w1.heap.size w1 w6) :
    ApFin w1 M g L ((((w6.setCell ⟨Z, 0, none⟩ (.int .i64 g.shift)).setCell ⟨Z, 1, none⟩ (.int .i64 g.save)).setCell ⟨Z, 2, none⟩ (strV g.name)).setCell ⟨Z, 3, none⟩ ov) Z ov := by
  have ne : ∀ o, ov.ownBlock ≠ some (⟨Z, o, none⟩ : Addr).block := fun o q => by have := (ho.lt _ q).1; simp only at this; omega
  exact ⟨by omega, ca_put (ca_put (ca_put (ca_put hc 0 _ (by simp)) 1 _ (by simp)) 2 _ (by simp)) 3 _ (by simp), ownsRow_setCell_other (ownsRow_setCell_other (ownsRow_setCell_other (ownsRow_setCell_other (owns_base ho (by omega)) (ne _) _) (ne _) _) (ne _) _) (ne _) _, below_set (below_set (below_set (below_set hb hZ _) hZ _) hZ _) hZ _⟩
/- Concat of three lists that lie in a row of their own -/
abbrev row3 (x y z : Value) : Obj := .cells #[x, y, z] 24
abbrev tab0 : Obj := .cells #[.int .i64 0, .int .i64 0, .string ⟨#[]⟩, .slice none 0 0] 26
theorem concat3 (b : Nat) (x y z : Value) (l1 l2 l3 : List Tb.Cg) (V w1 : World) (hb : Below w1.heap.size w1 V) (hx : RdCh w1 x l1) (hy : RdCh w1 y l2) (hz : RdCh w1 z l3) (hc : CellsAt V b [x, y, z]) (hl : (l1 ++ l2 ++ l3).length ≤ 1000000) {L : List Tb.Cg} (hL : l1 ++ l2 ++ l3 = L) :
    Calls Try.prog 36 #[.slice (some ⟨b, 0, none⟩) 3 3] V fun e w' => ∃ v, e = .returned v ∧ OwnCh w' V.heap.size v L ∧ Below V.heap.size V w' := by
  subst hL
  have := concat_any b 0 3 3 [x, y, z] [l1, l2, l3] V ⟨rfl, hc.1, fun i v hv => by rw [Nat.zero_add]; exact (hc.2 i v hv).1, fun i v p hv hp => ?_⟩ rfl (by omega) (by simpa [Nat.add_assoc] using hl)
  · simpa using this
  · match i, hv, hp with
    | 0, hv, hp => simp at hv hp; subst hv hp; exact rdCh_below hx hb
    | 1, hv, hp => simp at hv hp; subst hv hp; exact rdCh_below hy hb
    | 2, hv, hp => simp at hv hp; subst hv hp; exact rdCh_below hz hb
theorem armA {w1 V w6 : World} {M : Nat} {pv : Value} {L : List Tb.Cg} (hM : M ≤ w1.heap.size) (ho : OwnCh w6 V.heap.size pv L) (hb : Below V.heap.size V w6) (hV : Below w1.heap.size w1 V) : Hid (OwnCh w6 M pv L ∧ Below w1.heap.size w1 w6) :=
  ⟨owns_base ho (Nat.le_trans hM hV.size), hV.trans (hb.mono hV.size)⟩
theorem armB {w1 V w6 : World} {M Z : Nat} {g : Tb.Lc} {pv : Value} {L : List Tb.Cg} (hM : M ≤ w1.heap.size) (hZ : w1.heap.size ≤ Z) (hc : CellsAt V Z (tbC ⟨0, 0, []⟩ (.slice none 0 0))) (ho : OwnCh w6 V.heap.size pv L) (hb : Below V.heap.size V w6) (hV : Below w1.heap.size w1 V) :
    Hid (ApFin w1 M g L ((((w6.setCell ⟨Z, 0, none⟩ (.int .i64 g.shift)).setCell ⟨Z, 1, none⟩ (.int .i64 g.save)).setCell ⟨Z, 2, none⟩ (strV g.name)).setCell ⟨Z, 3, none⟩ pv) Z pv) :=
  apFin_old hM hZ (ca_below hc hb) (owns_base ho hc.1) (hV.trans (hb.mono hV.size))
theorem below_drew (w : World) (B : Nat) : Below B w w.drew := ⟨rfl, rfl, rfl, Nat.le_refl _, fun _ _ => rfl⟩

set_option maxRecDepth 100000 in
set_option maxHeartbeats 8000000 in
theorem pApply_any (t : Tb.Tbl) (p : Tb.Pt) (v pv : Value) (w : World) (h : RdCh w v t.ch) (h' : RdCh w pv p.put) (hc : ∀ a n c, v = .slice a n c → n ≤ c ∧ c ≤ maxLen) (hS : Tb.Sized t) (hl' : p.put.length ≤ maxLen)
    (n1 : p.first.name.length ≤ maxLen) (n3 : ∀ c ∈ p.put, c.lc.name.length ≤ maxLen) (hw : ∀ k : Int, k = p.head ∨ k = p.tail → -9223372036854775808 ≤ k ∧ k ≤ 9223372036854775807) :
    Calls Try.prog 18 #[tbV t.first v, ptV p.first p.head p.tail pv] w (PApplyEnd t p w) := by
  obtain ⟨E1, hE1⟩ : ∃ E, Tb.tableE t = E := ⟨_, rfl⟩
  have HD : Hid (Tb.pApplyE t p = if E1 ≠ 0 then E1 else Tb.applyE t p) := by show _ = _; rw [Tb.pApplyE, hE1]
  have HC1 : Hid (∀ W, Below w.heap.size w W → Calls Try.prog 24 #[tbV t.first v] W fun e w' => e = .returned (.int .i64 E1) ∧ Below W.heap.size W w') := fun W hW => by
    rw [← hE1]; exact pCheck_any t _ W (rdCh_below h hW) hS
  have HL1 : Hid (E1 = 0 → t.ch.length ≤ 1000) := fun q => (Tb.good_parts (hE1.trans q)).1
  have HAS : Hid (t.ch.length ≤ 1000 → p.put.length ≤ 1000 → Tb.Sized (Tb.applied t p) ∧ (Tb.applied t p).ch.length ≤ 3000) := fun a b => Tb.applied_sized hS n1 n3 a b
  clear hE1 hS n1 n3
  obtain ⟨f, a⟩ := t
  obtain ⟨g, H, T, b⟩ := p
  dsimp only at *
  obtain ⟨wH1, wH2⟩ := hw H (.inl rfl)
  obtain ⟨wT1, wT2⟩ := hw T (.inr rfl)
  clear hw
  have HA := hid h
  have HB := hid h'
  obtain ⟨aa, acap, rfl, _⟩ := h
  obtain ⟨ba, bcap, rfl, _⟩ := h'
  obtain ⟨ka, ka2⟩ := hc _ _ _ rfl
  unfold maxLen at ka2 hl'
  clear hc
  obtain ⟨N, hN⟩ : ∃ N, w.heap.size = N := ⟨_, rfl⟩
  have HNN := hid hN
  obtain ⟨W0, hW⟩ : ∃ W0, ((w.alloc (.cells (tbC f (.slice aa a.length acap)).toArray 26)).alloc (.cells (ptC g H T (.slice ba b.length bcap)).toArray 42)).alloc (.cells (tbC ⟨0, 0, []⟩ (.slice none 0 0)).toArray 26) = W0 := ⟨_, rfl⟩
  have B0 : Hid (Below w.heap.size w W0) := by
    rw [← hW]; show Below _ _ _
    exact (((Below.refl _ _).alloc (Nat.le_refl _) _).alloc (by simp) _).alloc (by simp; omega) _
  have T0 : Hid (CellsAt W0 N (tbC f (.slice aa a.length acap))) := by rw [← hW, ← hN]; exact ca_alloc (ca_alloc (ca_new _ _ _) _) _
  have P0 : Hid (CellsAt W0 (N + 1) (ptC g H T (.slice ba b.length bcap))) := by
    rw [← hW, ← hN]; show CellsAt _ _ _
    have := ca_alloc (ca_new (w.alloc (.cells (tbC f (.slice aa a.length acap)).toArray 26)) (ptC g H T (.slice ba b.length bcap)) 42) (.cells (tbC ⟨0, 0, []⟩ (.slice none 0 0)).toArray 26)
    simpa using this
  have R0 : Hid (CellsAt W0 (N + 1 + 1) (tbC ⟨0, 0, []⟩ (.slice none 0 0))) := by
    rw [← hW, ← hN]; show CellsAt _ _ _
    have := ca_new ((w.alloc (.cells (tbC f (.slice aa a.length acap)).toArray 26)).alloc (.cells (ptC g H T (.slice ba b.length bcap)).toArray 42)) (tbC ⟨0, 0, []⟩ (.slice none 0 0)) 26
    simpa using this
  have HW := hid hW
  have HS := hid (HC1.out W0 B0.out)
  clear hW HC1
  rw [← HW.out] at HS
  go_enter Try.func18, Try.ntmps18
  go_wp2_with fail
  refine HS.out.mono ?_
  rintro e w1 ⟨rfl, hb1⟩
  rw [HW.out] at hb1
  clear hN
  have T1 := hid (ca_below T0.out hb1)
  have P1 := hid (ca_below P0.out hb1)
  have R1 := hid (ca_below R0.out hb1)
  have B1 : Hid (Below w.heap.size w w1) := B0.out.trans (hb1.mono B0.out.size)
  clear T0 P0 R0 B0 hb1 HS HW
  have HBN : Hid (∀ q, N ≤ q → w.heap.size ≤ q) := fun q hq => by rw [HNN.out]; exact hq
  obtain ⟨-, ⟨r0, r1, r2, r3⟩, ⟨f0, f1, f2, f3⟩, sr⟩ := res4 R1.out (Below.refl _ _)
  by_cases h1 : E1 = 0
  case neg =>
    have HE : Hid (Tb.pApplyE ⟨f, a⟩ ⟨g, H, T, b⟩ = E1) := by show _ = _; rw [HD.out, if_pos h1]
    have h1' : (E1 != 0) = true := by simp [h1]
    go_wp2
    refine bodyPost_ret (v := .tuple #[.agg #[.int .i64 0, .int .i64 0, .string ⟨#[]⟩, .slice none 0 0], .int .i64 E1]) (by simp [results, Try.results18, go_sem, *]) rfl (pApplyEnd_no HE.out h1 ?_)
    repeat (refine below_set ?_ (HBN.out _ (by omega)) _)
    exact B1.out
  subst h1
  have HD2 : Hid (Tb.pApplyE ⟨f, a⟩ ⟨g, H, T, b⟩ = Tb.applyE ⟨f, a⟩ ⟨g, H, T, b⟩) := by show _ = _; rw [HD.out]; rfl
  have la := HL1.out rfl
  clear HD HL1
  obtain ⟨t3, j3⟩ := ca_at T1.out 3 rfl
  obtain ⟨p3, i3⟩ := ca_at P1.out 3 rfl
  obtain ⟨p4, i4⟩ := ca_at P1.out 4 rfl
  obtain ⟨p5, i5⟩ := ca_at P1.out 5 rfl
  have st := T1.out.1
  have sp := P1.out.1
  by_cases q1 : H < 0
  case pos =>
    have HE : Hid (Tb.pApplyE ⟨f, a⟩ ⟨g, H, T, b⟩ = 3) := by show _ = _; rw [HD2.out]; exact applyE_fit (fun q => by have := q.1; simp only at this; omega)
    go_wp2
    refine bodyPost_ret (v := .tuple #[.agg #[.int .i64 0, .int .i64 0, .string ⟨#[]⟩, .slice none 0 0], .int .i64 3]) (by simp [results, Try.results18, go_sem, *]) rfl (pApplyEnd_no HE.out (by decide) ?_)
    repeat (refine below_set ?_ (HBN.out _ (by omega)) _)
    exact B1.out
  by_cases q2 : T < 0
  case pos =>
    have HE : Hid (Tb.pApplyE ⟨f, a⟩ ⟨g, H, T, b⟩ = 3) := by show _ = _; rw [HD2.out]; exact applyE_fit (fun q => by have := q.2.1; simp only at this; omega)
    go_wp2
    refine bodyPost_ret (v := .tuple #[.agg #[.int .i64 0, .int .i64 0, .string ⟨#[]⟩, .slice none 0 0], .int .i64 3]) (by simp [results, Try.results18, go_sem, *]) rfl (pApplyEnd_no HE.out (by decide) ?_)
    repeat (refine below_set ?_ (HBN.out _ (by omega)) _)
    exact B1.out
  by_cases q3 : (a.length : Int) - H < T
  case pos =>
    have HE : Hid (Tb.pApplyE ⟨f, a⟩ ⟨g, H, T, b⟩ = 3) := by show _ = _; rw [HD2.out]; exact applyE_fit (fun q => by have := q.2.2.2; simp only at this; omega)
    go_wp2
    refine bodyPost_ret (v := .tuple #[.agg #[.int .i64 0, .int .i64 0, .string ⟨#[]⟩, .slice none 0 0], .int .i64 3]) (by simp [results, Try.results18, go_sem, *]) rfl (pApplyEnd_no HE.out (by decide) ?_)
    repeat (refine below_set ?_ (HBN.out _ (by omega)) _)
    exact B1.out
  have hfit : 0 ≤ H ∧ 0 ≤ T ∧ H ≤ a.length ∧ T ≤ a.length - H := by omega
  have HFIT := hid hfit
  by_cases q4 : (1000 : Int) < b.length
  case pos =>
    have HE : Hid (Tb.pApplyE ⟨f, a⟩ ⟨g, H, T, b⟩ = 2) := by show _ = _; rw [HD2.out]; exact applyE_many hfit (by simp only; omega)
    clear hfit
    go_wp2
    refine bodyPost_ret (v := .tuple #[.agg #[.int .i64 0, .int .i64 0, .string ⟨#[]⟩, .slice none 0 0], .int .i64 2]) (by simp [results, Try.results18, go_sem, *]) rfl (pApplyEnd_no HE.out (by decide) ?_)
    repeat (refine below_set ?_ (HBN.out _ (by omega)) _)
    exact B1.out
  obtain ⟨h, rfl⟩ := Int.eq_ofNat_of_zero_le hfit.1
  obtain ⟨s, rfl⟩ := Int.eq_ofNat_of_zero_le hfit.2.1
  have hh : h + s ≤ a.length := by omega
  have lb : b.length ≤ 1000 := by omega
  have HD3 : Hid (Tb.pApplyE ⟨f, a⟩ ⟨g, h, s, b⟩ = Tb.tableE (Tb.applied ⟨f, a⟩ ⟨g, h, s, b⟩)) := by show _ = _; rw [HD2.out]; exact applyE_ok hfit (by simp only; omega)
  obtain ⟨hAS, hAL⟩ := HAS.out la lb
  have HAS2 := hid hAS
  clear HD2 HAS hfit hAS hAL wH1 wH2 wT1 wT2
  obtain ⟨k, hk⟩ : ∃ k : Nat, a.length - s = k := ⟨_, rfl⟩
  have ek : (a.length : Int) - s = k := by omega
  have hkl : k ≤ a.length := by omega
  have hkl' : (k : Int) ≤ a.length := by omega
  have hwk : IntKind.i64.wrap (k : Int) = k := by rw [IntKind.wrap_i64]; omega
  have hha : h ≤ acap := by omega
  have hha' : (h : Int) ≤ acap := by omega
  have hsub : a.length - k = s := by omega
  have HAP : Hid ((Tb.applied ⟨f, a⟩ ⟨g, h, s, b⟩) = ⟨g, a.take h ++ b ++ a.drop k⟩) := by show _ = _; simp [Tb.applied, hk]
  clear hk
  have AR := apRd_of T1.out P1.out
  obtain ⟨p0, i0⟩ := ca_at P1.out 0 rfl
  obtain ⟨p1, i1⟩ := ca_at P1.out 1 rfl
  obtain ⟨p2, i2⟩ := ca_at P1.out 2 rfl
  go_wp2_with fail
  obtain ⟨L, hL⟩ : ∃ L, a.take h ++ b ++ a.drop k = L := ⟨_, rfl⟩
  have HLL : Hid ((a.take h ++ b ++ a.drop k).length ≤ 1000000) := by show _ ≤ _; simp; omega
  have HRA := hid (rdCh_below HA.out B1.out)
  have HRB := hid (rdCh_below HB.out B1.out)
  have hM : N + 1 + 1 + 1 ≤ w1.heap.size := R1.out.1
  have zqB : N + 1 < w1.heap.size + 1 := by omega
  have zqC : N + 1 < w1.heap.size := by omega
  rw [hL] at HAP
  go_cut [8] from 42 to 60 (fun s8 wc => ∃ Z ov, s8 = .pointer (some ⟨Z, 0, none⟩) ∧ Hid (ApFin w1 (N + 1 + 1 + 1) g L wc Z ov))
  case first =>
    have HL := hid hL
    clear hL
    by_cases qk : k = acap
    · subst qk
      have qkl : Hid (k = a.length) := by show _ = _; omega
      have RX : RdCh w1 (.slice aa h k) (a.take h) := rdCh_take HRA.out h (by omega)
      have RZ : RdCh w1 (.slice (aa) s (0)) (a.drop k) := by have := rdCh_cut HRA.out qkl.out; rw [hsub] at this; simpa using this
      have BA : Below w1.heap.size w1 (w1.alloc (row3 (.slice aa h k) (.slice ba b.length bcap) (.slice (aa) s (0)))).drew := ((Below.refl w1.heap.size w1).alloc (Nat.le_refl _) _).trans (below_drew _ _)
      have BB : Below w1.heap.size w1 ((w1.alloc (row3 (.slice aa h k) (.slice ba b.length bcap) (.slice (aa) s (0)))).alloc tab0).drew := (((Below.refl w1.heap.size w1).alloc (Nat.le_refl _) _).alloc (by simp) _).trans (below_drew _ _)
      have BC : Below w1.heap.size w1 ((w1.alloc tab0).alloc (row3 (.slice aa h k) (.slice ba b.length bcap) (.slice (aa) s (0)))).drew := (((Below.refl w1.heap.size w1).alloc (Nat.le_refl _) _).alloc (by simp) _).trans (below_drew _ _)
      have CA := concat3 w1.heap.size _ _ _ _ _ _ (w1.alloc (row3 (.slice aa h k) (.slice ba b.length bcap) (.slice (aa) s (0)))).drew w1 BA RX HRB.out RZ (ca_new w1 [_, _, _] 24) HLL.out HL.out
      have CB := concat3 w1.heap.size _ _ _ _ _ _ ((w1.alloc (row3 (.slice aa h k) (.slice ba b.length bcap) (.slice (aa) s (0)))).alloc tab0).drew w1 BB RX HRB.out RZ (ca_alloc (ca_new w1 [_, _, _] 24) tab0) HLL.out HL.out
      have CC := concat3 (w1.heap.size + 1) _ _ _ _ _ _ ((w1.alloc tab0).alloc (row3 (.slice aa h k) (.slice ba b.length bcap) (.slice (aa) s (0)))).drew w1 BC RX HRB.out RZ (by have := ca_new (w1.alloc tab0) [Value.slice aa h k, .slice ba b.length bcap, .slice (aa) s (0)] 24; rw [World.size_alloc] at this; exact this) HLL.out HL.out
      have ZB : CellsAt ((w1.alloc (row3 (.slice aa h k) (.slice ba b.length bcap) (.slice (aa) s (0)))).alloc tab0).drew (w1.heap.size + 1) (tbC ⟨0, 0, []⟩ (.slice none 0 0)) := by have := ca_new (w1.alloc (row3 (.slice aa h k) (.slice ba b.length bcap) (.slice (aa) s (0)))) (tbC ⟨0, 0, []⟩ (.slice none 0 0)) 26; rw [World.size_alloc] at this; exact this
      have ZC : CellsAt ((w1.alloc tab0).alloc (row3 (.slice aa h k) (.slice ba b.length bcap) (.slice (aa) s (0)))).drew w1.heap.size (tbC ⟨0, 0, []⟩ (.slice none 0 0)) := ca_alloc (ca_new w1 (tbC ⟨0, 0, []⟩ (.slice none 0 0)) 26) _
      have ARA : ApRd N g h s (.slice aa a.length k) (.slice ba b.length bcap) (w1.alloc (row3 (.slice aa h k) (.slice ba b.length bcap) (.slice (aa) s (0)))).drew := apRd_alloc AR sp (row3 (.slice aa h k) (.slice ba b.length bcap) (.slice (aa) s (0)))
      have ARB : ApRd N g h s (.slice aa a.length k) (.slice ba b.length bcap) ((w1.alloc (row3 (.slice aa h k) (.slice ba b.length bcap) (.slice (aa) s (0)))).alloc tab0).drew := apRd_alloc (apRd_alloc AR sp (row3 (.slice aa h k) (.slice ba b.length bcap) (.slice (aa) s (0)))) (by simp; omega) tab0
      have ARC : ApRd N g h s (.slice aa a.length k) (.slice ba b.length bcap) ((w1.alloc tab0).alloc (row3 (.slice aa h k) (.slice ba b.length bcap) (.slice (aa) s (0)))).drew := apRd_alloc (apRd_alloc AR sp tab0) (by simp; omega) (row3 (.slice aa h k) (.slice ba b.length bcap) (.slice (aa) s (0)))
      have sA : N + 1 < (w1.alloc (row3 (.slice aa h k) (.slice ba b.length bcap) (.slice (aa) s (0)))).drew.heap.size := by show N + 1 < (w1.alloc _).heap.size; simp; omega
      have sB : N + 1 < ((w1.alloc (row3 (.slice aa h k) (.slice ba b.length bcap) (.slice (aa) s (0)))).alloc tab0).drew.heap.size := by show N + 1 < ((w1.alloc _).alloc _).heap.size; simp; omega
      have sC : N + 1 < ((w1.alloc tab0).alloc (row3 (.slice aa h k) (.slice ba b.length bcap) (.slice (aa) s (0)))).drew.heap.size := by show N + 1 < ((w1.alloc _).alloc _).heap.size; simp; omega
      go_region_held3 (fun w' => w'.cell? ⟨N, 3, none⟩ = some (.slice aa a.length k) ∧ w'.cell? ⟨N + 1, 0, none⟩ = some (.int .i64 g.shift) ∧ w'.cell? ⟨N + 1, 1, none⟩ = some (.int .i64 g.save) ∧ w'.cell? ⟨N + 1, 2, none⟩ = some (strV g.name) ∧ w'.cell? ⟨N + 1, 3, none⟩ = some (.int .i64 h) ∧ w'.cell? ⟨N + 1, 4, none⟩ = some (.int .i64 s) ∧ w'.cell? ⟨N + 1, 5, none⟩ = some (.slice ba b.length bcap))
        (first | (with_reducible exact AR) | (with_reducible exact ARA) | (with_reducible exact ARB) | (with_reducible exact ARC) | (with_reducible exact apRd_alloc AR sp _) | (with_reducible exact AR6) | (with_reducible exact apRd_alloc AR6 s6 _) | (with_reducible exact apRd_set (apRd_set (apRd_set (apRd_set AR6 zq) zq) zq) zq) | (with_reducible exact apRd_set (apRd_set (apRd_set (apRd_set (apRd_alloc AR6 s6 _) s6) s6) s6) s6) | go_keep)
        (first | (go_at_call 36; (with_reducible refine CA.mono ?_); rintro e w6 ⟨pv, rfl, O6, hb6⟩; obtain ⟨AR6, s6⟩ := apRd_below ARA sA hb6; obtain ⟨pa, pcap, rfl⟩ := owns_shape0 O6; have WA := armA hM O6 hb6 BA; clear O6 hb6 CA CB CC) | (go_at_call 36; (with_reducible refine CB.mono ?_); rintro e w6 ⟨pv, rfl, O6, hb6⟩; obtain ⟨AR6, s6⟩ := apRd_below ARB sB hb6; obtain ⟨pa, pcap, rfl⟩ := owns_shape0 O6; obtain ⟨-, ⟨z0, z1, z2, z3⟩, ⟨y0, y1, y2, y3⟩, sz⟩ := res4 ZB hb6; have zq := zqB; have WB := armB (g := g) hM (Nat.le_succ _) ZB O6 hb6 BB; clear O6 hb6 CA CB CC) | (go_at_call 36; (with_reducible refine CC.mono ?_); rintro e w6 ⟨pv, rfl, O6, hb6⟩; obtain ⟨AR6, s6⟩ := apRd_below ARC sC hb6; obtain ⟨pa, pcap, rfl⟩ := owns_shape0 O6; obtain ⟨-, ⟨z0, z1, z2, z3⟩, ⟨y0, y1, y2, y3⟩, sz⟩ := res4 ZC hb6; have zq := zqC; have WB := armB (g := g) hM (Nat.le_refl _) ZC O6 hb6 BC; clear O6 hb6 CA CB CC))
      all_goals
        go_wp2_with fail
        go_meet
        first
          | exact ⟨_, _, rfl, WB⟩
          | exact ⟨_, _, rfl, apFin_new hM WA.out.1 WA.out.2⟩
    · have qk' : ¬ acap = k := fun q => qk q.symm
      have RX : RdCh w1 (.slice aa h acap) (a.take h) := rdCh_take HRA.out h (by omega)
      have RZ : RdCh w1 (.slice (Option.map (fun x => x.add (k * 4)) aa) s (acap - k)) (a.drop k) := by have := rdCh_sliced HRA.out hkl qk'; rw [hsub] at this; exact this
      have BA : Below w1.heap.size w1 (w1.alloc (row3 (.slice aa h acap) (.slice ba b.length bcap) (.slice (Option.map (fun x => x.add (k * 4)) aa) s (acap - k)))).drew := ((Below.refl w1.heap.size w1).alloc (Nat.le_refl _) _).trans (below_drew _ _)
      have BB : Below w1.heap.size w1 ((w1.alloc (row3 (.slice aa h acap) (.slice ba b.length bcap) (.slice (Option.map (fun x => x.add (k * 4)) aa) s (acap - k)))).alloc tab0).drew := (((Below.refl w1.heap.size w1).alloc (Nat.le_refl _) _).alloc (by simp) _).trans (below_drew _ _)
      have BC : Below w1.heap.size w1 ((w1.alloc tab0).alloc (row3 (.slice aa h acap) (.slice ba b.length bcap) (.slice (Option.map (fun x => x.add (k * 4)) aa) s (acap - k)))).drew := (((Below.refl w1.heap.size w1).alloc (Nat.le_refl _) _).alloc (by simp) _).trans (below_drew _ _)
      have CA := concat3 w1.heap.size _ _ _ _ _ _ (w1.alloc (row3 (.slice aa h acap) (.slice ba b.length bcap) (.slice (Option.map (fun x => x.add (k * 4)) aa) s (acap - k)))).drew w1 BA RX HRB.out RZ (ca_new w1 [_, _, _] 24) HLL.out HL.out
      have CB := concat3 w1.heap.size _ _ _ _ _ _ ((w1.alloc (row3 (.slice aa h acap) (.slice ba b.length bcap) (.slice (Option.map (fun x => x.add (k * 4)) aa) s (acap - k)))).alloc tab0).drew w1 BB RX HRB.out RZ (ca_alloc (ca_new w1 [_, _, _] 24) tab0) HLL.out HL.out
      have CC := concat3 (w1.heap.size + 1) _ _ _ _ _ _ ((w1.alloc tab0).alloc (row3 (.slice aa h acap) (.slice ba b.length bcap) (.slice (Option.map (fun x => x.add (k * 4)) aa) s (acap - k)))).drew w1 BC RX HRB.out RZ (by have := ca_new (w1.alloc tab0) [Value.slice aa h acap, .slice ba b.length bcap, .slice (Option.map (fun x => x.add (k * 4)) aa) s (acap - k)] 24; rw [World.size_alloc] at this; exact this) HLL.out HL.out
      have ZB : CellsAt ((w1.alloc (row3 (.slice aa h acap) (.slice ba b.length bcap) (.slice (Option.map (fun x => x.add (k * 4)) aa) s (acap - k)))).alloc tab0).drew (w1.heap.size + 1) (tbC ⟨0, 0, []⟩ (.slice none 0 0)) := by have := ca_new (w1.alloc (row3 (.slice aa h acap) (.slice ba b.length bcap) (.slice (Option.map (fun x => x.add (k * 4)) aa) s (acap - k)))) (tbC ⟨0, 0, []⟩ (.slice none 0 0)) 26; rw [World.size_alloc] at this; exact this
      have ZC : CellsAt ((w1.alloc tab0).alloc (row3 (.slice aa h acap) (.slice ba b.length bcap) (.slice (Option.map (fun x => x.add (k * 4)) aa) s (acap - k)))).drew w1.heap.size (tbC ⟨0, 0, []⟩ (.slice none 0 0)) := ca_alloc (ca_new w1 (tbC ⟨0, 0, []⟩ (.slice none 0 0)) 26) _
      have ARA : ApRd N g h s (.slice aa a.length acap) (.slice ba b.length bcap) (w1.alloc (row3 (.slice aa h acap) (.slice ba b.length bcap) (.slice (Option.map (fun x => x.add (k * 4)) aa) s (acap - k)))).drew := apRd_alloc AR sp (row3 (.slice aa h acap) (.slice ba b.length bcap) (.slice (Option.map (fun x => x.add (k * 4)) aa) s (acap - k)))
      have ARB : ApRd N g h s (.slice aa a.length acap) (.slice ba b.length bcap) ((w1.alloc (row3 (.slice aa h acap) (.slice ba b.length bcap) (.slice (Option.map (fun x => x.add (k * 4)) aa) s (acap - k)))).alloc tab0).drew := apRd_alloc (apRd_alloc AR sp (row3 (.slice aa h acap) (.slice ba b.length bcap) (.slice (Option.map (fun x => x.add (k * 4)) aa) s (acap - k)))) (by simp; omega) tab0
      have ARC : ApRd N g h s (.slice aa a.length acap) (.slice ba b.length bcap) ((w1.alloc tab0).alloc (row3 (.slice aa h acap) (.slice ba b.length bcap) (.slice (Option.map (fun x => x.add (k * 4)) aa) s (acap - k)))).drew := apRd_alloc (apRd_alloc AR sp tab0) (by simp; omega) (row3 (.slice aa h acap) (.slice ba b.length bcap) (.slice (Option.map (fun x => x.add (k * 4)) aa) s (acap - k)))
      have sA : N + 1 < (w1.alloc (row3 (.slice aa h acap) (.slice ba b.length bcap) (.slice (Option.map (fun x => x.add (k * 4)) aa) s (acap - k)))).drew.heap.size := by show N + 1 < (w1.alloc _).heap.size; simp; omega
      have sB : N + 1 < ((w1.alloc (row3 (.slice aa h acap) (.slice ba b.length bcap) (.slice (Option.map (fun x => x.add (k * 4)) aa) s (acap - k)))).alloc tab0).drew.heap.size := by show N + 1 < ((w1.alloc _).alloc _).heap.size; simp; omega
      have sC : N + 1 < ((w1.alloc tab0).alloc (row3 (.slice aa h acap) (.slice ba b.length bcap) (.slice (Option.map (fun x => x.add (k * 4)) aa) s (acap - k)))).drew.heap.size := by show N + 1 < ((w1.alloc _).alloc _).heap.size; simp; omega
      go_region_held3 (fun w' => w'.cell? ⟨N, 3, none⟩ = some (.slice aa a.length acap) ∧ w'.cell? ⟨N + 1, 0, none⟩ = some (.int .i64 g.shift) ∧ w'.cell? ⟨N + 1, 1, none⟩ = some (.int .i64 g.save) ∧ w'.cell? ⟨N + 1, 2, none⟩ = some (strV g.name) ∧ w'.cell? ⟨N + 1, 3, none⟩ = some (.int .i64 h) ∧ w'.cell? ⟨N + 1, 4, none⟩ = some (.int .i64 s) ∧ w'.cell? ⟨N + 1, 5, none⟩ = some (.slice ba b.length bcap))
        (first | (with_reducible exact AR) | (with_reducible exact ARA) | (with_reducible exact ARB) | (with_reducible exact ARC) | (with_reducible exact apRd_alloc AR sp _) | (with_reducible exact AR6) | (with_reducible exact apRd_alloc AR6 s6 _) | (with_reducible exact apRd_set (apRd_set (apRd_set (apRd_set AR6 zq) zq) zq) zq) | (with_reducible exact apRd_set (apRd_set (apRd_set (apRd_set (apRd_alloc AR6 s6 _) s6) s6) s6) s6) | go_keep)
        (first | (go_at_call 36; (with_reducible refine CA.mono ?_); rintro e w6 ⟨pv, rfl, O6, hb6⟩; obtain ⟨AR6, s6⟩ := apRd_below ARA sA hb6; obtain ⟨pa, pcap, rfl⟩ := owns_shape0 O6; have WA := armA hM O6 hb6 BA; clear O6 hb6 CA CB CC) | (go_at_call 36; (with_reducible refine CB.mono ?_); rintro e w6 ⟨pv, rfl, O6, hb6⟩; obtain ⟨AR6, s6⟩ := apRd_below ARB sB hb6; obtain ⟨pa, pcap, rfl⟩ := owns_shape0 O6; obtain ⟨-, ⟨z0, z1, z2, z3⟩, ⟨y0, y1, y2, y3⟩, sz⟩ := res4 ZB hb6; have zq := zqB; have WB := armB (g := g) hM (Nat.le_succ _) ZB O6 hb6 BB; clear O6 hb6 CA CB CC) | (go_at_call 36; (with_reducible refine CC.mono ?_); rintro e w6 ⟨pv, rfl, O6, hb6⟩; obtain ⟨AR6, s6⟩ := apRd_below ARC sC hb6; obtain ⟨pa, pcap, rfl⟩ := owns_shape0 O6; obtain ⟨-, ⟨z0, z1, z2, z3⟩, ⟨y0, y1, y2, y3⟩, sz⟩ := res4 ZC hb6; have zq := zqC; have WB := armB (g := g) hM (Nat.le_refl _) ZC O6 hb6 BC; clear O6 hb6 CA CB CC))
      all_goals
        go_wp2_with fail
        go_meet
        first
          | exact ⟨_, _, rfl, WB⟩
          | exact ⟨_, _, rfl, apFin_new hM WA.out.1 WA.out.2⟩
  case rest =>
  obtain ⟨Z, ov, rfl, FN⟩ := hcut
  obtain ⟨oa, ocap, rfl⟩ := owns_shape0 FN.out.own
  obtain ⟨E, hE⟩ : ∃ E, Tb.tableE ⟨g, L⟩ = E := ⟨_, rfl⟩
  rw [HAP.out] at HAS2 HD3
  rw [hE] at HD3
  have HC := hid (pCheck_any ⟨g, L⟩ _ _ (ownCh_rd FN.out.own) HAS2.out)
  rw [hE] at HC
  have HAP2 : Hid ((Tb.applied ⟨f, a⟩ ⟨g, h, s, b⟩).ch = L) := by show _ = _; rw [HAP.out]
  clear hE hL HAP HAS2 HLL HRA HRB AR T1 P1 t3 j3 p0 p1 p2 p3 p4 p5 i0 i1 i2 i3 i4 i5 r0 r1 r2 r3 f0 f1 f2 f3 sr st sp
  obtain ⟨-, ⟨z0, z1, z2, z3⟩, ⟨y0, y1, y2, y3⟩, sz⟩ := res4 FN.out.cells (Below.refl _ _)
  go_wp2_with fail
  (with_reducible refine HC.out.mono ?_)
  rintro e w7 ⟨rfl, hb7⟩
  have lZ : N + 1 + 1 + 1 ≤ Z := FN.out.lt
  have O7 : Hid (OwnCh w7 (N + 1 + 1 + 1) (.slice oa L.length ocap) L) := owns_below FN.out.own hb7
  have BB := FN.out.bel.trans (hb7.mono FN.out.bel.size)
  have R7 := hid (ca_below R1.out BB)
  have B7 : Hid (Below w.heap.size w w7) := B1.out.trans (BB.mono B1.out.size)
  have Z7 := hid (ca_below FN.out.cells hb7)
  clear FN HC BB hb7 R1 B1 z0 z1 z2 z3 y0 y1 y2 y3 sz
  obtain ⟨-, ⟨z0, z1, z2, z3⟩, ⟨y0, y1, y2, y3⟩, sz⟩ := res4 Z7.out (Below.refl _ _)
  obtain ⟨-, ⟨r0, r1, r2, r3⟩, ⟨f0, f1, f2, f3⟩, sr⟩ := res4 R7.out (Below.refl _ _)
  by_cases h1 : E = 0
  case neg =>
    have h1' : (E != 0) = true := by simp [h1]
    go_wp2
    refine bodyPost_ret (v := .tuple #[.agg #[.int .i64 0, .int .i64 0, .string ⟨#[]⟩, .slice none 0 0], .int .i64 E]) (by simp [results, Try.results18, go_sem, *]) rfl (pApplyEnd_no HD3.out h1 ?_)
    repeat (refine below_set ?_ (HBN.out _ (by omega)) _)
    exact B7.out
  subst h1
  go_wp2
  refine bodyPost_ret (v := .tuple #[tbV g (.slice oa L.length ocap), .int .i64 0]) (by simp [results, Try.results18, go_sem, *]) rfl ⟨g, .slice oa L.length ocap, L, by rw [HD3.out], fun _ => ⟨rfl, HAP2.out.symm⟩, fun q => absurd HD3.out q, ?_, ?_⟩
  · have ne : ∀ o, Value.ownBlock (.slice oa L.length ocap) ≠ some (⟨N + 1 + 1, o, none⟩ : Addr).block := by
      intro o q
      have := (O7.out.lt _ q).1
      simp only at this
      omega
    have o1 : OwnCh w7 w.heap.size (.slice oa L.length ocap) L := owns_base O7.out (by rw [HNN.out]; omega)
    repeat (refine ownsRow_setCell_other ?_ (ne _) _)
    exact o1
  · repeat (refine below_set ?_ (HBN.out _ (by omega)) _)
    exact B7.out
end Go.Proofs.Ytombhnjmelidcaa
