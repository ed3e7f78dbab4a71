/- The contract of the document's DiffOf. -/
import Derived.Test.YtombhnjmelidcaaTbM
import Derived.Test.YtombhnjmelidcaaTbD
import Derived.Test.YtombhnjmelidcaaBaA
import Derived.OneCell
import Derived.Deep.DeepMust
import Derived.Deep.Cut
import Derived.Deep.CutRange
namespace Go.Proofs.Ytombhnjmelidcaa
open Go.RowKit
set_option linter.unusedVariables false
set_option linter.unusedSimpArgs false

theorem Try.infoCg : (Try.prog.info? 32).map (fun i => (i.zero, i.size, i.bytes)) = some (some (.agg #[.int .i64 0, .int .i64 0, .int .i64 0, .string ⟨#[]⟩]), 4, 40) := by kernel_rfl
def OwnCh (w : World) (B : Nat) (v : Value) (l : List Tb.Cg) : Prop := w.ownsRow B 32 4 v l.length (l.flatMap cgCells)
theorem ownCh_rd {w : World} {B : Nat} {v : Value} {l : List Tb.Cg} (h : OwnCh w B v l) : RdCh w v l := own_rd cgCells_len h
theorem ownCh_nil (w : World) (B : Nat) : OwnCh w B (.slice none 0 0) [] := World.ownsRow_nil _ _ _ _
abbrev tbC (l : Tb.Lc) (v : Value) : List Value := [.int .i64 l.shift, .int .i64 l.save, strV l.name, v]
abbrev ptC (l : Tb.Lc) (h s : Int) (v : Value) : List Value := [.int .i64 l.shift, .int .i64 l.save, strV l.name, .int .i64 h, .int .i64 s, v]
abbrev ptV (l : Tb.Lc) (h s : Int) (v : Value) : Value := .agg #[.int .i64 l.shift, .int .i64 l.save, strV l.name, .int .i64 h, .int .i64 s, v]
theorem cg_cases {c d : Tb.Cg} (h : ¬ c = d) : ¬ c.at_ = d.at_ ∨ (c.at_ = d.at_ ∧ ¬ c.lc.shift = d.lc.shift) ∨ (c.at_ = d.at_ ∧ c.lc.shift = d.lc.shift ∧ ¬ c.lc.save = d.lc.save) ∨ (c.at_ = d.at_ ∧ c.lc.shift = d.lc.shift ∧ c.lc.save = d.lc.save ∧ ¬ c.lc.name = d.lc.name) := by
  obtain ⟨a1, a2, a3, a4⟩ := c
  obtain ⟨b1, b2, b3, b4⟩ := d
  by_cases q1 : a1 = b1 <;> by_cases q2 : a2 = b2 <;> by_cases q3 : a3 = b3 <;> by_cases q4 : a4 = b4 <;> simp_all

theorem four_cells (w : World) (a b c d : Value) {e : TypeId} : ∀ (j : Nat) (x : Value), [a, b, c, d][j]? = some x → (w.alloc (.cells #[a, b, c, d] e)).cell? ((⟨w.heap.size, 0, none⟩ : Addr).add j) = some x := by
  intro j x hj
  match j, hj with
  | 0, hj => simp at hj; subst hj; simp [Addr.add]
  | 1, hj => simp at hj; subst hj; simp [Addr.add]
  | 2, hj => simp at hj; subst hj; simp [Addr.add]
  | 3, hj => simp at hj; subst hj; simp [Addr.add]
theorem put_after {w w3 : World} {X B n : Nat} {v v' : Value} {xs : List Value} {g : Tb.Lc} {h s : Int} (hP : CellsAt w X (ptC g h s v)) (hown' : w3.ownsRow B 32 4 v' n xs) (hgrow : w.grownBy w3 v.ownBlock) (hne : ∀ k, v.ownBlock = some k → k ≠ X) :
    ∃ va' cap', v' = .slice va' n cap' ∧ CellsAt w3 X (ptC g h s v) ∧ w3.cell? ⟨X, 5, none⟩ = some v ∧ w3.frozen? ⟨X, 5, none⟩ = false ∧ X < w3.heap.size := by
  obtain ⟨va', cap', e⟩ := owns_shape0 hown'
  have P3 := ca_grownO hP hgrow hne
  exact ⟨va', cap', e, P3, (ca_at P3 5 rfl).1, (ca_at P3 5 rfl).2, P3.1⟩
theorem cg_one (c : Tb.Cg) : ∀ u ∈ cgCells c, u.oneCell' = true := by
  intro u hu
  simp [cgCells] at hu
  rcases hu with rfl | rfl | rfl | rfl <;> rfl

set_option maxRecDepth 100000 in
set_option maxHeartbeats 8000000 in
theorem diffOf_any (t u : Tb.Tbl) (v v' : Value) (w : World) (h : RdCh w v t.ch) (h' : RdCh w v' u.ch) (hl : t.ch.length ≤ 1000) (hl' : u.ch.length ≤ 1000) :
    Calls Try.prog 21 #[tbV t.first v, tbV u.first v'] w fun e w' => ∃ p pv, Tb.IsDiff t u p ∧ e = .returned (ptV p.first p.head p.tail pv) ∧ OwnCh w' w.heap.size pv p.put ∧ Below w.heap.size w w' := by
  obtain ⟨f, a⟩ := t
  obtain ⟨g, b⟩ := u
  simp only at h h' hl hl' ⊢
  have HA0 := hid h
  have HB0 := hid h'
  obtain ⟨aa, acap, rfl, _⟩ := h
  obtain ⟨ba, bcap, rfl, _⟩ := h'
  obtain ⟨i0, hi, hz0, hz1, hz2⟩ := info_parts Try.infoCg
  obtain ⟨N, hN⟩ : ∃ N, w.heap.size = N := ⟨_, rfl⟩
  have HA : Hid (∀ wx, Below N w wx → RdCh wx (.slice aa a.length acap) a) := fun wx hb => rdCh_below HA0.out (by rw [hN]; exact hb)
  have HB : Hid (∀ wx, Below N w wx → RdCh wx (.slice ba b.length bcap) b) := fun wx hb => rdCh_below HB0.out (by rw [hN]; exact hb)
  clear HA0 HB0
  obtain ⟨W, hW⟩ : ∃ W, (((w.alloc (.cells (tbC f (.slice aa a.length acap)).toArray 26)).alloc (.cells (tbC g (.slice ba b.length bcap)).toArray 26)).alloc (.cells (ptC ⟨0, 0, []⟩ 0 0 (.slice none 0 0)).toArray 42)) = W := ⟨_, rfl⟩
  have B0 : Hid (Below N w W) := by
    rw [← hW, ← hN]; show Below _ _ _
    exact (((Below.refl _ _).alloc (Nat.le_refl _) _).alloc (by simp) _).alloc (by simp; omega) _
  have T0 : Hid (CellsAt W N (tbC f (.slice aa a.length acap))) := by
    rw [← hW, ← hN]; exact ca_alloc (ca_alloc (ca_new _ _ _) _) _
  have U0 : Hid (CellsAt W (N + 1) (tbC g (.slice ba b.length bcap))) := by
    rw [← hW, ← hN]; show CellsAt _ _ _
    have := ca_alloc (ca_new (w.alloc (.cells (tbC f (.slice aa a.length acap)).toArray 26)) (tbC g (.slice ba b.length bcap)) 26) (.cells (ptC ⟨0, 0, []⟩ 0 0 (.slice none 0 0)).toArray 42)
    simpa using this
  have R0 : Hid (CellsAt W (N + 1 + 1) (ptC ⟨0, 0, []⟩ 0 0 (.slice none 0 0))) := by
    rw [← hW, ← hN]; show CellsAt _ _ _
    have := ca_new ((w.alloc (.cells (tbC f (.slice aa a.length acap)).toArray 26)).alloc (.cells (tbC g (.slice ba b.length bcap)).toArray 26)) (ptC ⟨0, 0, []⟩ 0 0 (.slice none 0 0)) 42
    simpa using this
  have sW : W.heap.size = N + 1 + 1 + 1 := by rw [← hW, ← hN]; simp
  have HW := hid hW
  have HNN := hid hN
  clear hW
  go_enter Try.func21, Try.ntmps21
  go_wp2_with fail
  rw [show ((w.alloc (.cells #[.int .i64 f.shift, .int .i64 f.save, strV f.name, .slice aa a.length acap] 26)).alloc (.cells #[.int .i64 g.shift, .int .i64 g.save, strV g.name, .slice ba b.length bcap] 26)).alloc (.cells #[.int .i64 0, .int .i64 0, .string ⟨#[]⟩, .int .i64 0, .int .i64 0, .slice none 0 0] 42) = W from HW.out]
  clear HW hN
  obtain ⟨t3, k3⟩ := ca_at T0.out 3 rfl
  obtain ⟨u0, l0⟩ := ca_at U0.out 0 rfl
  obtain ⟨u1, l1⟩ := ca_at U0.out 1 rfl
  obtain ⟨u2, l2⟩ := ca_at U0.out 2 rfl
  obtain ⟨u3, l3⟩ := ca_at U0.out 3 rfl
  have st := T0.out.1
  have su := U0.out.1
  go_quiet (fail)
  go_wp2_with fail
  have B1 := hid (Below.alloc (below_drewN B0.out nq) (by simp; omega) (.cells (ptC g 0 0 (.slice none 0 0)).toArray 42))
  have T1 := hid (ca_alloc (w := W.drewN nq) T0.out (.cells (ptC g 0 0 (.slice none 0 0)).toArray 42))
  have U1 := hid (ca_alloc (w := W.drewN nq) U0.out (.cells (ptC g 0 0 (.slice none 0 0)).toArray 42))
  have R1 := hid (ca_alloc (w := W.drewN nq) R0.out (.cells (ptC g 0 0 (.slice none 0 0)).toArray 42))
  have P1 : Hid (CellsAt ((W.drewN nq).alloc (.cells (ptC g 0 0 (.slice none 0 0)).toArray 42)) (N + 1 + 1 + 1) (ptC g 0 0 (.slice none 0 0))) := by
    have := ca_new (W.drewN nq) (ptC g 0 0 (.slice none 0 0)) 42
    show CellsAt _ _ _
    rw [show (W.drewN nq).heap.size = N + 1 + 1 + 1 by simpa using sW] at this
    exact this
  clear B0 T0 U0 R0 t3 k3 u0 l0 u1 l1 u2 l2 u3 l3 st su
  go_loopg [] a.length (fun k wr => ∃ h : Nat, (k : Int) = a.length - h ∧ h ≤ a.length ∧ h ≤ b.length ∧ Hid (∀ i, i < h → a[i]? = b[i]?) ∧ Hid (Below N w wr) ∧ Hid (CellsAt wr N (tbC f (.slice aa a.length acap))) ∧ Hid (CellsAt wr (N + 1) (tbC g (.slice ba b.length bcap))) ∧ Hid (CellsAt wr (N + 1 + 1) (ptC ⟨0, 0, []⟩ 0 0 (.slice none 0 0))) ∧ Hid (CellsAt wr (N + 1 + 1 + 1) (ptC g h 0 (.slice none 0 0))))
  case atStart => exact ⟨0, by simp, by omega, by omega, by intro i hi; omega, B1, T1, U1, R1, P1⟩
  case round =>
    clear B1 T1 U1 R1 P1
    obtain ⟨h, hk, h1, h2, HS, B0, T0, U0, R0, P0⟩ := hrel
    have HK := hid hk
    clear hk
    obtain ⟨t3, k3⟩ := ca_at T0.out 3 rfl
    obtain ⟨u3, l3⟩ := ca_at U0.out 3 rfl
    obtain ⟨p3, m3⟩ := ca_at P0.out 3 rfl
    have st := T0.out.1
    have su := U0.out.1
    have sp := P0.out.1
    obtain ⟨Z, hZ⟩ : ∃ Z, (decide (h < a.length) && decide (h < b.length) && decide (a[h]? = b[h]?)) = Z := ⟨_, rfl⟩
    have HZ := hid hZ
    clear hZ
    go_upto_region 3 with fail
    go_cut [42] from 18 to 42 (fun s wc => s = .bool Z ∧ ∃ n, wc = wr.drewN n)
    case first =>
      by_cases q1 : h < a.length
      case neg =>
        have hz : Z = false := by rw [← HZ.out]; simp [q1]
        subst hz
        go_quiet (fail)
        go_wp2_with fail
        go_meet
        exact ⟨rfl, _, rfl⟩
      by_cases q2 : h < b.length
      case neg =>
        have hz : Z = false := by rw [← HZ.out]; simp [q2]
        subst hz
        go_quiet (fail)
        go_wp2_with fail
        go_meet
        exact ⟨rfl, _, rfl⟩
      obtain ⟨c, hc⟩ : ∃ c, a[h]? = some c := ⟨_, List.getElem?_eq_getElem q1⟩
      obtain ⟨d, hd⟩ : ∃ d, b[h]? = some d := ⟨_, List.getElem?_eq_getElem q2⟩
      obtain ⟨cb, co, _, e1, cl, c0, c1, c2, c3⟩ := rdCh_at (HA.out wr B0.out) hc
      obtain ⟨db, dob, _, e2, dl, d0, d1, d2, d3⟩ := rdCh_at (HB.out wr B0.out) hd
      simp only [Value.slice.injEq] at e1 e2
      obtain ⟨rfl, _, rfl⟩ := e1
      obtain ⟨rfl, _, rfl⟩ := e2
      by_cases hcd : c = d
      · have hz : Z = true := by rw [← HZ.out, hc, hd]; simp [hcd, q1, q2]
        subst hz hcd
        clear hc hd
        go_quiet (fail)
        go_wp2_with fail
        go_meet
        exact ⟨rfl, _, rfl⟩
      · have hz : Z = false := by rw [← HZ.out, hc, hd]; simp [hcd]
        subst hz
        have h4 := cg_cases hcd
        clear hc hd hcd
        obtain ⟨ca, cs, cv, cn⟩ := c
        obtain ⟨da, ds, dv, dn⟩ := d
        dsimp only at c0 c1 c2 c3 d0 d1 d2 d3 h4
        rcases h4 with h4 | ⟨rfl, h4⟩ | ⟨rfl, rfl, h4⟩ | ⟨rfl, rfl, rfl, h4⟩
        all_goals
          go_quiet (fail)
          go_wp2_with fail
          go_meet
          exact ⟨rfl, _, rfl⟩
    case rest =>
      obtain ⟨rfl, n1, rfl⟩ := hcut
      cases Z
      case true =>
        have hz := HZ.out
        simp only [Bool.and_eq_true, decide_eq_true_eq] at hz
        obtain ⟨⟨q1, q2⟩, q3⟩ := hz
        have HQ := hid q3
        clear q3 HZ
        go_wp2
        go_roundg (gk - 1)
        case measure => have := HK.out; omega
        case rel =>
          refine ⟨h + 1, by have := HK.out; omega, by omega, by omega, ?_, ?_, ?_, ?_, ?_, ?_⟩
          · intro i hi
            by_cases e : i = h
            · rw [e]; exact HQ.out
            · exact HS.out i (by omega)
          · exact below_set (below_drewN B0.out _) (by omega) _
          · exact ca_far (w := wr.drewN n1) T0.out (by omega)
          · exact ca_far (w := wr.drewN n1) U0.out (by omega)
          · exact ca_far (w := wr.drewN n1) R0.out (by omega)
          · have := ca_put (w := wr.drewN n1) P0.out 3 (.int .i64 ((h : Int) + 1)) (by simp)
            show CellsAt _ _ _
            rw [show ((h + 1 : Nat) : Int) = (h : Int) + 1 by omega]
            exact this
      case false =>
        have PR : Hid (Tb.IsPre a b h) := ⟨h1, h2, HS.out, fun q1 q2 q3 => by have := HZ.out; rw [decide_eq_true q1, decide_eq_true q2, decide_eq_true q3] at this; cases this⟩
        clear HZ HS HK t3 k3 u3 l3 p3 m3 st su sp
        go_wp2_with fail
        have B1 : Hid (Below N w (wr.drewN n1)) := below_drewN B0.out _
        have T1 : Hid (CellsAt (wr.drewN n1) N (tbC f (.slice aa a.length acap))) := T0
        have U1 : Hid (CellsAt (wr.drewN n1) (N + 1) (tbC g (.slice ba b.length bcap))) := U0
        have R1 : Hid (CellsAt (wr.drewN n1) (N + 1 + 1) (ptC ⟨0, 0, []⟩ 0 0 (.slice none 0 0))) := R0
        have P1 : Hid (CellsAt (wr.drewN n1) (N + 1 + 1 + 1) (ptC g h 0 (.slice none 0 0))) := P0
        clear B0 T0 U0 R0 P0
        go_loopg [] a.length (fun k wr => ∃ s : Nat, (k : Int) = a.length - s ∧ h + s ≤ a.length ∧ h + s ≤ b.length ∧ Hid (∀ i, i < s → a[a.length - 1 - i]? = b[b.length - 1 - i]?) ∧ Hid (Below N w wr) ∧ Hid (CellsAt wr N (tbC f (.slice aa a.length acap))) ∧ Hid (CellsAt wr (N + 1) (tbC g (.slice ba b.length bcap))) ∧ Hid (CellsAt wr (N + 1 + 1) (ptC ⟨0, 0, []⟩ 0 0 (.slice none 0 0))) ∧ Hid (CellsAt wr (N + 1 + 1 + 1) (ptC g h s (.slice none 0 0))))
        case atStart => exact ⟨0, by simp, by omega, by omega, by intro i hi; omega, B1, T1, U1, R1, P1⟩
        case round =>
          clear B1 T1 U1 R1 P1
          obtain ⟨s, hk, h3, h4, HS, B0, T0, U0, R0, P0⟩ := hrel
          have HK := hid hk
          clear hk
          obtain ⟨t3, k3⟩ := ca_at T0.out 3 rfl
          obtain ⟨u3, l3⟩ := ca_at U0.out 3 rfl
          obtain ⟨p3, m3⟩ := ca_at P0.out 3 rfl
          obtain ⟨p4, m4⟩ := ca_at P0.out 4 rfl
          have st := T0.out.1
          have su := U0.out.1
          have sp := P0.out.1
          obtain ⟨Z, hZ⟩ : ∃ Z, (decide (h + s < a.length) && decide (h + s < b.length) && decide (a[a.length - 1 - s]? = b[b.length - 1 - s]?)) = Z := ⟨_, rfl⟩
          have HZ := hid hZ
          clear hZ
          go_upto_region 5 with fail
          go_cut [83] from 47 to 83 (fun s wc => s = .bool Z ∧ ∃ n, wc = wr.drewN n)
          case first =>
            by_cases q1 : h + s < a.length
            case neg =>
              have hz : Z = false := by rw [← HZ.out, decide_eq_false q1]; rfl
              have q1' : ¬ (h : Int) + s < a.length := by omega
              subst hz
              go_quiet (fail)
              go_wp2_with fail
              go_meet
              exact ⟨rfl, _, rfl⟩
            by_cases q2 : h + s < b.length
            case neg =>
              have hz : Z = false := by rw [← HZ.out, decide_eq_false q2]; simp
              have q1' : (h : Int) + s < a.length := by omega
              have q2' : ¬ (h : Int) + s < b.length := by omega
              subst hz
              go_quiet (fail)
              go_wp2_with fail
              go_meet
              exact ⟨rfl, _, rfl⟩
            obtain ⟨x, hx⟩ : ∃ x, a.length - 1 - s = x := ⟨_, rfl⟩
            obtain ⟨y, hy⟩ : ∃ y, b.length - 1 - s = y := ⟨_, rfl⟩
            rw [hx, hy] at HZ
            have qx : x < a.length := by omega
            have qy : y < b.length := by omega
            have ex : (a.length : Int) - 1 - s = x := by omega
            have ey : (b.length : Int) - 1 - s = y := by omega
            have q1' : (h : Int) + s < a.length := by omega
            have q2' : (h : Int) + s < b.length := by omega
            clear hx hy
            obtain ⟨c, hc⟩ : ∃ c, a[x]? = some c := ⟨_, List.getElem?_eq_getElem qx⟩
            obtain ⟨d, hd⟩ : ∃ d, b[y]? = some d := ⟨_, List.getElem?_eq_getElem qy⟩
            obtain ⟨cb, co, _, e1, cl, c0, c1, c2, c3⟩ := rdCh_at (HA.out wr B0.out) hc
            obtain ⟨db, dob, _, e2, dl, d0, d1, d2, d3⟩ := rdCh_at (HB.out wr B0.out) hd
            simp only [Value.slice.injEq] at e1 e2
            obtain ⟨rfl, _, rfl⟩ := e1
            obtain ⟨rfl, _, rfl⟩ := e2
            by_cases hcd : c = d
            · have hz : Z = true := by rw [← HZ.out, hc, hd, decide_eq_true q1, decide_eq_true q2]; simp [hcd]
              subst hz hcd
              clear hc hd
              go_quiet (fail)
              go_wp2_with fail
              go_meet
              exact ⟨rfl, _, rfl⟩
            · have hz : Z = false := by rw [← HZ.out, hc, hd]; simp [hcd]
              subst hz
              have h4 := cg_cases hcd
              clear hc hd hcd
              obtain ⟨ca, cs, cv, cn⟩ := c
              obtain ⟨da, ds, dv, dn⟩ := d
              dsimp only at c0 c1 c2 c3 d0 d1 d2 d3 h4
              rcases h4 with h4 | ⟨rfl, h4⟩ | ⟨rfl, rfl, h4⟩ | ⟨rfl, rfl, rfl, h4⟩
              all_goals
                go_quiet (fail)
                go_wp2_with fail
                go_meet
                exact ⟨rfl, _, rfl⟩
          case rest =>
            obtain ⟨rfl, n2, rfl⟩ := hcut
            cases Z
            case true =>
              have hz := HZ.out
              simp only [Bool.and_eq_true, decide_eq_true_eq] at hz
              obtain ⟨⟨q1, q2⟩, q3⟩ := hz
              have HQ := hid q3
              clear q3 HZ
              go_wp2
              go_roundg (gk - 1)
              case measure => have := HK.out; omega
              case rel =>
                refine ⟨s + 1, by have := HK.out; omega, by omega, by omega, ?_, ?_, ?_, ?_, ?_, ?_⟩
                · intro i hi
                  by_cases e : i = s
                  · rw [e]; exact HQ.out
                  · exact HS.out i (by omega)
                · exact below_set (below_drewN B0.out _) (by omega) _
                · exact ca_far (w := wr.drewN n2) T0.out (by omega)
                · exact ca_far (w := wr.drewN n2) U0.out (by omega)
                · exact ca_far (w := wr.drewN n2) R0.out (by omega)
                · have := ca_put (w := wr.drewN n2) P0.out 4 (.int .i64 ((s : Int) + 1)) (by simp)
                  show CellsAt _ _ _
                  rw [show ((s + 1 : Nat) : Int) = (s : Int) + 1 by omega]
                  exact this
            case false =>
              have SF : Hid (Tb.IsSuf a b h s) := ⟨h3, h4, HS.out, fun q1 q2 q3 => by have := HZ.out; rw [decide_eq_true q1, decide_eq_true q2, decide_eq_true q3] at this; cases this⟩
              have B1 : Hid (Below N w (wr.drewN n2)) := below_drewN B0.out _
              have T1 : Hid (CellsAt (wr.drewN n2) N (tbC f (.slice aa a.length acap))) := T0
              have U1 : Hid (CellsAt (wr.drewN n2) (N + 1) (tbC g (.slice ba b.length bcap))) := U0
              have R1 : Hid (CellsAt (wr.drewN n2) (N + 1 + 1) (ptC ⟨0, 0, []⟩ 0 0 (.slice none 0 0))) := R0
              have P1 : Hid (CellsAt (wr.drewN n2) (N + 1 + 1 + 1) (ptC g h s (.slice none 0 0))) := P0
              have O1 : Hid (OwnCh (wr.drewN n2) (N + 1 + 1 + 1 + 1) (.slice none 0 0) ((b.drop h).take (h - h))) := by rw [Nat.sub_self, List.take_zero]; exact ownCh_nil _ _
              clear HZ HS HK
              go_wp2_with fail
              clear B0 T0 U0 R0 P0 t3 k3 u3 l3 p3 m3 p4 m4 st su sp
              go_loopw [8] (fun iv wr => ∃ (i : Nat) (pv : Value), iv = .int .i64 i ∧ h ≤ i ∧ i ≤ b.length - s ∧ N + 1 + 1 + 1 + 1 ≤ wr.heap.size ∧ Hid (OwnCh wr (N + 1 + 1 + 1 + 1) pv ((b.drop h).take (i - h))) ∧ Hid (Below N w wr) ∧ Hid (CellsAt wr N (tbC f (.slice aa a.length acap))) ∧ Hid (CellsAt wr (N + 1) (tbC g (.slice ba b.length bcap))) ∧ Hid (CellsAt wr (N + 1 + 1) (ptC ⟨0, 0, []⟩ 0 0 (.slice none 0 0))) ∧ Hid (CellsAt wr (N + 1 + 1 + 1) (ptC g h s pv))) (fun iv _ => b.length - (intOf iv).toNat)
              case atStart => exact ⟨h, _, rfl, by omega, by omega, P1.out.1, O1, B1, T1, U1, R1, P1⟩
              case round =>
                clear B1 T1 U1 R1 P1 O1
                obtain ⟨i, pv, rfl, i1, i2, sz, O0, B0, T0, U0, R0, P0⟩ := hrel
                obtain ⟨L, hL⟩ : ∃ L, (b.drop h).take (i - h) = L := ⟨_, rfl⟩
                rw [hL] at O0
                have hLl : L.length ≤ 1000 := by rw [← hL]; simp; omega
                obtain ⟨va, vcap, rfl⟩ := owns_shape0 O0.out
                have HL := hid hL
                clear hL
                obtain ⟨u3, l3⟩ := ca_at U0.out 3 rfl
                obtain ⟨p4, m4⟩ := ca_at P0.out 4 rfl
                obtain ⟨p5, m5⟩ := ca_at P0.out 5 rfl
                have su := U0.out.1
                have sp := P0.out.1
                by_cases q : i < b.length - s
                case neg =>
                  have q' : ¬ (i : Int) < b.length - s := by omega
                  obtain ⟨p0, m0⟩ := ca_at P0.out 0 rfl
                  obtain ⟨p1, m1⟩ := ca_at P0.out 1 rfl
                  obtain ⟨p2, m2⟩ := ca_at P0.out 2 rfl
                  obtain ⟨p3, m3⟩ := ca_at P0.out 3 rfl
                  obtain ⟨r0, n0⟩ := ca_at R0.out 0 rfl
                  obtain ⟨r1, n1⟩ := ca_at R0.out 1 rfl
                  obtain ⟨r2, n2⟩ := ca_at R0.out 2 rfl
                  obtain ⟨r3, n3⟩ := ca_at R0.out 3 rfl
                  obtain ⟨r4, n4⟩ := ca_at R0.out 4 rfl
                  obtain ⟨r5, n5⟩ := ca_at R0.out 5 rfl
                  have sr := R0.out.1
                  go_wp2
                  refine bodyPost_ret (v := ptV g h s (.slice va L.length vcap)) (by simp [results, Try.results21, go_sem, *]) rfl ?_
                  have hid' : Tb.IsDiff ⟨f, a⟩ ⟨g, b⟩ ⟨g, h, s, Tb.mid b h s⟩ := ⟨rfl, h, s, rfl, rfl, PR.out, SF.out, rfl⟩
                  have hLm : Tb.mid b h s = L := by rw [← HL.out, Tb.mid, show b.length - s - h = i - h by omega]
                  refine ⟨⟨g, h, s, Tb.mid b h s⟩, hid', .slice va L.length vcap, rfl, ?_, ?_⟩
                  · simp only
                    rw [hLm]
                    have o1 : OwnCh wr w.heap.size (.slice va L.length vcap) L := owns_base O0.out (by rw [HNN.out]; omega)
                    have ne : ∀ o, Value.ownBlock (.slice va L.length vcap) ≠ some (⟨N + 1 + 1, o, none⟩ : Addr).block := by
                      intro o q
                      have := (O0.out.lt _ q).1
                      simp at this
                      omega
                    repeat (refine ownsRow_setCell_other ?_ (ne _) _)
                    exact o1
                  · rw [HNN.out]
                    repeat (refine below_set ?_ (by omega) _)
                    exact B0.out
                have q' : (i : Int) < b.length - s := by omega
                obtain ⟨d, hd⟩ : ∃ d, b[i]? = some d := ⟨_, List.getElem?_eq_getElem (by omega)⟩
                obtain ⟨db, dob, _, e2, dl, d0, d1, d2, d3⟩ := rdCh_at (HB.out wr B0.out) hd
                simp only [Value.slice.injEq] at e2
                obtain ⟨rfl, _, rfl⟩ := e2
                have HD := hid hd
                have qb : i < b.length := by omega
                clear hd
                go_wp2_with fail
                have PA := ca_alloc P0.out (.cells #[.int .i64 d.at_, .int .i64 d.lc.shift, .int .i64 d.lc.save, strV d.lc.name] 32)
                have ne3 : ∀ k, Value.ownBlock (.slice va L.length vcap) = some k → k ≠ N + 1 + 1 + 1 := fun k hk => by have := (O0.out.lt k hk).1; omega
                go_region_law (refine step_append_own rfl (.tmp 99) (.tmp 105) 24 rfl (N + 1 + 1 + 1 + 1) 32 i0 (.agg #[.int .i64 0, .int .i64 0, .int .i64 0, .string ⟨#[]⟩]) 4 40 Try.underlying24 hi hz0 hz1 hz2 rfl (by decide) _ _ _ (by simp [Act.eval, Act.put]) (World.ownsRow.alloc O0.out _) _ 1 1 (cgCells d) (by simp [Act.eval, Act.put]) rfl (four_cells _ _ _ _ _) (cg_one d) (by unfold maxLen; omega) (by omega) (by simp; omega) ?_; intro v' w3 hown' hgrow; have hg2 : World.grownBy (wr.alloc (.cells #[.int .i64 d.at_, .int .i64 d.lc.shift, .int .i64 d.lc.save, strV d.lc.name] 32)) w3 (Value.ownBlock (.slice va L.length vcap)) := ⟨hgrow.os, hgrow.tape, hgrow.output, hgrow.size, hgrow.block⟩; obtain ⟨va', vcap', rfl, P3, p5', m5', sp3⟩ := put_after PA hown' hg2 ne3)
                all_goals
                  have neX : ∀ X, X < N + 1 + 1 + 1 + 1 → ∀ k, Value.ownBlock (.slice va L.length vcap) = some k → k ≠ X := fun X hX k hk => by have := (O0.out.lt k hk).1; omega
                  have B3 : Hid (Below N w w3) := Below.grown (B0.out.alloc (by omega) _) hg2 (by simp; omega) (fun k hk => by have := (O0.out.lt k hk).1; omega)
                  have T3 := hid (ca_grownO (ca_alloc T0.out _) hg2 (neX _ (by omega)))
                  have U3 := hid (ca_grownO (ca_alloc U0.out _) hg2 (neX _ (by omega)))
                  have R3 := hid (ca_grownO (ca_alloc R0.out _) hg2 (neX _ (by omega)))
                  have O3 : Hid (OwnCh w3 (N + 1 + 1 + 1 + 1) (.slice va' (L.length + 1) vcap') (L ++ [d])) := by show World.ownsRow _ _ _ _ _ _ _; simpa using hown'
                  have P4 := hid (ca_put P3 5 (.slice va' (L.length + 1) vcap') (by simp))
                  have z3 : N + 1 + 1 + 1 + 1 ≤ w3.heap.size := by have := hg2.size; simp at this; omega
                  have ne5 : Value.ownBlock (.slice va' (L.length + 1) vcap') ≠ some (⟨N + 1 + 1 + 1, 5, none⟩ : Addr).block := by
                    intro q
                    have := (O3.out.lt _ q).1
                    simp at this
                    omega
                  have O4 := hid (ownsRow_setCell_other O3.out ne5 (.slice va' (L.length + 1) vcap'))
                  clear hgrow hown' hg2 P3 p5' m5' sp3 PA ne3 neX O0 B0 T0 U0 R0 P0 u3 l3 p4 m4 p5 m5 su sp d0 d1 d2 d3 dl O3 ne5
                  go_wp2
                  go_roundw
                  case rel =>
                    refine ⟨i + 1, .slice va' (L.length + 1) vcap', by go_num, by omega, by omega, by simpa using z3, ?_, ?_, ?_, ?_, ?_, ?_⟩
                    · show OwnCh _ _ _ _
                      rw [Tb.mid_snoc i1 HD.out, HL.out]
                      exact O4.out
                    · exact below_set B3.out (by omega) _
                    · exact ca_far T3.out (by omega)
                    · exact ca_far U3.out (by omega)
                    · exact ca_far R3.out (by omega)
                    · exact P4.out
                  case measure => simp [intOf]; omega
end Go.Proofs.Ytombhnjmelidcaa
