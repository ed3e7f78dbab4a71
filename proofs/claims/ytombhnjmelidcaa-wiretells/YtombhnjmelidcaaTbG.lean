/- The contract of the document's ApplyOf. -/
import Derived.Test.YtombhnjmelidcaaTbE
import Derived.Test.YtombhnjmelidcaaTbC
namespace Go.Proofs.Ytombhnjmelidcaa
open Go.RowKit
set_option linter.unusedVariables false
set_option linter.unusedSimpArgs false

theorem applyE_fit {t : Tb.Tbl} {p : Tb.Pt} (h : ¬ (0 ≤ p.head ∧ 0 ≤ p.tail ∧ p.head ≤ t.ch.length ∧ p.tail ≤ t.ch.length - p.head)) : Tb.applyE t p = 3 := by
  unfold Tb.applyE Tb.fitsB
  rw [if_pos (decide_eq_false h)]
theorem applyE_many {t : Tb.Tbl} {p : Tb.Pt} (h : 0 ≤ p.head ∧ 0 ≤ p.tail ∧ p.head ≤ t.ch.length ∧ p.tail ≤ t.ch.length - p.head) (h2 : 1000 < p.put.length) : Tb.applyE t p = 2 := by
  unfold Tb.applyE Tb.fitsB
  rw [if_neg (by rw [decide_eq_true h]; simp), if_pos h2]
theorem applyE_ok {t : Tb.Tbl} {p : Tb.Pt} (h : 0 ≤ p.head ∧ 0 ≤ p.tail ∧ p.head ≤ t.ch.length ∧ p.tail ≤ t.ch.length - p.head) (h2 : ¬ 1000 < p.put.length) : Tb.applyE t p = Tb.tableE (Tb.applied t p) := by
  unfold Tb.applyE Tb.fitsB
  rw [if_neg (by rw [decide_eq_true h]; simp), if_neg h2]
theorem flat_len (l : List Tb.Cg) : (l.flatMap cgCells).length = l.length * 4 := by
  induction l with
  | nil => rfl
  | cons x r ih => rw [List.flatMap_cons, List.length_append, ih, cgCells_len]; simp; omega
/- cells of a list that is read, in a row -/
theorem rdCh_cells {w : World} {a : Option Addr} {n cap : Nat} {l : List Tb.Cg} (h : RdCh w (.slice a n cap) l) : ∀ ad, a = some ad → ∀ j u, (l.flatMap cgCells)[j]? = some u → w.cell? (ad.add j) = some u := by
  intro ad e j u hj
  subst e
  by_cases hn : l = []
  · subst hn; simp at hj
  obtain ⟨a', cap', e1, h2⟩ := h
  obtain ⟨b, o, e2, _, hc⟩ := h2 hn
  simp only [Value.slice.injEq] at e1
  obtain ⟨rfl, _, _⟩ := e1
  simp only [Option.some.injEq] at e2
  subst e2
  have hlen := flat_len l
  have hj' := (List.getElem?_eq_some_iff.1 hj).1
  rw [hlen] at hj'
  obtain ⟨x, hx⟩ : ∃ x, l[j / 4]? = some x := ⟨_, List.getElem?_eq_getElem (by omega)⟩
  have hk : ∃ y, (cgCells x)[j % 4]? = some y := ⟨_, List.getElem?_eq_getElem (by rw [cgCells_len]; omega)⟩
  obtain ⟨y, hy⟩ := hk
  have := flat_get cgCells cgCells_len l (j / 4) x hx (j % 4) y hy
  rw [show j / 4 * 4 + j % 4 = j by omega, hj] at this
  simp at this
  subst this
  have := hc (j / 4) x hx (j % 4) u hy
  rw [show o + j / 4 * 4 + j % 4 = o + j by omega] at this
  unfold Addr.add
  split
  · rename_i q
    have q' : j = 0 := by simpa using q
    rw [q'] at this
    exact this
  · exact this
theorem flat_one (l : List Tb.Cg) : ∀ u ∈ l.flatMap cgCells, u.oneCell' = true := by
  intro u hu
  obtain ⟨c, _, hc⟩ := List.mem_flatMap.1 hu
  exact cg_one c u hc
theorem rdCh_len {w : World} {a : Option Addr} {n cap : Nat} {l : List Tb.Cg} (h : RdCh w (.slice a n cap) l) : n = l.length := by
  obtain ⟨a', cap', e1, h2⟩ := h
  simp only [Value.slice.injEq] at e1
  exact e1.2.1
theorem put_afterT {w w3 : World} {X B n : Nat} {v v' : Value} {xs : List Value} {g : Tb.Lc} (hP : CellsAt w X (tbC g v)) (hown' : w3.ownsRow B 32 4 v' n xs) (hgrow : w.grownBy w3 v.ownBlock) (hne : ∀ k, v.ownBlock = some k → k ≠ X) :
    ∃ va' cap', v' = .slice va' n cap' ∧ CellsAt w3 X (tbC g v) ∧ w3.cell? ⟨X, 3, none⟩ = some v ∧ w3.frozen? ⟨X, 3, none⟩ = false ∧ X < w3.heap.size := by
  obtain ⟨va', cap', e⟩ := owns_shape0 hown'
  have P3 := ca_grownO hP hgrow hne
  exact ⟨va', cap', e, P3, (ca_at P3 3 rfl).1, (ca_at P3 3 rfl).2, P3.1⟩
theorem rdCh_nil {w : World} {a : Option Addr} {n cap : Nat} {l : List Tb.Cg} (h : RdCh w (.slice a n cap) l) : a = none → n = 0 := by
  intro e
  subst e
  obtain ⟨a', cap', e1, h2⟩ := h
  simp only [Value.slice.injEq] at e1
  obtain ⟨rfl, rfl, _⟩ := e1
  by_cases hn : l = []
  · rw [hn]; rfl
  · obtain ⟨b, o, e2, _⟩ := h2 hn
    cases e2
/- a part of a list that is read -/
theorem rdCh_take {w : World} {a : Option Addr} {cap c' : Nat} {l : List Tb.Cg} (h : RdCh w (.slice a l.length cap) l) (k : Nat) (hk : k ≤ l.length) : RdCh w (.slice a k c') (l.take k) := by
  obtain ⟨a', cap', e1, h2⟩ := h
  simp only [Value.slice.injEq] at e1
  obtain ⟨rfl, _, _⟩ := e1
  refine ⟨a, c', by rw [List.length_take, Nat.min_eq_left hk], fun hn => ?_⟩
  obtain ⟨b, o, e2, hb, hc⟩ := h2 (by intro q; rw [q] at hn; simp at hn)
  exact ⟨b, o, e2, hb, fun i x hx j u hu => hc i x (by rw [List.getElem?_take] at hx; split at hx; exact hx; cases hx) j u hu⟩
theorem rdCh_drop {w : World} {b o cap c' : Nat} {l : List Tb.Cg} (h : RdCh w (.slice (some ⟨b, o, none⟩) l.length cap) l) (k m : Nat) (hk : k + m = l.length) : RdCh w (.slice (some ⟨b, o + k * 4, none⟩) m c') (l.drop k) := by
  obtain ⟨a', cap', e1, h2⟩ := h
  simp only [Value.slice.injEq] at e1
  obtain ⟨rfl, _, _⟩ := e1
  refine ⟨_, c', by rw [List.length_drop, show l.length - k = m by omega], fun hn => ?_⟩
  obtain ⟨b', o', e2, hb, hc⟩ := h2 (by intro q; rw [q] at hn; simp at hn)
  simp only [Option.some.injEq, Addr.mk.injEq] at e2
  obtain ⟨rfl, rfl, _⟩ := e2
  refine ⟨b, o + k * 4, rfl, hb, fun i x hx j u hu => ?_⟩
  rw [List.getElem?_drop] at hx
  have := hc (k + i) x hx j u hu
  rw [show o + k * 4 + i * 4 + j = o + (k + i) * 4 + j by omega]
  exact this
/- a table that is gathered: boxes of what was handed in, what is to come back, what is gathered -/
structure ApSt (w : World) (N : Nat) (f g : Tb.Lc) (av pv : Value) (h s : Int) (wc : World) (v : Value) (L : List Tb.Cg) : Prop where
  own : OwnCh wc (N + 1 + 1 + 1 + 1) v L
  bel : Below N w wc
  t : CellsAt wc N (tbC f av)
  p : CellsAt wc (N + 1) (ptC g h s pv)
  r : CellsAt wc (N + 1 + 1) (tbC ⟨0, 0, []⟩ (.slice none 0 0))
  u : CellsAt wc (N + 1 + 1 + 1) (tbC g v)
section
variable {w : World} {N : Nat} {f g : Tb.Lc} {av pv : Value} {h s : Int} {wc w3 : World} {v v' : Value} {L L1 : List Tb.Cg}
theorem apSt_ne (H : ApSt w N f g av pv h s wc v L) (X : Nat) (hX : X < N + 1 + 1 + 1 + 1) : ∀ k, v.ownBlock = some k → k ≠ X := fun k hk => by have := (H.own.lt k hk).1; omega
theorem apSt_app {n : Nat} (H : ApSt w N f g av pv h s wc v L) (ho : w3.ownsRow (N + 1 + 1 + 1 + 1) 32 4 v' n (L.flatMap cgCells ++ L1.flatMap cgCells)) (hn : n = L.length + L1.length) (hg : wc.grownBy w3 v.ownBlock) : ApSt w N f g av pv h s (w3.setCell ⟨N + 1 + 1 + 1, 3, none⟩ v') v' (L ++ L1) := by
  have hz := H.u.1
  have o3 : OwnCh w3 (N + 1 + 1 + 1 + 1) v' (L ++ L1) := by subst hn; show World.ownsRow _ _ _ _ _ _ _; simpa using ho
  have b3 : Below N w w3 := Below.grown H.bel hg (by omega) (fun k hk => by have := (H.own.lt k hk).1; omega)
  refine ⟨ownsRow_setCell_other o3 ?_ _, below_set b3 (by omega) _, ca_far (ca_grownO H.t hg (apSt_ne H _ (by omega))) (by omega), ca_far (ca_grownO H.p hg (apSt_ne H _ (by omega))) (by omega), ca_far (ca_grownO H.r hg (apSt_ne H _ (by omega))) (by omega), ?_⟩
  · intro q
    have := (o3.lt _ q).1
    simp at this
    omega
  · exact ca_put (ca_grownO H.u hg (apSt_ne H _ (by omega))) 3 v' (by simp)
theorem apSt_arm {n : Nat} {xs : List Value} (H : ApSt w N f g av pv h s wc v L) (ho : w3.ownsRow (N + 1 + 1 + 1 + 1) 32 4 v' n xs) (hg : wc.grownBy w3 v.ownBlock) :
    ∃ va' cap', v' = .slice va' n cap' ∧ w3.cell? ⟨N + 1 + 1 + 1, 3, none⟩ = some v ∧ w3.frozen? ⟨N + 1 + 1 + 1, 3, none⟩ = false ∧ N + 1 + 1 + 1 < w3.heap.size := by
  obtain ⟨va', cap', e, _, a, b, c⟩ := put_afterT H.u ho hg (apSt_ne H _ (by omega))
  exact ⟨va', cap', e, a, b, c⟩
end
end Go.Proofs.Ytombhnjmelidcaa
