/- From one table to another, in plain terms: what is applied leads there; nothing that leads there puts fewer. -/
import Derived.Test.YtombhnjmelidcaaTbD
namespace Go.Proofs.Ytombhnjmelidcaa.Tb
set_option linter.unusedVariables false
set_option linter.unusedSimpArgs false

theorem take_same {a b : List Cg} {h : Nat} (ha : h ≤ a.length) (hb : h ≤ b.length) (e : ∀ i, i < h → a[i]? = b[i]?) : a.take h = b.take h := by
  apply List.ext_getElem?
  intro i
  rw [List.getElem?_take, List.getElem?_take]
  split
  · rename_i q; exact e i q
  · rfl
theorem drop_same {a b : List Cg} {s : Nat} (ha : s ≤ a.length) (hb : s ≤ b.length) (e : ∀ i, i < s → a[a.length - 1 - i]? = b[b.length - 1 - i]?) : a.drop (a.length - s) = b.drop (b.length - s) := by
  apply List.ext_getElem?
  intro i
  rw [List.getElem?_drop, List.getElem?_drop]
  by_cases q : i < s
  · have := e (s - 1 - i) (by omega)
    rw [show a.length - s + i = a.length - 1 - (s - 1 - i) by omega, show b.length - s + i = b.length - 1 - (s - 1 - i) by omega]
    exact this
  · rw [List.getElem?_eq_none (by omega), List.getElem?_eq_none (by omega)]
theorem three_parts (b : List Cg) (h s : Nat) (hs : h + s ≤ b.length) : b.take h ++ mid b h s ++ b.drop (b.length - s) = b := by
  have e : b.drop (b.length - s) = (b.drop h).drop (b.length - s - h) := by rw [List.drop_drop]; congr 1; omega
  rw [mid, e, List.append_assoc, List.take_append_drop, List.take_append_drop]
theorem diff_applied {t u : Tbl} {p : Pt} (hd : IsDiff t u p) : applied t p = u := by
  obtain ⟨h, s, e1, e2, hp, hs, e3⟩ := hd.parts
  have f := hd.first
  obtain ⟨g, H, T, put⟩ := p
  simp only at e1 e2 e3 f
  subst e1 e2 e3 f
  unfold applied
  simp only [Int.toNat_natCast]
  have l1 := hs.la
  have l2 := hs.lb
  rw [take_same hp.la hp.lb hp.same, drop_same (by omega) (by omega) hs.same, three_parts _ _ _ l2]
theorem diff_fits {t u : Tbl} {p : Pt} (hd : IsDiff t u p) : 0 ≤ p.head ∧ 0 ≤ p.tail ∧ p.head ≤ t.ch.length ∧ p.tail ≤ t.ch.length - p.head ∧ p.put.length ≤ u.ch.length ∧ (∀ c ∈ p.put, c ∈ u.ch) := by
  obtain ⟨h, s, e1, e2, hp, hs, e3⟩ := hd.parts
  have l1 := hs.la
  rw [e1, e2, e3]
  refine ⟨by omega, by omega, by omega, by omega, by simp [mid]; omega, fun c hc => ?_⟩
  exact List.mem_of_mem_drop (List.mem_of_mem_take hc)
theorem diff_applyE {t u : Tbl} {p : Pt} (hd : IsDiff t u p) (hl : u.ch.length ≤ 1000) : applyE t p = tableE u := by
  obtain ⟨a, b, c, d, e, _⟩ := diff_fits hd
  unfold applyE fitsB
  rw [if_neg (by rw [decide_eq_true ⟨a, b, c, d⟩]; simp), if_neg (by omega), diff_applied hd]
theorem diff_self {t : Tbl} {p : Pt} (hd : IsDiff t t p) : p.put = [] ∧ p.head = t.ch.length := by
  obtain ⟨h, s, e1, e2, hp, hs, e3⟩ := hd.parts
  have q : IsPre t.ch t.ch t.ch.length := ⟨Nat.le_refl _, Nat.le_refl _, fun _ _ => rfl, fun q => by omega⟩
  have e := pre_unique hp q
  subst e
  refine ⟨?_, e1⟩
  rw [e3, mid, List.drop_length, List.take_nil]
/- whatever leads there puts no fewer -/
theorem diff_least {t : Tbl} {p q : Pt} (hf : 0 ≤ p.head ∧ 0 ≤ p.tail ∧ p.head ≤ t.ch.length ∧ p.tail ≤ t.ch.length - p.head) (hd : IsDiff t (applied t p) q) : q.put.length ≤ p.put.length ∧ q.first = p.first := by
  obtain ⟨h, s, e1, e2, hp, hs, e3⟩ := hd.parts
  refine ⟨?_, hd.first⟩
  obtain ⟨g, H, T, put⟩ := p
  simp only at hf
  obtain ⟨H, rfl⟩ := Int.eq_ofNat_of_zero_le hf.1
  obtain ⟨T, rfl⟩ := Int.eq_ofNat_of_zero_le hf.2.1
  have hHT : H + T ≤ t.ch.length := by omega
  have el : (applied t ⟨g, H, T, put⟩).ch = t.ch.take H ++ put ++ t.ch.drop (t.ch.length - T) := by simp [applied]
  obtain ⟨u, hu⟩ : ∃ u, (applied t ⟨g, H, T, put⟩).ch = u := ⟨_, rfl⟩
  rw [hu] at el hp hs e3
  have lu : u.length = H + put.length + T := by rw [el]; simp; omega
  have s1 : ∀ i, i < H → t.ch[i]? = u[i]? := fun i hi => by
    rw [el, List.append_assoc, List.getElem?_append_left (by simp; omega), List.getElem?_take_of_lt hi]
  have s2 : ∀ i, i < T → t.ch[t.ch.length - 1 - i]? = u[u.length - 1 - i]? := fun i hi => by
    have l3 : (t.ch.take H ++ put).length = H + put.length := by simp; omega
    conv => rhs; rw [el]
    rw [List.getElem?_append_right (by rw [l3]; simp; omega), l3, List.getElem?_drop]
    congr 1
    simp
    omega
  have hh : H ≤ h := by
    by_cases q : H ≤ h
    · exact q
    · exact absurd (s1 h (by omega)) (hp.stop (by omega) (by omega))
  have hq : H + T ≤ h + s := by
    by_cases q : T ≤ s
    · omega
    · by_cases q2 : h + s < t.ch.length
      · by_cases q3 : h + s < u.length
        · exact absurd (s2 s (by omega)) (hs.stop q2 q3)
        · omega
      · omega
  rw [e3]
  simp [mid]
  have := hs.lb
  omega
end Go.Proofs.Ytombhnjmelidcaa.Tb
