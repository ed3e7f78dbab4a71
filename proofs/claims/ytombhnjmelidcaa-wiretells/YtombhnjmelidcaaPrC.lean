/- Contracts of the program's table.checkChange and table.Check. -/
import Derived.Test.YtombhnjmelidcaaPrB
namespace Go.Proofs.Ytombhnjmelidcaa
open Go.RowKit
set_option linter.unusedVariables false
set_option linter.unusedSimpArgs false

/- what is wrong with a change, behind one -/
def chgE (was : Tb.Lc) (p : Int) (c : Tb.Cg) : Int := if Tb.inYears c.at_ = false then 3 else if c.at_ ≤ p then 4 else if Tb.localE c.lc ≠ 0 then Tb.localE c.lc else if c.lc = was then 4 else 0
theorem two_boxes (w : World) (a b : List Value) (t : TypeId) {V : World} (hV : (w.alloc (.cells a.toArray t)).alloc (.cells b.toArray t) = V) :
    CellsAt V w.heap.size a ∧ CellsAt V (w.heap.size + 1) b ∧ Below w.heap.size w V := by
  subst hV
  refine ⟨ca_alloc (ca_new _ _ _) _, ?_, ((Below.refl _ _).alloc (Nat.le_refl _) _).alloc (by simp) _⟩
  have := ca_new (w.alloc (.cells a.toArray t)) b t
  simpa using this
set_option maxRecDepth 100000 in
set_option maxHeartbeats 2000000 in
theorem checkChange_any (p : Int) (o : Tb.Lc) (c : Tb.Cg) (w : World) (hn : c.lc.name.length ≤ maxLen) :
    Calls Try.prog 40 #[cgV ⟨p, o⟩, cgV c] w fun e w' => e = .returned (.int .i64 (chgE o p c)) ∧ Below w.heap.size w w' := by
  obtain ⟨ca, cl⟩ := c
  obtain ⟨R, hR⟩ : ∃ R, chgE o p ⟨ca, cl⟩ = R := ⟨_, rfl⟩
  rw [hR]
  have HR : Hid (R = if Tb.inYears ca = false then 3 else if ca ≤ p then 4 else if Tb.localE cl ≠ 0 then Tb.localE cl else if cl = o then 4 else 0) := by show _ = _; rw [← hR]; rfl
  have HN : Hid (cl.name.length ≤ maxLen) := hn
  clear hR hn
  obtain ⟨V, hV⟩ : ∃ V, (w.alloc (.cells (cgCells ⟨p, o⟩).toArray 32)).alloc (.cells (cgCells ⟨ca, cl⟩).toArray 32) = V := ⟨_, rfl⟩
  obtain ⟨X, Y, B⟩ := two_boxes w _ _ _ hV
  have HX := hid X
  have HY := hid Y
  have HB := hid B
  have hV' : (w.alloc (.cells #[.int .i64 p, .int .i64 o.shift, .int .i64 o.save, .string ⟨o.name.toArray⟩] 32)).alloc (.cells #[.int .i64 ca, .int .i64 cl.shift, .int .i64 cl.save, .string ⟨cl.name.toArray⟩] 32) = V := hV
  have HV := hid hV'
  clear X Y B hV hV'
  obtain ⟨T, hT⟩ : ∃ T, Tb.inYears ca = T := ⟨_, rfl⟩
  have HT := hid hT
  clear hT
  cases T
  case false =>
    have H2 : Hid (R = 3) := by show _ = _; rw [HR.out, if_pos HT.out]
    clear HR
    go_enter Try.func40, Try.ntmps40
    go_wp2_with (go_at_call 60; refine (pInYears_is _ _ HT.out).mono ?_; rintro e w1 ⟨rfl, rfl⟩)
    go_ret
    exact ⟨ret_int (by rw [H2.out]), by rw [HV.out]; exact HB.out⟩
  by_cases hp : ca ≤ p
  · have H2 : Hid (R = 4) := by show _ = _; rw [HR.out, if_neg (by simp [HT.out]), if_pos hp]
    clear HR
    go_enter Try.func40, Try.ntmps40
    go_wp2_with (go_at_call 60; refine (pInYears_is _ _ HT.out).mono ?_; rintro e w1 ⟨rfl, rfl⟩)
    go_ret
    exact ⟨ret_int (by rw [H2.out]), by rw [HV.out]; exact HB.out⟩
  have HR2 : Hid (R = if Tb.localE cl ≠ 0 then Tb.localE cl else if cl = o then 4 else 0) := by show _ = _; rw [HR.out, if_neg (by simp [HT.out]), if_neg hp]
  clear HR
  go_enter Try.func40, Try.ntmps40
  go_wp2_with (go_at_call 60; refine (pInYears_is _ _ HT.out).mono ?_; rintro e w1 ⟨rfl, rfl⟩)
  rw [HV.out]
  clear HV HT
  refine (pCheckLocal_any cl _ HN.out).mono ?_
  rintro e w5 ⟨rfl, hb5⟩
  have XU := hid (ca_below HX.out hb5)
  have YU := hid (ca_below HY.out hb5)
  have BU : Hid (Below w.heap.size w w5) := HB.out.trans (hb5.mono HB.out.size)
  clear HX HY HB hb5 HN
  obtain ⟨L, hL⟩ : ∃ L, Tb.localE cl = L := ⟨_, rfl⟩
  rw [hL] at HR2 ⊢
  clear hL
  by_cases h0 : L = 0
  case neg =>
    have H2 : Hid (R = L) := by show _ = _; rw [HR2.out, if_pos h0]
    have h0' : (L != 0) = true := by simp [h0]
    clear HR2
    go_wp2
    go_ret
    exact ⟨ret_int (by rw [H2.out]), BU.out⟩
  subst h0
  have HR3 : Hid (R = if cl = o then 4 else 0) := by show _ = _; rw [HR2.out]; simp
  clear HR2
  obtain ⟨x1, f1⟩ := ca_at XU.out 1 rfl
  obtain ⟨x2, f2⟩ := ca_at XU.out 2 rfl
  obtain ⟨x3, f3⟩ := ca_at XU.out 3 rfl
  obtain ⟨y1, g1⟩ := ca_at YU.out 1 rfl
  obtain ⟨y2, g2⟩ := ca_at YU.out 2 rfl
  obtain ⟨y3, g3⟩ := ca_at YU.out 3 rfl
  have sx := XU.out.1
  have sy := YU.out.1
  by_cases hE : cl = o
  · have H2 : Hid (R = 4) := by show _ = _; rw [HR3.out, if_pos hE]
    clear HR3
    subst hE
    go_wp2
    go_ret
    exact ⟨ret_int (by rw [H2.out]), BU.out⟩
  · have H2 : Hid (R = 0) := by show _ = _; rw [HR3.out, if_neg hE]
    clear HR3
    obtain ⟨cs, cv, cn⟩ := cl
    obtain ⟨os, ov, on⟩ := o
    dsimp only at x1 x2 x3 y1 y2 y3 ⊢
    have h3 : ¬ cs = os ∨ (cs = os ∧ ¬ cv = ov) ∨ (cs = os ∧ cv = ov ∧ ¬ cn = on) := by
      by_cases q1 : cs = os <;> by_cases q2 : cv = ov <;> by_cases q3 : cn = on <;> simp_all
    clear hE
    rcases h3 with h3 | ⟨rfl, h3⟩ | ⟨rfl, rfl, h3⟩
    all_goals
      go_wp2
      go_ret
      exact ⟨ret_int (by rw [H2.out]), BU.out⟩

/- the time ahead: of the first change, a second ahead of all -/
def pvOf : Option Int → Int
  | none => -62135596801
  | some p => p
theorem goE_chg {was : Tb.Lc} {prev : Option Int} {c : Tb.Cg} {r : List Tb.Cg} : Tb.goE was prev (c :: r) = if chgE was (pvOf prev) c ≠ 0 then chgE was (pvOf prev) c else Tb.goE c.lc (some c.at_) r := by
  rw [Tb.goE_cons]
  unfold chgE Tb.inYears
  cases hT : Sx.inB c.at_ Tb.least Tb.most
  · simp
  · have hl : Tb.late prev c.at_ = decide (c.at_ ≤ pvOf prev) := by
      cases prev with
      | none =>
        have : (-62135596800 : Int) ≤ c.at_ := by simp [Sx.inB] at hT; exact hT.1
        have h2 : ¬ c.at_ ≤ -62135596801 := by omega
        simp [Tb.late, pvOf, h2]
      | some p => rfl
    rw [hl]
    by_cases h1 : c.at_ ≤ pvOf prev
    · simp [h1]
    · by_cases h2 : Tb.localE c.lc = 0
      · by_cases h3 : c.lc = was
        · have h2' : Tb.localE was = 0 := h3 ▸ h2
          simp [h1, h2', h3]
        · simp [h1, h2, h3]
      · simp [h1, h2]
end Go.Proofs.Ytombhnjmelidcaa
