/- Proved: for every date, civil.Days, civil.Of and civil.Weekday keep the law CivilNext (dates and days go to and fro; a day later is one more, and the next weekday), at every input, on every schedule; no condition. -/
import Derived.Test.YtodnokopfknmnaaLawRow
namespace Go.Proofs.Ytodnokopfknmnaa
open Go.ChangeShapes Go.WideShapes Go.ChangeAt Go.RowKit Go.Joins

set_option maxHeartbeats 400000 in
theorem next_no (y m d : Int) (w : World) (h : Cv.vldB y m d = false) :
    Calls Try.prog 7 #[.agg #[.int .i64 y, .int .i64 m, .int .i64 d]] w fun e w' => e = .returned (.bool true) ∧ Below w.heap.size w w' := by
  have H := hid h
  clear h
  go_enter Try.func7, Try.ntmps7
  go_wp2_with fail
  refine (days_no _ _ _ _ H.out).mono ?_
  rintro e w1 ⟨rfl, hb1⟩
  go_wp2_with fail
  refine (begun_any _).mono ?_
  rintro e w2 ⟨rfl, hb2⟩
  go_wp2
  go_ret
  have s1 := hb1.size
  simp at s1
  exact ⟨rfl, Below.trans (Below.trans ((Below.refl _ _).alloc (Nat.le_refl _) _) (hb1.mono (by simp))) (hb2.mono (by omega))⟩

theorem next_fin {w w1 w2 w3 w5 w6 : World} {o1 o2 o3 : Obj} (hb1 : Below (w.alloc o1).heap.size (w.alloc o1) w1) (hb2 : Below w1.heap.size w1 w2) (hb3 : Below w2.heap.size w2 w3) (hb5 : Below (w3.alloc o2).heap.size (w3.alloc o2) w5) (hb6 : Below (w5.alloc o3).heap.size (w5.alloc o3) w6) : Below w.heap.size w w6 := by
  have s1 := hb1.size
  have s2 := hb2.size
  have s3 := hb3.size
  have s5 := hb5.size
  simp at s1 s5
  exact Below.trans (Below.alloc (Below.trans (Below.alloc (Below.trans (Below.trans (Below.trans ((Below.refl _ _).alloc (Nat.le_refl _) _) (hb1.mono (by simp))) (hb2.mono (by omega))) (hb3.mono (by omega))) (by omega) _) (hb5.mono (by simp; omega))) (by omega) _) (hb6.mono (by simp; omega))

set_option maxHeartbeats 2000000 in
theorem next_last (y m d : Int) (w : World) (h : Cv.vldB y m d = true) (hl : Cv.num y m d = 2932896) :
    Calls Try.prog 7 #[.agg #[.int .i64 y, .int .i64 m, .int .i64 d]] w fun e w' => e = .returned (.bool true) ∧ Below w.heap.size w w' := by
  obtain ⟨rfl, rfl, rfl⟩ := Cv.num_last h hl
  have H := hid h
  have L := hid hl
  have W1 : Hid (Cv.wd (2932896 + 1) = (Cv.wd 2932896 + 1) % 7) := Cv.wd_next _
  have wb := Cv.wd_bd 2932896
  clear h hl
  go_enter Try.func7, Try.ntmps7
  go_wp2_with fail
  refine (days_yes _ _ _ _ H.out).mono ?_
  rintro e w1 ⟨rfl, hb1⟩
  rw [L.out]
  obtain ⟨hc1, hz1⟩ := bcell hb1
  have hs1 : w.heap.size < w1.heap.size := by have := hb1.size; simp at this; omega
  go_wp2_with fail
  refine (begun_any _).mono ?_
  rintro e w2 ⟨rfl, hb2⟩
  obtain ⟨hc2, hz2⟩ := bcell hb2
  have hs2 : w.heap.size < w2.heap.size := Nat.lt_of_lt_of_le hs1 hb2.size
  go_wp2_with fail
  refine (of_yes _ _ (by omega) (by omega)).mono ?_
  rintro e w3 ⟨a, b, c, rfl, hv, hn, hb3⟩
  obtain ⟨rfl, rfl, rfl⟩ := Cv.num_inj hv H.out (hn.trans L.out.symm)
  clear hv hn
  obtain ⟨hc3, hz3⟩ := bcell hb3
  have hs3 : w.heap.size < w3.heap.size := Nat.lt_of_lt_of_le hs2 hb3.size
  go_wp2_with fail
  refine (weekday_any _ _).mono ?_
  rintro e w4 ⟨rfl, rfl⟩
  rw [show Cv.wd 2932897 = 6 by decide]
  go_wp2_with fail
  refine (weekday_any _ _).mono ?_
  rintro e w4 ⟨rfl, rfl⟩
  rw [show Cv.wd 2932896 = 5 by decide]
  go_wp2_with fail
  refine (of_no _ _ (by omega)).mono ?_
  rintro e w5 ⟨rfl, hb5⟩
  have hb5' := hb5.size
  simp at hb5'
  obtain ⟨hc5, hz5⟩ := bcell hb5
  have hs5 : w.heap.size < w5.heap.size := by omega
  go_wp2
  go_ret
  refine ⟨rfl, ?_⟩
  have s1 := hb1.size
  have s2 := hb2.size
  have s3 := hb3.size
  simp at s1
  exact Below.alloc (Below.trans (Below.alloc (Below.trans (Below.trans (Below.trans ((Below.refl _ _).alloc (Nat.le_refl _) _) (hb1.mono (by simp))) (hb2.mono (by omega))) (hb3.mono (by omega))) (by omega) _) (hb5.mono (by simp; omega))) (by omega) _

set_option maxHeartbeats 4000000 in
theorem next_more (y m d : Int) (w : World) (h : Cv.vldB y m d = true) (hl : Cv.num y m d + 1 ≤ 2932896) :
    Calls Try.prog 7 #[.agg #[.int .i64 y, .int .i64 m, .int .i64 d]] w fun e w' => e = .returned (.bool true) ∧ Below w.heap.size w w' := by
  have X := hid (Cv.num_next h hl)
  have H := hid h
  have W1 : Hid (Cv.wd (Cv.num y m d + 1) = (Cv.wd (Cv.num y m d) + 1) % 7) := Cv.wd_next _
  have wb := Cv.wd_bd (Cv.num y m d)
  have nb := Cv.num_bd h
  obtain ⟨v1, v2, v3, v4, v5, v6⟩ := Cv.vld_iff.1 h
  have v7 : d ≤ 31 := by have := Cv.dim_bd y m; omega
  clear h v6
  go_enter Try.func7, Try.ntmps7
  go_wp2_with fail
  refine (days_yes _ _ _ _ H.out).mono ?_
  rintro e w1 ⟨rfl, hb1⟩
  obtain ⟨hc1, hz1⟩ := bcell hb1
  have hs1 : w.heap.size < w1.heap.size := by have := hb1.size; simp at this; omega
  go_wp2_with fail
  refine (begun_any _).mono ?_
  rintro e w2 ⟨rfl, hb2⟩
  obtain ⟨hc2, hz2⟩ := bcell hb2
  have hs2 : w.heap.size < w2.heap.size := Nat.lt_of_lt_of_le hs1 hb2.size
  go_wp2_with fail
  refine (of_yes _ _ (by omega) (by omega)).mono ?_
  rintro e w3 ⟨a, b, c, rfl, hv, hn, hb3⟩
  obtain ⟨rfl, rfl, rfl⟩ := Cv.num_inj hv H.out hn
  clear hv hn
  obtain ⟨hc3, hz3⟩ := bcell hb3
  have hs3 : w.heap.size < w3.heap.size := Nat.lt_of_lt_of_le hs2 hb3.size
  go_wp2_with fail
  refine (weekday_any _ _).mono ?_
  rintro e w4 ⟨rfl, rfl⟩
  rw [W1.out]
  go_wp2_with fail
  refine (weekday_any _ _).mono ?_
  rintro e w4 ⟨rfl, rfl⟩
  go_wp2_with fail
  refine (of_yes _ _ (by omega) (by omega)).mono ?_
  rintro e w5 ⟨a', b', c', rfl, hv, hn, hb5⟩
  have hb5' := hb5.size
  simp at hb5'
  obtain ⟨hc5, hz5⟩ := bcell hb5
  have hs5 : w.heap.size < w5.heap.size := by omega
  have hs6 : w3.heap.size < w5.heap.size := by omega
  have HV := hid hv
  have HN := hid hn
  rcases X.out with ⟨g1, g2⟩ | ⟨g0, g1, g2⟩ | ⟨g3, g4, g1, g2⟩
  · obtain ⟨rfl, rfl, rfl⟩ := Cv.num_inj hv g1 (hn.trans g2.symm)
    have G2 := hid g2
    clear hv hn g1 g2
    go_wp2_with fail
    refine (days_yes _ _ _ _ HV.out).mono ?_
    rintro e w6 ⟨rfl, hb6⟩
    rw [G2.out]
    go_wp2
    go_ret
    exact ⟨rfl, next_fin hb1 hb2 hb3 hb5 hb6⟩
  · obtain ⟨rfl, rfl, rfl⟩ := Cv.num_inj hv g1 (hn.trans g2.symm)
    have G2 := hid g2
    clear hv hn g1 g2
    go_wp2_with fail
    all_goals
      refine (days_yes _ _ _ _ HV.out).mono ?_
      rintro e w6 ⟨rfl, hb6⟩
      rw [G2.out]
      go_wp2
      go_ret
      exact ⟨rfl, next_fin hb1 hb2 hb3 hb5 hb6⟩
  · obtain ⟨rfl, rfl, rfl⟩ := Cv.num_inj hv g1 (hn.trans g2.symm)
    have G2 := hid g2
    subst g3 g4
    clear hv hn g1 g2
    go_wp2_with fail
    all_goals
      refine (days_yes _ _ _ _ HV.out).mono ?_
      rintro e w6 ⟨rfl, hb6⟩
      rw [G2.out]
      go_wp2
      go_ret
      exact ⟨rfl, next_fin hb1 hb2 hb3 hb5 hb6⟩

theorem next_walk (y m d : Int) (w : World) :
    Calls Try.prog 7 #[.agg #[.int .i64 y, .int .i64 m, .int .i64 d]] w fun e w' => e = .returned (.bool true) ∧ Below w.heap.size w w' := by
  cases h : Cv.vldB y m d
  · exact next_no y m d w h
  · by_cases hl : Cv.num y m d = 2932896
    · exact next_last y m d w h hl
    · have := Cv.num_bd h
      exact next_more y m d w h (by omega)

set_option maxRecDepth 100000 in
theorem next_lifted (os : Os) (started : os.Started) (H : Type) (enc : TypeId × Value → H) :
    ReturnsInHanded {} Try.checked os 7 .any (Rows.civilNextSpec.pre6 enc Try.prog Try.f7 Rows.civilNextRow.domain false) (Rows.civilNextSpec.post enc Try.prog Try.f7 false true false false) := by
  refine returnsInHanded_of_change (C := Try.checked) own started (by kernel_rfl) Try.func7
    (ChangeSpec.witness6 (enc := enc) (C := Try.checked) false ⟨#[], #[.agg #[.int .i64 0, .int .i64 0, .int .i64 0]], []⟩ 8 (by kernel_rfl) (by kernel_rfl) (by kernel_rfl) (by kernel_rfl)) ?_
  intro W base args ds gs before hval0 hW hcnd _
  have hval : ∀ (j : Nat) t v, Try.f7.params[j]? = some t → args[j]? = some v → Value.okWide Try.prog W .any base t v := hval0
  have hW' := hW
  obtain ⟨p, q, hA0, hV, rfl, hfz, hnd⟩ := hW
  have hA : DataW.TrodAll enc Try.prog W 0 (fun _ => true) true Try.f7.params.toList args.toList ds p := hA0
  rw [Try.params7] at hA hval
  obtain ⟨v0, d0, rfl, rfl, h0⟩ := trodAll_one hA
  obtain ⟨rfl, rfl⟩ := trodVars_none hV
  obtain ⟨⟨a0, b0, c0, rfl⟩, lt0⟩ := open_date (hval 0 23 v0 rfl rfl) h0
  clear hA0 hval0
  refine (next_walk a0 b0 c0 W).mono fun e W' ⟨he, bel⟩ => ?_
  subst he
  exact ⟨_, rfl, _, _, _, [], _, [], hW', trodAll_mk1 (shut_bool Try.underlying4 _), trodAll_mk1 (date_stays h0 bel lt0), rfl, bel.frame _, fun h => by cases h⟩

theorem next_holds : Rows.CivilNextSaid :=
  OpenClaim.holds_of_wide 7 Try.f7 rfl rfl rfl rfl rfl rfl rfl ⟨rfl, rfl, rfl, rfl, rfl⟩ rfl rfl rfl rfl rfl (by kernel_rfl) Try.func7 (by kernel_rfl)
    (of_decide_eq_true (by kernel_rfl)) (by unfold Func.isWrapper; first | (rw [if_pos (by decide +kernel)]; kernel_rfl) | (rw [if_neg (by decide +kernel)]; exact ⟨rfl, rfl⟩))
    (fun os started H enc _ => next_lifted os started H enc)
#print axioms next_holds
end Go.Proofs.Ytodnokopfknmnaa
