/- Proved: for every date and every number of days, civil.Days, civil.Of and civil.Weekday answer what the document says (the law CivilTells), at every input, on every schedule; no condition. -/
import Derived.Test.YtodnokopfknmnaaLawRow
import Derived.Test.YtodnokopfknmnaaRefB
namespace Go.Proofs.Ytodnokopfknmnaa
open Go.ChangeShapes Go.WideShapes Go.ChangeAt Go.RowKit Go.Joins
set_option linter.unusedVariables false
set_option linter.unusedSimpArgs false

set_option maxHeartbeats 4000000 in
theorem tells_y_in (y m d n : Int) (w : World) (h : Cv.vldB y m d = true) (r1 : -719162 ≤ n) (r2 : n ≤ 2932896) :
    Calls Try.prog 5 #[.agg #[.int .i64 y, .int .i64 m, .int .i64 d], .int .i64 n] w fun e w' => e = .returned (.bool true) ∧ Below w.heap.size w w' := by
  have H := hid h
  obtain ⟨v1, v2, v3, v4, v5, v6⟩ := Cv.vld_iff.1 h
  have v7 := Cv.dim_bd y m
  clear h
  go_enter Try.func5, Try.ntmps5
  go_wp2_with fail
  refine (days_yes _ _ _ _ H.out).mono ?_
  rintro e w1 ⟨rfl, hb1⟩
  obtain ⟨hc1, hz1⟩ := bcell hb1
  have s1 := hb1.size
  simp at s1
  have a1 : w.heap.size < w1.heap.size := by omega
  go_wp2_with fail
  refine (of_yes _ _ r1 r2).mono ?_
  rintro e w2 ⟨a, b, c, rfl, hv, hn, hb2⟩
  have HV := hid hv
  have HN := hid hn
  clear hv hn
  obtain ⟨hc2, hz2⟩ := bcell hb2
  have s2 := hb2.size
  have a2 : w.heap.size < w2.heap.size := by omega
  have a2' : w.heap.size < w2.heap.size + 1 := by omega
  have a2'' : w.heap.size < w2.heap.size + 1 + 1 := by omega
  go_wp2_with fail
  refine (isDate_yes _ _ _ _ H.out).mono ?_
  rintro e w3 ⟨rfl, hb3⟩
  obtain ⟨hc3, hz3⟩ := bcell hb3
  have s3 := hb3.size
  simp at s3
  have a3 : w.heap.size < w3.heap.size := by omega
  have b3 : w2.heap.size < w3.heap.size := by omega
  have c3 : w2.heap.size + 1 < w3.heap.size := by omega
  go_wp2_with fail
  refine (rDays_any _ _ _ _ (by omega) (by omega) (by omega) (by omega) (by omega) (by omega)).mono ?_
  rintro e w4 ⟨rfl, hb4⟩
  obtain ⟨hc4, hz4⟩ := bcell hb4
  have s4 := hb4.size
  have a4 : w.heap.size < w4.heap.size := by omega
  have b4 : w2.heap.size < w4.heap.size := by omega
  have c4 : w2.heap.size + 1 < w4.heap.size := by omega
  go_wp2_with fail
  refine (first_any _).mono ?_
  rintro e w5 ⟨rfl, hb5⟩
  obtain ⟨hc5, hz5⟩ := bcell hb5
  have s5 := hb5.size
  have a5 : w.heap.size < w5.heap.size := by omega
  have b5 : w2.heap.size < w5.heap.size := by omega
  have c5 : w2.heap.size + 1 < w5.heap.size := by omega
  go_wp2_with fail
  refine (last_any _).mono ?_
  rintro e w6 ⟨rfl, hb6⟩
  obtain ⟨hc6, hz6⟩ := bcell hb6
  have s6 := hb6.size
  have a6 : w.heap.size < w6.heap.size := by omega
  have b6 : w2.heap.size < w6.heap.size := by omega
  have c6 : w2.heap.size + 1 < w6.heap.size := by omega
  go_wp2_with fail
  refine (dateOf_any _ _ r1 r2).mono ?_
  rintro e w7 ⟨a', b', c', rfl, hv, hn, hb7⟩
  obtain ⟨rfl, rfl, rfl⟩ := Cv.num_inj hv HV.out (hn.trans HN.out.symm)
  clear hv hn HV HN
  obtain ⟨hc7, hz7⟩ := bcell hb7
  have s7 := hb7.size
  have a7 : w.heap.size < w7.heap.size := by omega
  have b7 : w2.heap.size < w7.heap.size := by omega
  have c7 : w2.heap.size + 1 < w7.heap.size := by omega
  go_wp2_with fail
  refine (begun_any _).mono ?_
  rintro e w8 ⟨rfl, hb8⟩
  obtain ⟨hc8, hz8⟩ := bcell hb8
  have s8 := hb8.size
  go_wp2_with fail
  refine (weekday_any _ _).mono ?_
  rintro e w9 ⟨rfl, rfl⟩
  go_wp2_with fail
  refine (rWeekday_any _ _).mono ?_
  rintro e w9 ⟨rfl, rfl⟩
  go_wp2
  go_ret
  refine ⟨rfl, ?_⟩
  try simp at s8
  exact Below.trans (Below.setCell (Below.setCell (Below.setCell (Below.trans (Below.trans (Below.trans (Below.trans (Below.trans (Below.alloc (Below.alloc (Below.trans (Below.trans ((Below.refl _ _).alloc (Nat.le_refl _) _) (hb1.mono (by simp))) (hb2.mono (by omega))) (by omega) _) (by simp; omega) _) (hb3.mono (by simp; omega))) (hb4.mono (by omega))) (hb5.mono (by omega))) (hb6.mono (by omega))) (hb7.mono (by omega))) (by simp; omega) _) (by simp; omega) _) (by simp; omega) _) (hb8.mono (by first | omega | (simp; omega)))

set_option maxHeartbeats 4000000 in
theorem tells_y_lo (y m d n : Int) (w : World) (h : Cv.vldB y m d = true) (r1 : n < -719162) :
    Calls Try.prog 5 #[.agg #[.int .i64 y, .int .i64 m, .int .i64 d], .int .i64 n] w fun e w' => e = .returned (.bool true) ∧ Below w.heap.size w w' := by
  have H := hid h
  obtain ⟨v1, v2, v3, v4, v5, v6⟩ := Cv.vld_iff.1 h
  have v7 := Cv.dim_bd y m
  clear h
  go_enter Try.func5, Try.ntmps5
  go_wp2_with fail
  refine (days_yes _ _ _ _ H.out).mono ?_
  rintro e w1 ⟨rfl, hb1⟩
  obtain ⟨hc1, hz1⟩ := bcell hb1
  have s1 := hb1.size
  simp at s1
  have a1 : w.heap.size < w1.heap.size := by omega
  go_wp2_with fail
  refine (of_no _ _ (by omega)).mono ?_
  rintro e w2 ⟨rfl, hb2⟩
  obtain ⟨hc2, hz2⟩ := bcell hb2
  have s2 := hb2.size
  have a2 : w.heap.size < w2.heap.size := by omega
  have a2' : w.heap.size < w2.heap.size + 1 := by omega
  have a2'' : w.heap.size < w2.heap.size + 1 + 1 := by omega
  go_wp2_with fail
  refine (isDate_yes _ _ _ _ H.out).mono ?_
  rintro e w3 ⟨rfl, hb3⟩
  obtain ⟨hc3, hz3⟩ := bcell hb3
  have s3 := hb3.size
  simp at s3
  have a3 : w.heap.size < w3.heap.size := by omega
  have b3 : w2.heap.size < w3.heap.size := by omega
  have c3 : w2.heap.size + 1 < w3.heap.size := by omega
  go_wp2_with fail
  refine (rDays_any _ _ _ _ (by omega) (by omega) (by omega) (by omega) (by omega) (by omega)).mono ?_
  rintro e w4 ⟨rfl, hb4⟩
  obtain ⟨hc4, hz4⟩ := bcell hb4
  have s4 := hb4.size
  have a4 : w.heap.size < w4.heap.size := by omega
  have b4 : w2.heap.size < w4.heap.size := by omega
  have c4 : w2.heap.size + 1 < w4.heap.size := by omega
  go_wp2_with fail
  refine (first_any _).mono ?_
  rintro e w5 ⟨rfl, hb5⟩
  obtain ⟨hc5, hz5⟩ := bcell hb5
  have s5 := hb5.size
  have a5 : w.heap.size < w5.heap.size := by omega
  have b5 : w2.heap.size < w5.heap.size := by omega
  have c5 : w2.heap.size + 1 < w5.heap.size := by omega
  go_wp2_with fail
  refine (begun_any _).mono ?_
  rintro e w8 ⟨rfl, hb8⟩
  obtain ⟨hc8, hz8⟩ := bcell hb8
  have s8 := hb8.size
  go_wp2_with fail
  refine (weekday_any _ _).mono ?_
  rintro e w9 ⟨rfl, rfl⟩
  go_wp2_with fail
  refine (rWeekday_any _ _).mono ?_
  rintro e w9 ⟨rfl, rfl⟩
  go_wp2
  go_ret
  refine ⟨rfl, ?_⟩
  try simp at s8
  exact Below.trans (Below.trans (Below.trans (Below.trans (Below.alloc (Below.alloc (Below.trans (Below.trans ((Below.refl _ _).alloc (Nat.le_refl _) _) (hb1.mono (by simp))) (hb2.mono (by omega))) (by omega) _) (by simp; omega) _) (hb3.mono (by simp; omega))) (hb4.mono (by omega))) (hb5.mono (by omega))) (hb8.mono (by first | omega | (simp; omega)))

set_option maxHeartbeats 4000000 in
theorem tells_y_hi (y m d n : Int) (w : World) (h : Cv.vldB y m d = true) (r1 : ¬ n < -719162) (r2 : 2932896 < n) :
    Calls Try.prog 5 #[.agg #[.int .i64 y, .int .i64 m, .int .i64 d], .int .i64 n] w fun e w' => e = .returned (.bool true) ∧ Below w.heap.size w w' := by
  have H := hid h
  obtain ⟨v1, v2, v3, v4, v5, v6⟩ := Cv.vld_iff.1 h
  have v7 := Cv.dim_bd y m
  clear h
  go_enter Try.func5, Try.ntmps5
  go_wp2_with fail
  refine (days_yes _ _ _ _ H.out).mono ?_
  rintro e w1 ⟨rfl, hb1⟩
  obtain ⟨hc1, hz1⟩ := bcell hb1
  have s1 := hb1.size
  simp at s1
  have a1 : w.heap.size < w1.heap.size := by omega
  go_wp2_with fail
  refine (of_no _ _ (by omega)).mono ?_
  rintro e w2 ⟨rfl, hb2⟩
  obtain ⟨hc2, hz2⟩ := bcell hb2
  have s2 := hb2.size
  have a2 : w.heap.size < w2.heap.size := by omega
  have a2' : w.heap.size < w2.heap.size + 1 := by omega
  have a2'' : w.heap.size < w2.heap.size + 1 + 1 := by omega
  go_wp2_with fail
  refine (isDate_yes _ _ _ _ H.out).mono ?_
  rintro e w3 ⟨rfl, hb3⟩
  obtain ⟨hc3, hz3⟩ := bcell hb3
  have s3 := hb3.size
  simp at s3
  have a3 : w.heap.size < w3.heap.size := by omega
  have b3 : w2.heap.size < w3.heap.size := by omega
  have c3 : w2.heap.size + 1 < w3.heap.size := by omega
  go_wp2_with fail
  refine (rDays_any _ _ _ _ (by omega) (by omega) (by omega) (by omega) (by omega) (by omega)).mono ?_
  rintro e w4 ⟨rfl, hb4⟩
  obtain ⟨hc4, hz4⟩ := bcell hb4
  have s4 := hb4.size
  have a4 : w.heap.size < w4.heap.size := by omega
  have b4 : w2.heap.size < w4.heap.size := by omega
  have c4 : w2.heap.size + 1 < w4.heap.size := by omega
  go_wp2_with fail
  refine (first_any _).mono ?_
  rintro e w5 ⟨rfl, hb5⟩
  obtain ⟨hc5, hz5⟩ := bcell hb5
  have s5 := hb5.size
  have a5 : w.heap.size < w5.heap.size := by omega
  have b5 : w2.heap.size < w5.heap.size := by omega
  have c5 : w2.heap.size + 1 < w5.heap.size := by omega
  go_wp2_with fail
  refine (last_any _).mono ?_
  rintro e w6 ⟨rfl, hb6⟩
  obtain ⟨hc6, hz6⟩ := bcell hb6
  have s6 := hb6.size
  have a6 : w.heap.size < w6.heap.size := by omega
  have b6 : w2.heap.size < w6.heap.size := by omega
  have c6 : w2.heap.size + 1 < w6.heap.size := by omega
  go_wp2_with fail
  refine (begun_any _).mono ?_
  rintro e w8 ⟨rfl, hb8⟩
  obtain ⟨hc8, hz8⟩ := bcell hb8
  have s8 := hb8.size
  go_wp2_with fail
  refine (weekday_any _ _).mono ?_
  rintro e w9 ⟨rfl, rfl⟩
  go_wp2_with fail
  refine (rWeekday_any _ _).mono ?_
  rintro e w9 ⟨rfl, rfl⟩
  go_wp2
  go_ret
  refine ⟨rfl, ?_⟩
  try simp at s8
  exact Below.trans (Below.trans (Below.trans (Below.trans (Below.trans (Below.alloc (Below.alloc (Below.trans (Below.trans ((Below.refl _ _).alloc (Nat.le_refl _) _) (hb1.mono (by simp))) (hb2.mono (by omega))) (by omega) _) (by simp; omega) _) (hb3.mono (by simp; omega))) (hb4.mono (by omega))) (hb5.mono (by omega))) (hb6.mono (by omega))) (hb8.mono (by first | omega | (simp; omega)))

set_option maxHeartbeats 4000000 in
theorem tells_n_in (y m d n : Int) (w : World) (h : Cv.vldB y m d = false) (r1 : -719162 ≤ n) (r2 : n ≤ 2932896) :
    Calls Try.prog 5 #[.agg #[.int .i64 y, .int .i64 m, .int .i64 d], .int .i64 n] w fun e w' => e = .returned (.bool true) ∧ Below w.heap.size w w' := by
  have H := hid h
  clear h
  go_enter Try.func5, Try.ntmps5
  go_wp2_with fail
  refine (days_no _ _ _ _ H.out).mono ?_
  rintro e w1 ⟨rfl, hb1⟩
  obtain ⟨hc1, hz1⟩ := bcell hb1
  have s1 := hb1.size
  simp at s1
  have a1 : w.heap.size < w1.heap.size := by omega
  go_wp2_with fail
  refine (of_yes _ _ r1 r2).mono ?_
  rintro e w2 ⟨a, b, c, rfl, hv, hn, hb2⟩
  have HV := hid hv
  have HN := hid hn
  clear hv hn
  obtain ⟨hc2, hz2⟩ := bcell hb2
  have s2 := hb2.size
  have a2 : w.heap.size < w2.heap.size := by omega
  have a2' : w.heap.size < w2.heap.size + 1 := by omega
  have a2'' : w.heap.size < w2.heap.size + 1 + 1 := by omega
  go_wp2_with fail
  refine (isDate_no _ _ _ _ H.out).mono ?_
  rintro e w3 ⟨rfl, hb3⟩
  obtain ⟨hc3, hz3⟩ := bcell hb3
  have s3 := hb3.size
  simp at s3
  have a3 : w.heap.size < w3.heap.size := by omega
  have b3 : w2.heap.size < w3.heap.size := by omega
  have c3 : w2.heap.size + 1 < w3.heap.size := by omega
  go_wp2_with fail
  refine (first_any _).mono ?_
  rintro e w5 ⟨rfl, hb5⟩
  obtain ⟨hc5, hz5⟩ := bcell hb5
  have s5 := hb5.size
  have a5 : w.heap.size < w5.heap.size := by omega
  have b5 : w2.heap.size < w5.heap.size := by omega
  have c5 : w2.heap.size + 1 < w5.heap.size := by omega
  go_wp2_with fail
  refine (last_any _).mono ?_
  rintro e w6 ⟨rfl, hb6⟩
  obtain ⟨hc6, hz6⟩ := bcell hb6
  have s6 := hb6.size
  have a6 : w.heap.size < w6.heap.size := by omega
  have b6 : w2.heap.size < w6.heap.size := by omega
  have c6 : w2.heap.size + 1 < w6.heap.size := by omega
  go_wp2_with fail
  refine (dateOf_any _ _ r1 r2).mono ?_
  rintro e w7 ⟨a', b', c', rfl, hv, hn, hb7⟩
  obtain ⟨rfl, rfl, rfl⟩ := Cv.num_inj hv HV.out (hn.trans HN.out.symm)
  clear hv hn HV HN
  obtain ⟨hc7, hz7⟩ := bcell hb7
  have s7 := hb7.size
  have a7 : w.heap.size < w7.heap.size := by omega
  have b7 : w2.heap.size < w7.heap.size := by omega
  have c7 : w2.heap.size + 1 < w7.heap.size := by omega
  go_wp2_with fail
  refine (begun_any _).mono ?_
  rintro e w8 ⟨rfl, hb8⟩
  obtain ⟨hc8, hz8⟩ := bcell hb8
  have s8 := hb8.size
  go_wp2_with fail
  refine (weekday_any _ _).mono ?_
  rintro e w9 ⟨rfl, rfl⟩
  go_wp2_with fail
  refine (rWeekday_any _ _).mono ?_
  rintro e w9 ⟨rfl, rfl⟩
  go_wp2
  go_ret
  refine ⟨rfl, ?_⟩
  try simp at s8
  exact Below.trans (Below.setCell (Below.setCell (Below.setCell (Below.trans (Below.trans (Below.trans (Below.trans (Below.alloc (Below.alloc (Below.trans (Below.trans ((Below.refl _ _).alloc (Nat.le_refl _) _) (hb1.mono (by simp))) (hb2.mono (by omega))) (by omega) _) (by simp; omega) _) (hb3.mono (by simp; omega))) (hb5.mono (by omega))) (hb6.mono (by omega))) (hb7.mono (by omega))) (by simp; omega) _) (by simp; omega) _) (by simp; omega) _) (hb8.mono (by first | omega | (simp; omega)))

set_option maxHeartbeats 4000000 in
theorem tells_n_lo (y m d n : Int) (w : World) (h : Cv.vldB y m d = false) (r1 : n < -719162) :
    Calls Try.prog 5 #[.agg #[.int .i64 y, .int .i64 m, .int .i64 d], .int .i64 n] w fun e w' => e = .returned (.bool true) ∧ Below w.heap.size w w' := by
  have H := hid h
  clear h
  go_enter Try.func5, Try.ntmps5
  go_wp2_with fail
  refine (days_no _ _ _ _ H.out).mono ?_
  rintro e w1 ⟨rfl, hb1⟩
  obtain ⟨hc1, hz1⟩ := bcell hb1
  have s1 := hb1.size
  simp at s1
  have a1 : w.heap.size < w1.heap.size := by omega
  go_wp2_with fail
  refine (of_no _ _ (by omega)).mono ?_
  rintro e w2 ⟨rfl, hb2⟩
  obtain ⟨hc2, hz2⟩ := bcell hb2
  have s2 := hb2.size
  have a2 : w.heap.size < w2.heap.size := by omega
  have a2' : w.heap.size < w2.heap.size + 1 := by omega
  have a2'' : w.heap.size < w2.heap.size + 1 + 1 := by omega
  go_wp2_with fail
  refine (isDate_no _ _ _ _ H.out).mono ?_
  rintro e w3 ⟨rfl, hb3⟩
  obtain ⟨hc3, hz3⟩ := bcell hb3
  have s3 := hb3.size
  simp at s3
  have a3 : w.heap.size < w3.heap.size := by omega
  have b3 : w2.heap.size < w3.heap.size := by omega
  have c3 : w2.heap.size + 1 < w3.heap.size := by omega
  go_wp2_with fail
  refine (first_any _).mono ?_
  rintro e w5 ⟨rfl, hb5⟩
  obtain ⟨hc5, hz5⟩ := bcell hb5
  have s5 := hb5.size
  have a5 : w.heap.size < w5.heap.size := by omega
  have b5 : w2.heap.size < w5.heap.size := by omega
  have c5 : w2.heap.size + 1 < w5.heap.size := by omega
  go_wp2_with fail
  refine (begun_any _).mono ?_
  rintro e w8 ⟨rfl, hb8⟩
  obtain ⟨hc8, hz8⟩ := bcell hb8
  have s8 := hb8.size
  go_wp2_with fail
  refine (weekday_any _ _).mono ?_
  rintro e w9 ⟨rfl, rfl⟩
  go_wp2_with fail
  refine (rWeekday_any _ _).mono ?_
  rintro e w9 ⟨rfl, rfl⟩
  go_wp2
  go_ret
  refine ⟨rfl, ?_⟩
  try simp at s8
  exact Below.trans (Below.trans (Below.trans (Below.alloc (Below.alloc (Below.trans (Below.trans ((Below.refl _ _).alloc (Nat.le_refl _) _) (hb1.mono (by simp))) (hb2.mono (by omega))) (by omega) _) (by simp; omega) _) (hb3.mono (by simp; omega))) (hb5.mono (by omega))) (hb8.mono (by first | omega | (simp; omega)))

set_option maxHeartbeats 4000000 in
theorem tells_n_hi (y m d n : Int) (w : World) (h : Cv.vldB y m d = false) (r1 : ¬ n < -719162) (r2 : 2932896 < n) :
    Calls Try.prog 5 #[.agg #[.int .i64 y, .int .i64 m, .int .i64 d], .int .i64 n] w fun e w' => e = .returned (.bool true) ∧ Below w.heap.size w w' := by
  have H := hid h
  clear h
  go_enter Try.func5, Try.ntmps5
  go_wp2_with fail
  refine (days_no _ _ _ _ H.out).mono ?_
  rintro e w1 ⟨rfl, hb1⟩
  obtain ⟨hc1, hz1⟩ := bcell hb1
  have s1 := hb1.size
  simp at s1
  have a1 : w.heap.size < w1.heap.size := by omega
  go_wp2_with fail
  refine (of_no _ _ (by omega)).mono ?_
  rintro e w2 ⟨rfl, hb2⟩
  obtain ⟨hc2, hz2⟩ := bcell hb2
  have s2 := hb2.size
  have a2 : w.heap.size < w2.heap.size := by omega
  have a2' : w.heap.size < w2.heap.size + 1 := by omega
  have a2'' : w.heap.size < w2.heap.size + 1 + 1 := by omega
  go_wp2_with fail
  refine (isDate_no _ _ _ _ H.out).mono ?_
  rintro e w3 ⟨rfl, hb3⟩
  obtain ⟨hc3, hz3⟩ := bcell hb3
  have s3 := hb3.size
  simp at s3
  have a3 : w.heap.size < w3.heap.size := by omega
  have b3 : w2.heap.size < w3.heap.size := by omega
  have c3 : w2.heap.size + 1 < w3.heap.size := by omega
  go_wp2_with fail
  refine (first_any _).mono ?_
  rintro e w5 ⟨rfl, hb5⟩
  obtain ⟨hc5, hz5⟩ := bcell hb5
  have s5 := hb5.size
  have a5 : w.heap.size < w5.heap.size := by omega
  have b5 : w2.heap.size < w5.heap.size := by omega
  have c5 : w2.heap.size + 1 < w5.heap.size := by omega
  go_wp2_with fail
  refine (last_any _).mono ?_
  rintro e w6 ⟨rfl, hb6⟩
  obtain ⟨hc6, hz6⟩ := bcell hb6
  have s6 := hb6.size
  have a6 : w.heap.size < w6.heap.size := by omega
  have b6 : w2.heap.size < w6.heap.size := by omega
  have c6 : w2.heap.size + 1 < w6.heap.size := by omega
  go_wp2_with fail
  refine (begun_any _).mono ?_
  rintro e w8 ⟨rfl, hb8⟩
  obtain ⟨hc8, hz8⟩ := bcell hb8
  have s8 := hb8.size
  go_wp2_with fail
  refine (weekday_any _ _).mono ?_
  rintro e w9 ⟨rfl, rfl⟩
  go_wp2_with fail
  refine (rWeekday_any _ _).mono ?_
  rintro e w9 ⟨rfl, rfl⟩
  go_wp2
  go_ret
  refine ⟨rfl, ?_⟩
  try simp at s8
  exact Below.trans (Below.trans (Below.trans (Below.trans (Below.alloc (Below.alloc (Below.trans (Below.trans ((Below.refl _ _).alloc (Nat.le_refl _) _) (hb1.mono (by simp))) (hb2.mono (by omega))) (by omega) _) (by simp; omega) _) (hb3.mono (by simp; omega))) (hb5.mono (by omega))) (hb6.mono (by omega))) (hb8.mono (by first | omega | (simp; omega)))

theorem tells_walk (y m d n : Int) (_ : (Lit.int .i64 n).wf = true) (w : World) :
    Calls Try.prog 5 #[.agg #[.int .i64 y, .int .i64 m, .int .i64 d], .int .i64 n] w fun e w' => e = .returned (.bool true) ∧ Below w.heap.size w w' := by
  by_cases r1 : n < -719162
  · cases h : Cv.vldB y m d
    · exact tells_n_lo y m d n w h r1
    · exact tells_y_lo y m d n w h r1
  by_cases r2 : 2932896 < n
  · cases h : Cv.vldB y m d
    · exact tells_n_hi y m d n w h r1 r2
    · exact tells_y_hi y m d n w h r1 r2
  cases h : Cv.vldB y m d
  · exact tells_n_in y m d n w h (by omega) (by omega)
  · exact tells_y_in y m d n w h (by omega) (by omega)

set_option maxRecDepth 100000 in
theorem tells_lifted (os : Os) (started : os.Started) (H : Type) (enc : TypeId × Value → H) :
    ReturnsInHanded {} Try.checked os 5 .any (Rows.civilTellsSpec.pre6 enc Try.prog Try.f5 Rows.civilTellsRow.domain false) (Rows.civilTellsSpec.post enc Try.prog Try.f5 false true false false) := by
  refine returnsInHanded_of_change (C := Try.checked) own started (by kernel_rfl) Try.func5
    (ChangeSpec.witness6 (enc := enc) (C := Try.checked) false ⟨#[], #[.agg #[.int .i64 0, .int .i64 0, .int .i64 0], .int .i64 0], []⟩ 8 (by kernel_rfl) (by kernel_rfl) (by kernel_rfl) (by kernel_rfl)) ?_
  intro W base args ds gs before hval0 hW hcnd _
  have hval : ∀ (j : Nat) t v, Try.f5.params[j]? = some t → args[j]? = some v → Value.okWide Try.prog W .any base t v := hval0
  have hW' := hW
  obtain ⟨p, q, hA0, hV, rfl, hfz, hnd⟩ := hW
  have hA : DataW.TrodAll enc Try.prog W 0 (fun _ => true) true Try.f5.params.toList args.toList ds p := hA0
  rw [Try.params5] at hA hval
  obtain ⟨v0, v1, d0, d1, p0, p1, rfl, rfl, rfl, h0, h1⟩ := trodAll_two hA
  obtain ⟨rfl, rfl⟩ := trodVars_none hV
  obtain ⟨⟨a0, b0, c0, rfl⟩, lt0⟩ := open_date (hval 0 23 v0 rfl rfl) h0
  obtain ⟨a1, rfl, rfl, rfl, w1⟩ := open_int Try.underlying3 (hval 1 3 v1 rfl rfl) h1
  clear hA0 hval0
  refine (tells_walk a0 b0 c0 a1 w1 W).mono fun e W' ⟨he, bel⟩ => ?_
  subst he
  exact ⟨_, rfl, _, _, _, [], _, [], hW', trodAll_mk1 (shut_bool Try.underlying4 _), trodAll_mk2 (date_stays h0 bel lt0) (shut_int Try.underlying3 w1), rfl, bel.frame _, fun h => by cases h⟩

theorem tells_holds : Rows.CivilTellsSaid :=
  OpenClaim.holds_of_wide 5 Try.f5 rfl rfl rfl rfl rfl rfl rfl ⟨rfl, rfl, rfl, rfl, rfl⟩ rfl rfl rfl rfl rfl (by kernel_rfl) Try.func5 (by kernel_rfl)
    (of_decide_eq_true (by kernel_rfl)) (by unfold Func.isWrapper; first | (rw [if_pos (by decide +kernel)]; kernel_rfl) | (rw [if_neg (by decide +kernel)]; exact ⟨rfl, rfl⟩))
    (fun os started H enc _ => tells_lifted os started H enc)
#print axioms tells_holds
end Go.Proofs.Ytodnokopfknmnaa
