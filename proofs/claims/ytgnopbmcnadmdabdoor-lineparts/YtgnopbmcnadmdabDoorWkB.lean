/- The walk of LineBack. -/
import Derived.Test.YtgnopbmcnadmdabDoorTxB
import Derived.Test.YtgnopbmcnadmdabDoorWkS
namespace Go.Proofs.YtgnopbmcnadmdabDoor
open Go.RowKit
set_option linter.unusedVariables false
set_option linter.unusedSimpArgs false

theorem split_str (T : Tx.Bs) (R : Tx.Res) (hT : Tx.split T = R) (m : Int) (w : World) (hm : w.cell? ⟨0, 0, none⟩ = some (.int .i64 m)) (h0 : 0 < w.heap.size) :
    Calls Tryd.prog 8 #[strV T] w fun x w' =>
      Below w.heap.size w w' ∧ ∃ v, x = .returned (.tuple #[v, .int .i64 R.number, .int .i64 R.err]) ∧ OwnLines w' w.heap.size v R.lines := by
  have := split_any ⟨T.toArray⟩ m w hm h0
  rw [splitLs_is] at this
  subst hT
  exact this
theorem split_joined (ls : List Tx.Ln) (h : (Tx.join ls).2.2 = 0) (m : Int) (w : World) (hm : w.cell? ⟨0, 0, none⟩ = some (.int .i64 m)) (h0 : 0 < w.heap.size) :
    Calls Tryd.prog 8 #[strV (Tx.join ls).1] w fun x w' =>
      Below w.heap.size w w' ∧ ∃ v, x = .returned (.tuple #[v, .int .i64 0, .int .i64 0]) ∧ OwnLines w' w.heap.size v (Tx.renum 1 ls) :=
  split_str _ _ (Tx.split_join h) m w hm h0
theorem max_below {w w' : World} {m : Int} (h0 : 0 < w.heap.size) (hm : w.cell? ⟨0, 0, none⟩ = some (.int .i64 m)) (hb : Below w.heap.size w w') : Hid (w'.cell? ⟨0, 0, none⟩ = some (.int .i64 m)) := by
  show _ = _
  rw [hb.cell (p := ⟨0, 0, none⟩) h0]; exact hm
theorem renum_fields (ls : List Tx.Ln) (h : ∀ l ∈ ls, l.fields.length ≤ 12) : ∀ (n : Int) (i : Nat) (a : Tx.Ln), (Tx.renum n ls)[i]? = some a → a.fields.length ≤ 100000 := by
  induction ls with
  | nil => intro n i a q; simp [Tx.renum] at q
  | cons l r ih =>
    intro n i a q
    cases i with
    | zero => simp [Tx.renum] at q; subst q; have := h l (by simp); simp; omega
    | succ i => exact ih (fun x hx => h x (by simp [hx])) (n + 1) i a (by simpa [Tx.renum] using q)

theorem split_is (s : ByteArray) (m : Int) (w : World) (hm : w.cell? ⟨0, 0, none⟩ = some (.int .i64 m)) (h0 : 0 < w.heap.size) :
    Calls Tryd.prog 8 #[.string s] w fun x w' =>
      Below w.heap.size w w' ∧ ∃ v, x = .returned (.tuple #[v, .int .i64 (Tx.split s.data.toList).number, .int .i64 (Tx.split s.data.toList).err]) ∧ OwnLines w' w.heap.size v (Tx.split s.data.toList).lines := by
  have := split_any s m w hm h0
  rwa [splitLs_is] at this

set_option maxRecDepth 100000 in
set_option maxHeartbeats 1000000 in
theorem lineBack_walk (v : Value) (ls : List Tx.Ln) (s : ByteArray) (m : Int) (w : World) (hm : w.cell? ⟨0, 0, none⟩ = some (.int .i64 m)) (h0 : 0 < w.heap.size) (hr : RdLines w v ls) (hsh : Hid (∀ l ∈ ls, ∀ f ∈ l.fields, Short f)) :
    Calls Tryd.prog 6 #[v, .string s] w fun e w' => e = .returned (.bool true) ∧ Below w.heap.size w w' := by
  have HR := hid hr
  have HM := hid hm
  obtain ⟨va, vcap, rfl⟩ := rdLines_shape hr
  clear hm hr
  go_enter Tryd.func6, Tryd.ntmps6
  go_wp2_with fail
  refine (lineBegun_is m _ HM.out h0).mono ?_
  rintro e w1 ⟨rfl, hb1⟩
  have s1 := hb1.size
  have M1 := max_below h0 HM.out hb1
  have R1 := hid (rdLines_below HR.out hb1)
  have B1 := hid hb1
  clear HR HM hb1
  go_wp2_with fail
  refine (join_any _ ls _ R1.out hsh).mono ?_
  rintro e w2 ⟨hb2, rfl⟩
  have s2 := hb2.size
  have M2 := max_below (by omega) M1.out hb2
  have R2 := hid (rdLines_below R1.out hb2)
  have B2 := hid (B1.out.trans (hb2.mono s1))
  clear M1 R1 B1 hb2
  by_cases hE : (Tx.join ls).2.2 = 0
  · have hE' : ((Tx.join ls).2.2 == 0) = true := by simp [hE]
    have HE := hid hE
    rw [hE]
    clear hE hE'
    go_wp2_with fail
    refine (split_joined ls HE.out m _ M2.out (by omega)).mono ?_
    rintro e w3 ⟨hb3, v3, rfl, hown3⟩
    have s3 := hb3.size
    have M3 := max_below (by omega) M2.out hb3
    have R3 := hid (rdLines_below R2.out hb3)
    have B3 := hid (B2.out.trans (hb3.mono (by omega)))
    have O3 := hid (own_rdLines hown3)
    clear M2 R2 B2 hb3 hown3
    go_wp2_with fail
    obtain ⟨g1, g2, _, _⟩ := Tx.join_good HE.out
    refine (sameLines_yes _ _ _ _ false _ O3.out R3.out (Tx.renum_alike ls 1).1 (by rw [Tx.renum_len]; omega) (renum_fields ls (fun l hl => (g2 l hl).2.1) 1)).mono ?_
    rintro e w4 ⟨rfl, hb4⟩
    have s4 := hb4.size
    have M4 := max_below (by omega) M3.out hb4
    have B4 := hid (B3.out.trans (hb4.mono (by omega)))
    clear M3 R3 B3 O3 hb4 g1 g2
    have sA : w.heap.size ≤ w4.heap.size := by omega
    have MA := M4
    have BA := B4
    clear M4 B4 s1 s2 s3 s4
    go_wp2_with fail
    refine (split_is s m _ MA.out (by omega)).mono ?_
    rintro e w5 ⟨hb5, v5, rfl, hown5⟩
    have s5 := hb5.size
    have M5 := max_below (by omega) MA.out hb5
    have B5 := hid (BA.out.trans (hb5.mono sA))
    have T := hid (Tx.split_tidy s.data.toList)
    have LL := hid (Tx.split_lines s.data.toList).1
    have LC := hid (Tx.split_counts s.data.toList)
    have SS := hid (splits_short s)
    have JS := hid (Tx.join_split s.data.toList)
    have O5 := hid hown5
    clear hb5 hown5 MA BA
    generalize Tx.split s.data.toList = R at *
    obtain ⟨xa, xcap, hv5⟩ := ownLines_shape O5.out
    subst hv5
    by_cases h5 : R.err = 0
    · have h5' : (R.err != 0) = false := by simp [h5]
      have O5' := hid (own_rdLines O5.out)
      clear O5 T
      rw [h5]
      clear h5 h5'
      go_wp2_with fail
      refine (join_any _ R.lines _ O5'.out SS.out).mono ?_
      rintro e w6 ⟨hb6, rfl⟩
      have s6 := hb6.size
      have M6 := max_below (by omega) M5.out hb6
      have B6 := hid (B5.out.trans (hb6.mono (by omega)))
      have O6 := hid (rdLines_below O5'.out hb6)
      clear hb6 M5 B5 O5'
      by_cases h6 : (Tx.join R.lines).2.2 = 0
      · have H6 := hid h6
        rw [h6]
        clear h6
        go_wp2_with fail
        refine (split_joined R.lines H6.out m _ M6.out (by omega)).mono ?_
        rintro e w7 ⟨hb7, v7, rfl, hown7⟩
        have s7 := hb7.size
        have B7 := hid (B6.out.trans (hb7.mono (by omega)))
        have O7 := hid (rdLines_below O6.out hb7)
        have Q7 := hid (own_rdLines hown7)
        clear hb7 hown7 M6 B6 O6
        go_wp2_with fail
        refine (sameLines_yes _ _ _ _ false _ O7.out Q7.out (Tx.renum_alike R.lines 1).2 (by have := LL.out; omega) (fun i a h => by have := (LC.out a (List.mem_of_getElem? h)).1; omega)).mono ?_
        rintro e w8 ⟨rfl, hb8⟩
        go_wp2
        go_ret
        exact ⟨rfl, B7.out.trans (hb8.mono (by omega))⟩
      · have H6 := hid h6
        have h62 : (Tx.join R.lines).2.2 = 2 := by
          rcases JS.out with q | q
          · exact absurd q h6
          · exact q
        rw [h62]
        clear h6 h62 JS
        go_wp2
        go_ret
        exact ⟨rfl, B6.out⟩
    · have h5' : (R.err != 0) = true := by simp [h5]
      have hl : R.lines = [] := by
        have t := T.out
        unfold Tx.Tidy at t
        rwa [if_neg h5] at t
      have hl0 : R.lines.length = 0 := by rw [hl]; rfl
      rw [hl0]
      have H5 := hid h5
      clear O5 T hl hl0 JS SS LC LL h5
      go_wp2
      go_ret
      exact ⟨rfl, B5.out⟩
  · have hE' : ((Tx.join ls).2.2 == 0) = false := by simp [hE]
    have sA : w.heap.size ≤ w2.heap.size := by omega
    have MA := M2
    have BA := B2
    clear M2 B2 R2 s1 s2
    go_wp2_with fail
    refine (split_is s m _ MA.out (by omega)).mono ?_
    rintro e w5 ⟨hb5, v5, rfl, hown5⟩
    have s5 := hb5.size
    have M5 := max_below (by omega) MA.out hb5
    have B5 := hid (BA.out.trans (hb5.mono sA))
    have T := hid (Tx.split_tidy s.data.toList)
    have LL := hid (Tx.split_lines s.data.toList).1
    have LC := hid (Tx.split_counts s.data.toList)
    have SS := hid (splits_short s)
    have JS := hid (Tx.join_split s.data.toList)
    have O5 := hid hown5
    clear hb5 hown5 MA BA
    generalize Tx.split s.data.toList = R at *
    obtain ⟨xa, xcap, hv5⟩ := ownLines_shape O5.out
    subst hv5
    by_cases h5 : R.err = 0
    · have h5' : (R.err != 0) = false := by simp [h5]
      have O5' := hid (own_rdLines O5.out)
      clear O5 T
      rw [h5]
      clear h5 h5'
      go_wp2_with fail
      refine (join_any _ R.lines _ O5'.out SS.out).mono ?_
      rintro e w6 ⟨hb6, rfl⟩
      have s6 := hb6.size
      have M6 := max_below (by omega) M5.out hb6
      have B6 := hid (B5.out.trans (hb6.mono (by omega)))
      have O6 := hid (rdLines_below O5'.out hb6)
      clear hb6 M5 B5 O5'
      by_cases h6 : (Tx.join R.lines).2.2 = 0
      · have H6 := hid h6
        rw [h6]
        clear h6
        go_wp2_with fail
        refine (split_joined R.lines H6.out m _ M6.out (by omega)).mono ?_
        rintro e w7 ⟨hb7, v7, rfl, hown7⟩
        have s7 := hb7.size
        have B7 := hid (B6.out.trans (hb7.mono (by omega)))
        have O7 := hid (rdLines_below O6.out hb7)
        have Q7 := hid (own_rdLines hown7)
        clear hb7 hown7 M6 B6 O6
        go_wp2_with fail
        refine (sameLines_yes _ _ _ _ false _ O7.out Q7.out (Tx.renum_alike R.lines 1).2 (by have := LL.out; omega) (fun i a h => by have := (LC.out a (List.mem_of_getElem? h)).1; omega)).mono ?_
        rintro e w8 ⟨rfl, hb8⟩
        go_wp2
        go_ret
        exact ⟨rfl, B7.out.trans (hb8.mono (by omega))⟩
      · have H6 := hid h6
        have h62 : (Tx.join R.lines).2.2 = 2 := by
          rcases JS.out with q | q
          · exact absurd q h6
          · exact q
        rw [h62]
        clear h6 h62 JS
        go_wp2
        go_ret
        exact ⟨rfl, B6.out⟩
    · have h5' : (R.err != 0) = true := by simp [h5]
      have hl : R.lines = [] := by
        have t := T.out
        unfold Tx.Tidy at t
        rwa [if_neg h5] at t
      have hl0 : R.lines.length = 0 := by rw [hl]; rfl
      rw [hl0]
      have H5 := hid h5
      clear O5 T hl hl0 JS SS LC LL h5
      go_wp2
      go_ret
      exact ⟨rfl, B5.out⟩
end Go.Proofs.YtgnopbmcnadmdabDoor
