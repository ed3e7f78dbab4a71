/- The contract of joinText. -/
import Derived.Test.YtgnopbmcnadmdabDoorLnL
namespace Go.Proofs.YtgnopbmcnadmdabDoor.Tx
def jgo (acc : Bs) (n : Int) : List Ln → Bs × Int × Int
  | [] => if 8000 < acc.length then ([], 0, 2) else (acc, 0, 0)
  | l :: r => if (jline l.inner l.fields).2 ≠ 0 then ([], n, (jline l.inner l.fields).2) else jgo (acc ++ (jline l.inner l.fields).1) (n + 1) r
def join (ls : List Ln) : Bs × Int × Int := if 200 < ls.length then ([], 0, 2) else jgo [] 1 ls
theorem jrow_len : ∀ (fs : List Bs) (acc : Bs) (b : Bool), (jrow acc b fs).2 = 0 → (jrow acc b fs).1.length ≤ acc.length + 27 * fs.length + 1
  | [], acc, b, h => by simp [jrow]
  | f :: r, acc, b, h => by
    unfold jrow at h ⊢
    split
    · rename_i g; rw [if_pos g] at h; simp
    · rename_i g
      rw [if_neg g] at h
      have ih := jrow_len r _ false h
      have hf := jfText_len (Decidable.not_not.1 g)
      have : (if b = true then ([] : Bs) else [32]).length ≤ 1 := by split <;> simp
      simp at ih ⊢
      omega
theorem jline_len {inn : Bool} {fs : List Bs} (h : (jline inn fs).2 = 0) : (jline inn fs).1.length ≤ 400 := by
  unfold jline at h ⊢
  split
  · simp
  · split
    · simp
    · rename_i h1 h2
      rw [if_neg h1, if_neg h2] at h
      have := jrow_len fs _ true h
      have : (if inn = true then ([32] : Bs) else []).length ≤ 1 := by split <;> simp
      omega
end Go.Proofs.YtgnopbmcnadmdabDoor.Tx
namespace Go.Proofs.YtgnopbmcnadmdabDoor
open Go.RowKit
set_option linter.unusedVariables false
set_option linter.unusedSimpArgs false

def DropL (ls : List Tx.Ln) (i : Nat) (l : Tx.Ln) : Prop := ls.drop i = l :: ls.drop (i + 1)
def TextI (ls : List Tx.Ln) (W : World) (H : Nat) (i : Nat) (acc : Tx.Bs) (wr : World) : Prop :=
  IsB H H (Lib.byteCells acc) wr ∧ Below H W wr ∧ acc.length ≤ 400 * i ∧ Tx.join ls = Tx.jgo acc (1 + i) (ls.drop i)
section
variable {ls : List Tx.Ln} {W : World} {H i : Nat} {acc : Tx.Bs} {l : Tx.Ln} {wr w' : World}
theorem textI_err (h : TextI ls W H i acc wr) (hd : DropL ls i l) (he : (Tx.jline l.inner l.fields).2 ≠ 0) : Tx.join ls = ([], 1 + (i : Int), (Tx.jline l.inner l.fields).2) := by
  rw [h.2.2.2, hd, Tx.jgo, if_pos he]
theorem textI_next (h : TextI ls W H i acc wr) (hd : DropL ls i l) (he : (Tx.jline l.inner l.fields).2 = 0) (h1 : IsB H H (Lib.byteCells (acc ++ (Tx.jline l.inner l.fields).1)) w') (h2 : Below H W w') : TextI ls W H (i + 1) (acc ++ (Tx.jline l.inner l.fields).1) w' := by
  refine ⟨h1, h2, ?_, ?_⟩
  · have := h.2.2.1; have := Tx.jline_len he; simp; omega
  · rw [h.2.2.2, hd, Tx.jgo, if_neg (by simp [he]), show 1 + (i : Int) + 1 = 1 + ((i + 1 : Nat) : Int) by omega]
theorem textI_many (h : TextI ls W H i acc wr) (hi : ls.length ≤ i) (h8 : 8000 < acc.length) : Tx.join ls = ([], 0, 2) := by
  rw [h.2.2.2, List.drop_eq_nil_of_le hi, Tx.jgo, if_pos h8]
theorem textI_end (h : TextI ls W H i acc wr) (hi : ls.length ≤ i) (h8 : ¬ 8000 < acc.length) : Tx.join ls = (acc, 0, 0) := by
  rw [h.2.2.2, List.drop_eq_nil_of_le hi, Tx.jgo, if_neg h8]
end
def TextJ (ls : List Tx.Ln) (w : World) (e : Ending) (w' : World) : Prop :=
  Below w.heap.size w w' ∧ (((Tx.join ls).2.2 = 0 ∧ e = .returned (strV (Tx.join ls).1)) ∨ ((Tx.join ls).2.2 ≠ 0 ∧ e = .panicked [{ v := faultV (Tx.join ls).2.1 (Tx.join ls).2.2, recovered := false }]))
theorem len_b (B b : Nat) (l : Tx.Bs) (w : World) (h : IsB B b (Lib.byteCells l) w) :
    Calls Tryd.prog 27 #[.pointer (some ⟨b, 0, none⟩)] w fun e w' => e = .returned (.int .i64 l.length) ∧ w' = w :=
  (Tryd.Builder_Len B b _ w h).mono (by rintro e w' ⟨a, b⟩; exact ⟨by rw [a, byteCells_len], b⟩)

set_option maxRecDepth 100000 in
set_option maxHeartbeats 400000 in
theorem joinText_many (v : Value) (ls : List Tx.Ln) (w : World) (hr : RdLines w v ls) (h : 200 < ls.length) :
    Calls Tryd.prog 19 #[v] w fun e w' => TextJ ls w e w' := by
  obtain ⟨a, cap, rfl, _⟩ := hr
  have h3 : Hid (Tx.join ls = ([], 0, 2)) := by
    show _ = _
    rw [Tx.join, if_pos h]
  obtain ⟨L, hL⟩ : ∃ L, ls.length = L := ⟨_, rfl⟩
  rw [hL] at h ⊢
  have h2 : decide ((L : Int) ≤ 200) = false := by simp; omega
  clear hL
  go_enter Tryd.func19, Tryd.ntmps19
  go_wp2_with fail
  refine (require_no _ _ _).mono ?_
  rintro e w1 ⟨rfl, rfl⟩
  exact ⟨rfl, Below.refl _ _, .inr ⟨by rw [h3.out]; decide, by rw [h3.out]⟩⟩

set_option maxRecDepth 100000 in
set_option maxHeartbeats 400000 in
theorem joinText_few (v : Value) (ls : List Tx.Ln) (w : World) (hr : RdLines w v ls) (h : ls.length ≤ 200) (hsh : Hid (∀ l ∈ ls, ∀ f ∈ l.fields, Short f)) :
    Calls Tryd.prog 19 #[v] w fun e w' => TextJ ls w e w' := by
  obtain ⟨a, cap, rfl, hr⟩ := hr
  have HC := hid hr
  clear hr
  have HJ : Hid (Tx.join ls = Tx.jgo [] 1 ls) := by
    show _ = _
    rw [Tx.join, if_neg (by omega)]
  obtain ⟨L, hL⟩ : ∃ L, ls.length = L := ⟨_, rfl⟩
  have HL := hid hL
  rw [hL] at h ⊢
  clear hL
  have h2 : decide ((L : Int) ≤ 200) = true := by simp; omega
  have I0 : Hid (TextI ls w w.heap.size 0 [] (w.alloc (.cells #[.pointer none, .slice none 0 0] 53))) :=
      ⟨by simpa [Lib.byteCells] using Lib.fresh_isBuilder 53 5 w, (Below.refl _ _).alloc (by simp) _, by simp, by rw [HJ.out]; rfl⟩
  clear HJ
  go_enter Tryd.func19, Tryd.ntmps19
  go_wp2_with fail
  refine (require_yes _ _ _).mono ?_
  rintro e w1 ⟨rfl, hw1⟩
  subst w1
  go_wp2_with fail
  go_loopw [12] (fun a wr => ∃ i : Nat, i ≤ L ∧ a = .int .i64 i ∧ ∃ acc, Hid (TextI ls w w.heap.size i acc wr)) (fun a _ => L - (intOf a).toNat)
  case atStart => exact ⟨0, by omega, rfl, [], I0⟩
  case round =>
    clear I0
    obtain ⟨i, hi, rfl, acc, I⟩ := hrel
    by_cases hlt : i < L
    · obtain ⟨l, hf⟩ : ∃ l, ls[i]? = some l := ⟨_, List.getElem?_eq_getElem (by rw [HL.out]; exact hlt)⟩
      have hd : DropL ls i l := by
        show _ = _
        obtain ⟨h1, h2⟩ := List.getElem?_eq_some_iff.1 hf
        rw [List.drop_eq_getElem_cons h1, h2]
      obtain ⟨b, o, rfl, hb, hc⟩ := HC.out (by intro q; subst q; simp at hf)
      obtain ⟨c0, c1, fv, c2, rd⟩ := hc i l hf
      have hb2 := I.out.2.1
      have k0 := (hb2.cell (p := ⟨b, o + i * 3, none⟩) hb).trans c0
      have k1 := (hb2.cell (p := ⟨b, o + i * 3 + 1, none⟩) hb).trans c1
      have k2 := (hb2.cell (p := ⟨b, o + i * 3 + 2, none⟩) hb).trans c2
      have RD := hid (rdStrs_below rd hb2)
      have HS : Hid (∀ f ∈ l.fields, Short f) := hsh.out l (List.mem_of_getElem? hf)
      obtain ⟨ln, li, lf⟩ := l
      simp only at k0 k1 k2 RD HS
      clear hf hc c0 c1 c2 rd hb2 HC
      obtain ⟨fa, fcap, rfl⟩ : ∃ a cap, fv = .slice a lf.length cap := by
        obtain ⟨a, cap, q, _⟩ := RD.out; exact ⟨a, cap, q⟩
      have hl := isB_lt I.out.1
      have RD' := hid (rdStrs_below RD.out ((Below.refl wr.heap.size wr).alloc (Nat.le_refl _) (.cells #[.int .i64 ln, .bool li, .slice fa lf.length fcap] 29)))
      have IB' := hid (isB_below I.out.1 ((Below.refl wr.heap.size wr).alloc (Nat.le_refl _) (.cells #[.int .i64 ln, .bool li, .slice fa lf.length fcap] 29)))
      have Ib' := hid (I.out.2.1.trans (((Below.refl wr.heap.size wr).alloc (Nat.le_refl _) (.cells #[.int .i64 ln, .bool li, .slice fa lf.length fcap] 29)).mono (show w.heap.size ≤ wr.heap.size by omega)))
      clear RD
      go_wp2_with fail
      refine (joinRow_any _ _ _ _ lf _ RD'.out HS.out).mono ?_
      rintro e w1 ⟨hb1, hE⟩
      rcases hE with ⟨hz1, rfl⟩ | ⟨hz1, rfl⟩
      · have hs1 := hb1.size
        simp at hs1
        have hB1 := hid (isB_below IB'.out hb1)
        have hb2 := hid (Ib'.out.trans (hb1.mono (show w.heap.size ≤ _ by simp; omega)))
        have ha : acc.length + (Tx.jline li lf).1.length < 1000000000 := by have := I.out.2.2.1; have := Tx.jline_len hz1; omega
        have HZ := hid hz1
        clear hb1 hz1 IB' Ib' RD'
        go_wp2_with fail
        refine (writeString_b _ _ acc (Tx.jline li lf).1 _ hB1.out ha (by omega)).mono ?_
        rintro e w2 ⟨rfl, hB2, hb3⟩
        have I' := hid (textI_next I.out hd HZ.out hB2 (hb2.out.trans hb3))
        clear hB2 hb3 ha
        go_wp2
        go_roundw
        case rel => exact ⟨i + 1, by omega, by go_num, _, I'⟩
        case measure => simp [intOf]; omega
      · go_wp2_with fail
        have hJ := textI_err I.out hd hz1
        refine ⟨rfl, Ib'.out.trans (hb1.mono (by simp; omega)), .inr ?_⟩
        rw [hJ]
        refine ⟨hz1, ?_⟩
        rw [Int.add_comm]
    · have hl := isB_lt I.out.1
      have ha : acc.length ≤ 400 * 200 := by have := I.out.2.2.1; omega
      clear HC
      go_wp2_with fail
      refine (len_b _ _ acc _ I.out.1).mono ?_
      rintro e w1 ⟨rfl, hw1⟩
      subst w1
      by_cases h8 : 8000 < acc.length
      · have hJ := hid (textI_many I.out (by rw [HL.out]; omega) h8)
        have h8' : decide ((acc.length : Int) ≤ 8000) = false := by simp; omega
        clear h8
        go_wp2_with fail
        refine (require_no _ _ _).mono ?_
        rintro e w1 ⟨rfl, hw1⟩
        subst w1
        exact ⟨rfl, I.out.2.1, .inr (by rw [hJ.out]; exact ⟨by decide, rfl⟩)⟩
      · have hJ := hid (textI_end I.out (by rw [HL.out]; omega) h8)
        have h8' : decide ((acc.length : Int) ≤ 8000) = true := by simp; omega
        clear h8
        go_wp2_with fail
        refine (require_yes _ _ _).mono ?_
        rintro e w1 ⟨rfl, hw1⟩
        subst w1
        go_wp2_with fail
        refine (string_b _ _ _ _ I.out.1 (by omega)).mono ?_
        rintro e w1 ⟨rfl, hb1⟩
        go_wp2
        go_ret
        exact ⟨I.out.2.1.trans hb1, .inl (by rw [hJ.out]; exact ⟨rfl, rfl⟩)⟩

theorem joinText_any (v : Value) (ls : List Tx.Ln) (w : World) (hr : RdLines w v ls) (hsh : ∀ l ∈ ls, ∀ f ∈ l.fields, Short f) :
    Calls Tryd.prog 19 #[v] w fun e w' => TextJ ls w e w' := by
  by_cases h : 200 < ls.length
  · exact joinText_many v ls w hr h
  · exact joinText_few v ls w hr (by omega) hsh
end Go.Proofs.YtgnopbmcnadmdabDoor
