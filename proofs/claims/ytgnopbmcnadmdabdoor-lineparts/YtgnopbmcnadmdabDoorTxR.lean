/- strings.Split at a line feed gives the rows. -/
import Derived.Test.YtgnopbmcnadmdabDoorTxL
import Derived.Lib.SplitLaws
import Derived.Lib.Split
import Derived.Lib.IndexLaws
import Derived.Lib.Strings
import Derived.Lib.CountLaws
namespace Go.Proofs.YtgnopbmcnadmdabDoor
set_option linter.unusedVariables false
set_option linter.unusedSimpArgs false

abbrev nl : ByteArray := ⟨#[10]⟩
theorem splitB_rows : ∀ (m : Nat) (s : ByteArray), s.size ≤ m → (Lib.splitB nl 0 (Lib.countB s nl) s).map (fun b => b.data.toList) = Tx.rows s.data.toList ∧ (Lib.splitB nl 0 (Lib.countB s nl) s).length = Lib.countB s nl + 1
  | m, s, hm => by
    have e1 : Lib.indexB s nl = Lib.indexByte s.data.toList 10 := Lib.index_one _ _
    have hL : s.data.toList.length = s.size := by simp
    by_cases hn : Lib.indexB s nl = -1
    · rw [Lib.countB_miss s nl hn, Lib.splitB_zero]
      have := Lib.indexByte_none (e1.symm.trans hn)
      refine ⟨?_, rfl⟩
      rw [Tx.rows_last _ (fun c hc => ?_)]
      · rfl
      · rintro rfl
        obtain ⟨k, hk⟩ := List.getElem?_of_mem hc
        exact this k hk
    · have hge := Lib.indexByte_ge s.data.toList 10
      obtain ⟨i, hi⟩ : ∃ i : Nat, Lib.indexB s nl = i := ⟨(Lib.indexB s nl).toNat, by rw [e1] at hn ⊢; omega⟩
      obtain ⟨h1, h2⟩ := Lib.indexByte_some (e1.symm.trans hi)
      have hlt : i < s.data.toList.length := (List.getElem?_eq_some_iff.1 h1).1
      have hnl : nl.size = 1 := rfl
      rw [Lib.countB_hit s nl i (by decide) hi, Nat.add_comm 1, Lib.splitB_hit nl 0 _ s i hi]
      have hext : (s.extract (i + nl.size) s.size).data.toList = s.data.toList.drop (i + 1) := by
        rw [Lib.extract_data, hnl, List.take_of_length_le (by simp)]
      have hsz : (s.extract (i + nl.size) s.size).size = s.size - (i + 1) := by
        have : (s.extract (i + nl.size) s.size).data.toList.length = (s.extract (i + nl.size) s.size).size := by simp
        rw [← this, hext]; simp
      cases m with
      | zero => omega
      | succ m =>
        obtain ⟨ih1, ih2⟩ := splitB_rows m (s.extract (i + nl.size) s.size) (by omega)
        refine ⟨?_, by simp [ih2]⟩
        simp only [List.map_cons]
        rw [ih1, hext]
        have e2 : s.data.toList = s.data.toList.take i ++ 10 :: s.data.toList.drop (i + 1) := by
          conv => lhs; rw [← List.take_append_drop i s.data.toList]
          congr 1
          rw [List.drop_eq_getElem_cons hlt]
          congr 1
          rw [List.getElem?_eq_getElem hlt] at h1
          simpa using h1
        have e3 : (s.extract 0 (i + 0)).data.toList = s.data.toList.take i := by rw [Lib.extract_data]; simp
        rw [e3]
        conv => rhs; rw [e2]
        rw [Tx.rows_feed _ _ (fun c hc => ?_)]
        rintro rfl
        obtain ⟨k, hk⟩ := List.getElem?_of_mem hc
        have hk2 : k < i := by
          have := (List.getElem?_eq_some_iff.1 hk).1
          simp at this; omega
        rw [List.getElem?_take_of_lt hk2] at hk
        exact h2 k hk2 hk
theorem rows_len : ∀ (l : Tx.Bs), (Tx.rows l).length ≤ l.length + 1 ∧ ∀ r ∈ Tx.rows l, r.length ≤ l.length
  | [] => by simp [Tx.rows]
  | c :: l => by
    have ih := rows_len l
    unfold Tx.rows
    split
    · refine ⟨by simp; omega, ?_⟩
      intro r hr
      simp at hr
      rcases hr with rfl | hr
      · simp
      · have := ih.2 r hr; simp; omega
    · cases h : Tx.rows l with
      | nil => exact absurd h (Tx.rows_ne l)
      | cons x xs =>
        rw [h] at ih
        simp only
        refine ⟨by simpa using (by simp at ih; omega : xs.length + 1 ≤ l.length + 1 + 1), ?_⟩
        intro r hr
        simp at hr
        rcases hr with rfl | hr
        · have := ih.2 x (by simp); simp; omega
        · have := ih.2 r (by simp [hr]); simp; omega
end Go.Proofs.YtgnopbmcnadmdabDoor
