/- The contract of Split. -/
import Derived.Test.YtgnopbmcnadmdabDoorLnV
import Derived.Test.YtgnopbmcnadmdabDoorLnU
namespace Go.Proofs.YtgnopbmcnadmdabDoor
open Go.RowKit
set_option linter.unusedVariables false
set_option linter.unusedSimpArgs false

theorem owns_at {w w' : World} {B : Nat} {e : TypeId} {z : Nat} {v : Value} {n : Nat} {xs : List Value} (h : w.ownsRow B e z v n xs) (hk : ∀ k, B ≤ k → k < w.heap.size → w'.heap[k]? = w.heap[k]?) : w'.ownsRow B e z v n xs := by
  refine ⟨h.1, ?_⟩
  rcases h.2 with hn | ⟨g, cap, cur, rfl, hb, hg, rest⟩
  · exact .inl hn
  · exact .inr ⟨g, cap, cur, rfl, hb, (hk g hb (Array.getElem?_eq_some_iff.1 hg).1).trans hg, rest⟩
theorem ownLines_at {w w' : World} {B : Nat} {v : Value} {ls : List Tx.Ln} (h : OwnLines w B v ls) (hk : ∀ k, B ≤ k → k < w.heap.size → w'.heap[k]? = w.heap[k]?) : OwnLines w' B v ls := by
  obtain ⟨vs, h1, h2, h3⟩ := h
  exact ⟨vs, h1, owns_at h2 hk, fun i fv l a b => owns_at (h3 i fv l a b) hk⟩
theorem setCell_at (w : World) (p : Addr) (u : Value) (k : Nat) (h : p.block < k) : (w.setCell p u).heap[k]? = w.heap[k]? := Below.heap_setCell w p u k (by omega)
theorem setCell_size (w : World) (p : Addr) (u : Value) : (w.setCell p u).heap.size = w.heap.size := by simp

def splitLs (s : ByteArray) : List Tx.Ln := if (Tx.split s.data.toList).err = 0 then (Tx.split s.data.toList).lines else []
def four (s : ByteArray) (w : World) : World := (((w.alloc (.cells #[.string s] 9)).alloc (.cells #[.slice none 0 0] 23)).alloc (.cells #[.int .i64 0] 3)).alloc (.cells #[.int .i64 4] 24)
def SplitOk (s : ByteArray) (w : World) (w' : World) : Prop :=
  (Tx.split s.data.toList).err = 0 ∧ ∃ v w1, Below (w.heap.size + 4) (four s w) w1 ∧ OwnLines w1 (w.heap.size + 4) v (Tx.split s.data.toList).lines ∧ w' = w1.setCell ⟨w.heap.size + 1, 0, none⟩ v
def SplitBad (s : ByteArray) (w : World) (n e : Int) (w' : World) : Prop :=
  (Tx.split s.data.toList).err ≠ 0 ∧ n = (Tx.split s.data.toList).number ∧ e = (Tx.split s.data.toList).err ∧ Below (w.heap.size + 4) (four s w) w'
theorem split_err0 (s : Tx.Bs) (h : (Tx.split s).err = 0) : (Tx.split s).number = 0 := by
  unfold Tx.split at h ⊢
  split
  · rename_i h1; simp [h1] at h
  · rename_i h1
    simp only [h1, if_false] at h
    split
    · rename_i h2; simp [h2] at h
    · rename_i h2
      simp only [h2, if_false] at h
      split
      · rename_i h3; simp [h3] at h
      · rfl

theorem split1_four (s : ByteArray) (m : Int) (w : World) (hm : w.cell? ⟨0, 0, none⟩ = some (.int .i64 m)) (h0 : 0 < w.heap.size) :
    Calls Tryd.prog 14 #[.pointer (some ⟨w.heap.size, 0, none⟩), .pointer (some ⟨w.heap.size + 1, 0, none⟩)] (four s w) fun x w' =>
      (w.heap.size + 1 + 1 + 1 < w'.heap.size ∧ w'.cell? ⟨w.heap.size + 1 + 1, 0, none⟩ = some (.int .i64 0) ∧ w'.cell? ⟨w.heap.size + 1 + 1 + 1, 0, none⟩ = some (.int .i64 4) ∧ w'.frozen? ⟨w.heap.size + 1 + 1, 0, none⟩ = false ∧ w'.frozen? ⟨w.heap.size + 1 + 1 + 1, 0, none⟩ = false) ∧
      ((x = .returned (.tuple #[]) ∧ SplitOk s w w') ∨ (∃ n e, x = .panicked [{ v := faultV n e, recovered := false }] ∧ SplitBad s w n e w')) := by
  have hsz : (four s w).heap.size = w.heap.size + 4 := by simp [four]
  have hm' : (four s w).cell? ⟨0, 0, none⟩ = some (.int .i64 m) := by
    have hb : Below w.heap.size w (four s w) := by
      unfold four
      exact ((((Below.refl _ _).alloc (Nat.le_refl _) _).alloc (by simp) _).alloc (by simp; omega) _).alloc (by simp; omega) _
    rw [(bcell hb).1 0 0 h0]; exact hm
  refine (split1_any w.heap.size (w.heap.size + 1) s m (four s w) hm' (by simp [four, go_sem]) (by simp [four, go_sem]) (by simp [four, go_sem]) (by rw [hsz]; omega)).mono ?_
  rintro x w' hO
  have q1 : (four s w).cell? ⟨w.heap.size + 1 + 1, 0, none⟩ = some (.int .i64 0) := by simp [four, go_sem]
  have q2 : (four s w).cell? ⟨w.heap.size + 1 + 1 + 1, 0, none⟩ = some (.int .i64 4) := by simp [four, go_sem]
  have q3 : (four s w).frozen? ⟨w.heap.size + 1 + 1, 0, none⟩ = false := by simp [four, go_sem]
  have q4 : (four s w).frozen? ⟨w.heap.size + 1 + 1 + 1, 0, none⟩ = false := by simp [four, go_sem]
  rcases hO with ⟨he, rfl, v, w1, hb, hown, rfl⟩ | ⟨he, rfl, hb⟩
  · have hs1 := hb.size
    obtain ⟨hc, hz⟩ := bcell hb
    rw [hsz] at hs1
    refine ⟨⟨by simp; omega, ?_, ?_, ?_, ?_⟩, .inl ⟨rfl, he, v, w1, by rw [← hsz]; exact hb, by rw [← hsz]; exact hown, rfl⟩⟩
    · rw [World.cell?_of_block (setCell_at _ _ _ _ (by simp)), hc _ _ (by rw [hsz]; omega)]; exact q1
    · rw [World.cell?_of_block (setCell_at _ _ _ _ (by simp)), hc _ _ (by rw [hsz]; omega)]; exact q2
    · rw [World.frozen?_of_block (setCell_at _ _ _ _ (by simp)), hz _ _ (by rw [hsz]; omega)]; exact q3
    · rw [World.frozen?_of_block (setCell_at _ _ _ _ (by simp)), hz _ _ (by rw [hsz]; omega)]; exact q4
  · have hs1 := hb.size
    obtain ⟨hc, hz⟩ := bcell hb
    rw [hsz] at hs1
    refine ⟨⟨by omega, ?_, ?_, ?_, ?_⟩, .inr ⟨_, _, rfl, he, rfl, rfl, by rw [← hsz]; exact hb⟩⟩
    · rw [hc _ _ (by rw [hsz]; omega)]; exact q1
    · rw [hc _ _ (by rw [hsz]; omega)]; exact q2
    · rw [hz _ _ (by rw [hsz]; omega)]; exact q3
    · rw [hz _ _ (by rw [hsz]; omega)]; exact q4

set_option maxHeartbeats 1000000 in
theorem split_any (s : ByteArray) (m : Int) (w : World) (hm : w.cell? ⟨0, 0, none⟩ = some (.int .i64 m)) (h0 : 0 < w.heap.size) :
    Calls Tryd.prog 8 #[.string s] w fun x w' =>
      Below w.heap.size w w' ∧ ∃ v, x = .returned (.tuple #[v, .int .i64 (Tx.split s.data.toList).number, .int .i64 (Tx.split s.data.toList).err]) ∧
        OwnLines w' w.heap.size v (splitLs s) := by
  have hmf : ∀ (fn : Fn) (first cap : Array Value) (w : World), (Instr.makeFunc fn first cap).run Tryd.prog w = .ok (.func fn first cap) w := fun _ _ _ _ => rfl
  have hg : ∀ a w, (callFunc 14 a).run Tryd.prog w = .ok (.enter 14 a) w := fun _ _ => rfl
  have hbF : Below w.heap.size w (four s w) := by
    unfold four
    exact ((((Below.refl _ _).alloc (Nat.le_refl _) _).alloc (by simp) _).alloc (by simp; omega) _).alloc (by simp; omega) _
  have hsz : (four s w).heap.size = w.heap.size + 4 := by simp [four]
  have AT : Hid (Calls Tryd.prog 13 #[.func (.func 14) #[] #[.pointer (some ⟨w.heap.size, 0, none⟩), .pointer (some ⟨w.heap.size + 1, 0, none⟩)]] ((w.alloc (.cells #[.string s] 9)).alloc (.cells #[.slice none 0 0] 23)) fun x w' =>
      ∃ v, Below w.heap.size w w' ∧ x = .returned (.tuple #[.int .i64 (Tx.split s.data.toList).number, .int .i64 (Tx.split s.data.toList).err]) ∧ w'.cell? ⟨w.heap.size + 1, 0, none⟩ = some v ∧
        OwnLines w' w.heap.size v (splitLs s)) := by
    have := split1_four s m w hm h0
    refine (attempt_of 14 _ _ ((w.alloc (.cells #[.string s] 9)).alloc (.cells #[.slice none 0 0] 23)) (SplitOk s w) (SplitBad s w) hg ?_).mono ?_
    · refine hid ?_
      simpa [four] using this
    · rintro x w' (⟨w2, ⟨he, v, w1, hb, hown, rfl⟩, rfl, rfl⟩ | ⟨n, e, w1, ⟨he, rfl, rfl, hb⟩, rfl, rfl⟩)
      · have hs1 := hb.size
        rw [hsz] at hs1
        refine ⟨v, ?_, by rw [he, split_err0 _ he], ?_, ?_⟩
        · refine ((((hbF.trans (hb.mono (by omega))).setCell (by simp) _).setCell (by simp; omega) _).setCell (by simp; omega) _).alloc ?_ _
          simp; omega
        · have hc1 : w1.cell? ⟨w.heap.size + 1, 0, none⟩ = some (.slice none 0 0) := by
            rw [hb.cell (p := ⟨w.heap.size + 1, 0, none⟩) (by simp)]; simp [four, go_sem]
          have hl1 : w.heap.size + 1 < w1.heap.size := by omega
          simp [go_sem, hc1, hl1]
        · rw [splitLs, if_pos he]
          refine ownLines_base (ownLines_at hown ?_) (by omega)
          intro k h1 h2
          rw [Below.heap_alloc _ _ _ (by simpa using h2), setCell_at _ _ _ _ (by simp; omega), setCell_at _ _ _ _ (by simp; omega), setCell_at _ _ _ _ (by simp; omega)]
      · have hs1 := hb.size
        rw [hsz] at hs1
        have hc1 : w1.cell? ⟨w.heap.size + 1, 0, none⟩ = some (.slice none 0 0) := by
          rw [hb.cell (p := ⟨w.heap.size + 1, 0, none⟩) (by simp)]; simp [four, go_sem]
        refine ⟨.slice none 0 0, ?_, rfl, ?_, ?_⟩
        · refine (((((hbF.trans (hb.mono (by omega)))).setCell (by simp; omega) _).setCell (by simp; omega) _).alloc ?_ _).drew
          simp; omega
        · have hl1 : w.heap.size + 1 < w1.heap.size := by omega
          simp [go_sem, hc1, hl1]
        · rw [splitLs, if_neg he]
          exact ownLines_nil _ _
  go_enter Tryd.func8, Tryd.ntmps8
  go_wp2_with fail
  refine AT.out.mono ?_
  rintro x w1 ⟨v, hb, rfl, hc, hown⟩
  obtain ⟨va, vcap, rfl⟩ := ownLines_shape hown
  go_wp2
  simp [bodyPost, results, Tryd.results8, go_sem]
  exact ⟨hb, hown⟩
end Go.Proofs.YtgnopbmcnadmdabDoor
