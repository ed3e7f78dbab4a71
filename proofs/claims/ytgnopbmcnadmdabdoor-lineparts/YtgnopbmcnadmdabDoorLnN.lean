/- The contract of Join. -/
import Derived.Test.YtgnopbmcnadmdabDoorLnM
import Derived.Test.YtgnopbmcnadmdabDoorLnV
namespace Go.Proofs.YtgnopbmcnadmdabDoor
open Go.RowKit
set_option linter.unusedVariables false
set_option linter.unusedSimpArgs false

theorem j_setCell_at (w : World) (p : Addr) (u : Value) (k : Nat) (h : p.block < k) : (w.setCell p u).heap[k]? = w.heap[k]? := Below.heap_setCell w p u k (by omega)
theorem rdLines_shape {w : World} {v : Value} {ls : List Tx.Ln} (h : RdLines w v ls) : ∃ a cap, v = .slice a ls.length cap := by
  obtain ⟨a, cap, q, _⟩ := h; exact ⟨a, cap, q⟩
theorem jgo_err : ∀ (ls : List Tx.Ln) (acc : Tx.Bs) (n : Int), ((Tx.jgo acc n ls).2.2 ≠ 0 → (Tx.jgo acc n ls).1 = []) ∧ ((Tx.jgo acc n ls).1.length ≤ 8000)
  | [], acc, n => by
    unfold Tx.jgo
    split
    · simp
    · simp; omega
  | l :: r, acc, n => by
    unfold Tx.jgo
    split
    · simp
    · exact jgo_err r _ _
theorem join_err (ls : List Tx.Ln) (h : (Tx.join ls).2.2 ≠ 0) : (Tx.join ls).1 = [] := by
  unfold Tx.join at h ⊢
  split
  · rfl
  · rename_i q; rw [if_neg q] at h; exact (jgo_err ls _ _).1 h
theorem join_len (ls : List Tx.Ln) : (Tx.join ls).1.length ≤ 8000 := by
  unfold Tx.join
  split
  · simp
  · exact (jgo_err ls _ _).2

set_option maxHeartbeats 1000000 in
theorem join1_any (bs bl : Nat) (v : Value) (ls : List Tx.Ln) (w : World) (hr : RdLines w v ls) (hsh : Hid (∀ l ∈ ls, ∀ f ∈ l.fields, Short f)) (c1 : w.cell? ⟨bs, 0, none⟩ = some v) (c2 : w.cell? ⟨bl, 0, none⟩ = some (.string ⟨#[]⟩)) (z2 : w.frozen? ⟨bl, 0, none⟩ = false) (hl : bl < w.heap.size) :
    Calls Tryd.prog 18 #[.pointer (some ⟨bs, 0, none⟩), .pointer (some ⟨bl, 0, none⟩)] w fun e w' =>
      ((Tx.join ls).2.2 = 0 ∧ e = .returned (.tuple #[]) ∧ ∃ w1, Below w.heap.size w w1 ∧ w' = w1.setCell ⟨bl, 0, none⟩ (strV (Tx.join ls).1)) ∨
      ((Tx.join ls).2.2 ≠ 0 ∧ e = .panicked [{ v := faultV (Tx.join ls).2.1 (Tx.join ls).2.2, recovered := false }] ∧ Below w.heap.size w w') := by
  obtain ⟨va, vcap, rfl⟩ := rdLines_shape hr
  have TC : Hid (Calls Tryd.prog 19 #[.slice va ls.length vcap] w fun e w' => TextJ ls w e w') := joinText_any _ ls w hr hsh.out
  clear hr
  go_enter Tryd.func18, Tryd.ntmps18
  go_wp2_with fail
  refine TC.out.mono ?_
  rintro e w1 ⟨hb, hO⟩
  obtain ⟨hc, hz⟩ := bcell hb
  have c2' := (hc bl 0 hl).trans c2
  have z2' := (hz bl 0 hl).trans z2
  rcases hO with ⟨he, rfl⟩ | ⟨he, rfl⟩
  · have HE := hid he
    clear he
    go_wp2
    go_end0
    exact .inl ⟨HE.out, rfl, w1, hb, rfl⟩
  · exact ⟨rfl, .inr ⟨he, rfl, hb⟩⟩

def fourJ (v : Value) (w : World) : World := (((w.alloc (.cells #[v] 23)).alloc (.cells #[.string ⟨#[]⟩] 9)).alloc (.cells #[.int .i64 0] 3)).alloc (.cells #[.int .i64 4] 24)
def JoinOk (v : Value) (ls : List Tx.Ln) (w : World) (w' : World) : Prop :=
  (Tx.join ls).2.2 = 0 ∧ ∃ w1, Below (w.heap.size + 4) (fourJ v w) w1 ∧ w' = w1.setCell ⟨w.heap.size + 1, 0, none⟩ (strV (Tx.join ls).1)
def JoinBad (v : Value) (ls : List Tx.Ln) (w : World) (n e : Int) (w' : World) : Prop :=
  (Tx.join ls).2.2 ≠ 0 ∧ n = (Tx.join ls).2.1 ∧ e = (Tx.join ls).2.2 ∧ Below (w.heap.size + 4) (fourJ v w) w'

theorem join1_four (v : Value) (ls : List Tx.Ln) (w : World) (hr : RdLines w v ls) (hsh : ∀ l ∈ ls, ∀ f ∈ l.fields, Short f) :
    Calls Tryd.prog 18 #[.pointer (some ⟨w.heap.size, 0, none⟩), .pointer (some ⟨w.heap.size + 1, 0, none⟩)] (fourJ v w) fun x w' =>
      (w.heap.size + 1 + 1 + 1 < w'.heap.size ∧ w'.cell? ⟨w.heap.size + 1 + 1, 0, none⟩ = some (.int .i64 0) ∧ w'.cell? ⟨w.heap.size + 1 + 1 + 1, 0, none⟩ = some (.int .i64 4) ∧ w'.frozen? ⟨w.heap.size + 1 + 1, 0, none⟩ = false ∧ w'.frozen? ⟨w.heap.size + 1 + 1 + 1, 0, none⟩ = false) ∧
      ((x = .returned (.tuple #[]) ∧ JoinOk v ls w w') ∨ (∃ n e, x = .panicked [{ v := faultV n e, recovered := false }] ∧ JoinBad v ls w n e w')) := by
  have hsz : (fourJ v w).heap.size = w.heap.size + 4 := by simp [fourJ]
  have hb : Below w.heap.size w (fourJ v w) := by
    unfold fourJ
    exact ((((Below.refl _ _).alloc (Nat.le_refl _) _).alloc (by simp) _).alloc (by simp; omega) _).alloc (by simp; omega) _
  refine (join1_any w.heap.size (w.heap.size + 1) v ls (fourJ v w) (rdLines_below hr hb) hsh (by simp [fourJ, go_sem]) (by simp [fourJ, go_sem]) (by simp [fourJ, go_sem]) (by rw [hsz]; omega)).mono ?_
  rintro x w' hO
  have q1 : (fourJ v w).cell? ⟨w.heap.size + 1 + 1, 0, none⟩ = some (.int .i64 0) := by simp [fourJ, go_sem]
  have q2 : (fourJ v w).cell? ⟨w.heap.size + 1 + 1 + 1, 0, none⟩ = some (.int .i64 4) := by simp [fourJ, go_sem]
  have q3 : (fourJ v w).frozen? ⟨w.heap.size + 1 + 1, 0, none⟩ = false := by simp [fourJ, go_sem]
  have q4 : (fourJ v w).frozen? ⟨w.heap.size + 1 + 1 + 1, 0, none⟩ = false := by simp [fourJ, go_sem]
  rcases hO with ⟨he, rfl, w1, hb, rfl⟩ | ⟨he, rfl, hb⟩
  · have hs1 := hb.size
    obtain ⟨hc, hz⟩ := bcell hb
    rw [hsz] at hs1
    refine ⟨⟨by simp; omega, ?_, ?_, ?_, ?_⟩, .inl ⟨rfl, he, w1, by rw [← hsz]; exact hb, rfl⟩⟩
    · rw [World.cell?_of_block (j_setCell_at _ _ _ _ (by simp)), hc _ _ (by rw [hsz]; omega)]; exact q1
    · rw [World.cell?_of_block (j_setCell_at _ _ _ _ (by simp)), hc _ _ (by rw [hsz]; omega)]; exact q2
    · rw [World.frozen?_of_block (j_setCell_at _ _ _ _ (by simp)), hz _ _ (by rw [hsz]; omega)]; exact q3
    · rw [World.frozen?_of_block (j_setCell_at _ _ _ _ (by simp)), hz _ _ (by rw [hsz]; omega)]; exact q4
  · have hs1 := hb.size
    obtain ⟨hc, hz⟩ := bcell hb
    rw [hsz] at hs1
    refine ⟨⟨by omega, ?_, ?_, ?_, ?_⟩, .inr ⟨_, _, rfl, he, rfl, rfl, by rw [← hsz]; exact hb⟩⟩
    · rw [hc _ _ (by rw [hsz]; omega)]; exact q1
    · rw [hc _ _ (by rw [hsz]; omega)]; exact q2
    · rw [hz _ _ (by rw [hsz]; omega)]; exact q3
    · rw [hz _ _ (by rw [hsz]; omega)]; exact q4

set_option maxHeartbeats 1000000 in
theorem join_any (v : Value) (ls : List Tx.Ln) (w : World) (hr : RdLines w v ls) (hsh : Hid (∀ l ∈ ls, ∀ f ∈ l.fields, Short f)) :
    Calls Tryd.prog 11 #[v] w fun x w' =>
      Below w.heap.size w w' ∧ x = .returned (.tuple #[strV (Tx.join ls).1, .int .i64 (Tx.join ls).2.2]) := by
  have hmf : ∀ (fn : Fn) (first cap : Array Value) (w : World), (Instr.makeFunc fn first cap).run Tryd.prog w = .ok (.func fn first cap) w := fun _ _ _ _ => rfl
  have hg : ∀ a w, (callFunc 18 a).run Tryd.prog w = .ok (.enter 18 a) w := fun _ _ => rfl
  obtain ⟨va, vcap, rfl⟩ := rdLines_shape hr
  have hbF : Below w.heap.size w (fourJ (.slice va ls.length vcap) w) := by
    unfold fourJ
    exact ((((Below.refl _ _).alloc (Nat.le_refl _) _).alloc (by simp) _).alloc (by simp; omega) _).alloc (by simp; omega) _
  have hsz : (fourJ (.slice va ls.length vcap) w).heap.size = w.heap.size + 4 := by simp [fourJ]
  have AT : Hid (Calls Tryd.prog 13 #[.func (.func 18) #[] #[.pointer (some ⟨w.heap.size, 0, none⟩), .pointer (some ⟨w.heap.size + 1, 0, none⟩)]] ((w.alloc (.cells #[.slice va ls.length vcap] 23)).alloc (.cells #[.string ⟨#[]⟩] 9)) fun x w' =>
      Below w.heap.size w w' ∧ ∃ n, x = .returned (.tuple #[.int .i64 n, .int .i64 (Tx.join ls).2.2]) ∧ w'.cell? ⟨w.heap.size + 1, 0, none⟩ = some (strV (Tx.join ls).1)) := by
    have := join1_four (.slice va ls.length vcap) ls w hr hsh.out
    refine (attempt_of 18 _ _ ((w.alloc (.cells #[.slice va ls.length vcap] 23)).alloc (.cells #[.string ⟨#[]⟩] 9)) (JoinOk (.slice va ls.length vcap) ls w) (JoinBad (.slice va ls.length vcap) ls w) hg ?_).mono ?_
    · refine hid ?_
      simpa [fourJ] using this
    · rintro x w' (⟨w2, ⟨he, w1, hb, rfl⟩, rfl, rfl⟩ | ⟨n, e, w1, ⟨he, rfl, rfl, hb⟩, rfl, rfl⟩)
      · have hs1 := hb.size
        rw [hsz] at hs1
        have hc1 : w1.cell? ⟨w.heap.size + 1, 0, none⟩ = some (.string ⟨#[]⟩) := by
          rw [hb.cell (p := ⟨w.heap.size + 1, 0, none⟩) (by simp)]; simp [fourJ, go_sem]
        have hl1 : w.heap.size + 1 < w1.heap.size := by omega
        refine ⟨?_, 0, by rw [he], by simp [go_sem, hc1, hl1]⟩
        refine ((((hbF.trans (hb.mono (by omega))).setCell (by simp) _).setCell (by simp; omega) _).setCell (by simp; omega) _).alloc ?_ _
        simp; omega
      · have hs1 := hb.size
        rw [hsz] at hs1
        have hc1 : w1.cell? ⟨w.heap.size + 1, 0, none⟩ = some (.string ⟨#[]⟩) := by
          rw [hb.cell (p := ⟨w.heap.size + 1, 0, none⟩) (by simp)]; simp [fourJ, go_sem]
        have hl1 : w.heap.size + 1 < w1.heap.size := by omega
        refine ⟨?_, _, rfl, ?_⟩
        · refine (((((hbF.trans (hb.mono (by omega)))).setCell (by simp; omega) _).setCell (by simp; omega) _).alloc ?_ _).drew
          simp; omega
        · rw [join_err ls he]
          simp [go_sem, hc1, hl1, strV]
  clear hr
  go_enter Tryd.func11, Tryd.ntmps11
  go_wp2_with fail
  refine AT.out.mono ?_
  rintro x w1 ⟨hb, n, rfl, hc⟩
  go_wp2
  go_ret2
  exact ⟨hb, rfl⟩
end Go.Proofs.YtgnopbmcnadmdabDoor
