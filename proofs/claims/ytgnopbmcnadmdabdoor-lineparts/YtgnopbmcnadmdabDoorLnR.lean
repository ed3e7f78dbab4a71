/- The contract of splitRow. -/
import Derived.Test.YtgnopbmcnadmdabDoorLnH
namespace Go.Proofs.YtgnopbmcnadmdabDoor
open Go.RowKit
set_option linter.unusedVariables false
set_option linter.unusedSimpArgs false

def RowPost (n : Int) (s : ByteArray) (w : World) (e : Ending) (w' : World) : Prop :=
  Below w.heap.size w w' ∧
    ((∃ fv, e = .returned (.agg #[.int .i64 n, .bool (Tx.inner s.data.toList), fv]) ∧ (Tx.rowF s.data.toList).2 = 0 ∧ w'.ownsRow w.heap.size 9 1 fv (Tx.rowF s.data.toList).1.length ((Tx.rowF s.data.toList).1.map strV)) ∨
     (e = .panicked [{ v := faultV n (Tx.rowF s.data.toList).2, recovered := false }] ∧ (Tx.rowF s.data.toList).2 ≠ 0))

theorem field_ok (b k : Nat) (n : Int) (s : ByteArray) (w : World) (h : Rdr w b n s k) (hk : k < s.size) (hs : s.size ≤ 8000) (hg : Tx.gap s[k] = false) (h35 : s[k] ≠ 35) {acc t : Tx.Bs} (hf : Tx.field (s.data.toList.drop k) = some (acc, t)) (hl : acc.length ≤ 24) :
    Calls Tryd.prog 34 #[.pointer (some ⟨b, 0, none⟩)] w fun e w' => e = .returned (strV acc) ∧ w.grownBy w' (some b) ∧ ∃ k', k < k' ∧ k' ≤ s.size ∧ Rdr w' b n s k' ∧ s.data.toList.drop k' = t := by
  refine (field_any b k n s w h hk hs hg h35).mono ?_
  rintro e w' ⟨hG, hO⟩
  rcases hO with ⟨k', acc', k1, k2, hR, he, hl', hf'⟩ | ⟨er, he, ⟨_, hf'⟩ | ⟨_, acc', t', hf', hl'⟩⟩
  · rw [hf] at hf'
    simp at hf'
    obtain ⟨rfl, rfl⟩ := hf'
    exact ⟨he, hG, k', k1, k2, hR, rfl⟩
  · rw [hf] at hf'; cases hf'
  · rw [hf] at hf'; simp at hf'; obtain ⟨rfl, rfl⟩ := hf'; omega
theorem field_bad (b k : Nat) (n : Int) (s : ByteArray) (w : World) (h : Rdr w b n s k) (hk : k < s.size) (hs : s.size ≤ 8000) (hg : Tx.gap s[k] = false) (h35 : s[k] ≠ 35) {er : Int}
    (hf : (er = 1 ∧ Tx.field (s.data.toList.drop k) = none) ∨ (er = 2 ∧ ∃ acc t, Tx.field (s.data.toList.drop k) = some (acc, t) ∧ 24 < acc.length)) :
    Calls Tryd.prog 34 #[.pointer (some ⟨b, 0, none⟩)] w fun e w' => e = .panicked [{ v := faultV n er, recovered := false }] ∧ w.grownBy w' (some b) := by
  refine (field_any b k n s w h hk hs hg h35).mono ?_
  rintro e w' ⟨hG, hO⟩
  rcases hO with ⟨k', acc', k1, k2, hR, he, hl', hf'⟩ | ⟨er', he, hf'⟩
  · rcases hf with ⟨_, hf⟩ | ⟨_, acc, t, hf, hl⟩
    · rw [hf] at hf'; cases hf'
    · rw [hf] at hf'; simp at hf'; obtain ⟨rfl, rfl⟩ := hf'; omega
  · have : er' = er := by
      rcases hf with ⟨rfl, hf⟩ | ⟨rfl, acc, t, hf, hl⟩ <;> rcases hf' with ⟨rfl, hf'⟩ | ⟨rfl, acc', t', hf', hl'⟩
      · rfl
      · rw [hf] at hf'; cases hf'
      · rw [hf] at hf'; cases hf'
      · rfl
    subst this
    exact ⟨he, hG⟩

theorem field_bad1 (b k : Nat) (n : Int) (s : ByteArray) (w : World) (h : Rdr w b n s k) (hk : k < s.size) (hs : s.size ≤ 8000) (hg : Tx.gap s[k] = false) (h35 : s[k] ≠ 35) (hf : Tx.field (s.data.toList.drop k) = none) :
    Calls Tryd.prog 34 #[.pointer (some ⟨b, 0, none⟩)] w fun e w' => e = .panicked [{ v := faultV n 1, recovered := false }] ∧ w.grownBy w' (some b) := field_bad b k n s w h hk hs hg h35 (.inl ⟨rfl, hf⟩)
theorem field_bad2 (b k : Nat) (n : Int) (s : ByteArray) (w : World) (h : Rdr w b n s k) (hk : k < s.size) (hs : s.size ≤ 8000) (hg : Tx.gap s[k] = false) (h35 : s[k] ≠ 35) (hf : ∃ acc t, Tx.field (s.data.toList.drop k) = some (acc, t) ∧ 24 < acc.length) :
    Calls Tryd.prog 34 #[.pointer (some ⟨b, 0, none⟩)] w fun e w' => e = .panicked [{ v := faultV n 2, recovered := false }] ∧ w.grownBy w' (some b) := field_bad b k n s w h hk hs hg h35 (.inr ⟨rfl, hf⟩)

/- the loop's state: the line at the second new block, the reader at the third one -/
structure RowSt (w wr : World) (n : Int) (s : ByteArray) (inn : Bool) (k : Nat) (out : List Tx.Bs) (fv : Value) : Prop where
  rdr : Rdr wr (w.heap.size + 1 + 1) n s k
  l0 : wr.cell? ⟨w.heap.size + 1, 0, none⟩ = some (.int .i64 n)
  l1 : wr.cell? ⟨w.heap.size + 1, 1, none⟩ = some (.bool inn)
  l2 : wr.cell? ⟨w.heap.size + 1, 2, none⟩ = some fv
  fz : wr.frozen? ⟨w.heap.size + 1, 2, none⟩ = false
  own : wr.ownsRow (w.heap.size + 1 + 1 + 1) 9 1 fv out.length (out.map strV)
  bel : Below (w.heap.size + 1) (w.alloc (.cells #[.int .i64 0, .bool false, .slice none 0 0] 29)) wr
  sz : w.heap.size + 1 + 1 + 1 ≤ wr.heap.size
theorem below_grownBy {B : Nat} {a b c : World} {r : Option Nat} (h : Below B a b) (hg : b.grownBy c r) (hB : B ≤ b.heap.size) (hr : ∀ k, r = some k → B ≤ k) : Below B a c := h.grown hg hB hr
theorem rowst_grown {w wr w1 : World} {n : Int} {s : ByteArray} {inn : Bool} {k k' : Nat} {out : List Tx.Bs} {fv : Value} (h : RowSt w wr n s inn k out fv) (hg : wr.grownBy w1 (some (w.heap.size + 1 + 1))) (hR : Rdr w1 (w.heap.size + 1 + 1) n s k') : RowSt w w1 n s inn k' out fv := by
  have hs := h.sz
  have e : w1.heap[w.heap.size + 1]? = wr.heap[w.heap.size + 1]? := hg.block _ (by omega) (by simp)
  exact ⟨hR, (World.cell?_of_block (a := ⟨w.heap.size + 1, 0, none⟩) e).trans h.l0, (World.cell?_of_block (a := ⟨w.heap.size + 1, 1, none⟩) e).trans h.l1, (World.cell?_of_block (a := ⟨w.heap.size + 1, 2, none⟩) e).trans h.l2, (World.frozen?_of_block (a := ⟨w.heap.size + 1, 2, none⟩) e).trans h.fz,
    h.own.kept hg (.inr (fun q => by have := (h.own.lt _ q).1; omega)), below_grownBy h.bel hg (by omega) (fun k hk => by simp at hk; omega), Nat.le_trans hs hg.size⟩
theorem rowst_drewN {w wr : World} {n : Int} {s : ByteArray} {inn : Bool} {k : Nat} {out : List Tx.Bs} {fv : Value} (h : RowSt w wr n s inn k out fv) (q : Nat) : RowSt w (wr.drewN q) n s inn k out fv :=
  rowst_grown h (grown_drewN (grown_refl _ _) q) (rdr_drewN h.rdr q)
theorem rowst_app {w wr w3 : World} {n : Int} {s : ByteArray} {inn : Bool} {k : Nat} {out : List Tx.Bs} {acc : Tx.Bs} {fv v' : Value} {o : Obj} (h : RowSt w wr n s inn k out fv) (hown' : w3.ownsRow (w.heap.size + 1 + 1 + 1) 9 1 v' (out.length + 1) (out.map strV ++ [strV acc])) (hg : (wr.alloc o).grownBy w3 fv.ownBlock) :
    RowSt w (w3.setCell ⟨w.heap.size + 1, 2, none⟩ v') n s inn k (out ++ [acc]) v' ∧ w3.cell? ⟨w.heap.size + 1, 2, none⟩ = some fv ∧ w3.frozen? ⟨w.heap.size + 1, 2, none⟩ = false := by
  have hs := h.sz
  have hg2 : wr.grownBy w3 fv.ownBlock := grown_trans (World.grownBy_alloc wr o _) hg
  have ne : ∀ i, i < w.heap.size + 1 + 1 + 1 → some i ≠ fv.ownBlock := fun i hi q => by have := (h.own.lt i q.symm).1; omega
  have e : w3.heap[w.heap.size + 1]? = wr.heap[w.heap.size + 1]? := hg2.block _ (by omega) (ne _ (by omega))
  have c0 := (World.cell?_of_block (a := ⟨w.heap.size + 1, 0, none⟩) e).trans h.l0
  have c1 := (World.cell?_of_block (a := ⟨w.heap.size + 1, 1, none⟩) e).trans h.l1
  have c2 := (World.cell?_of_block (a := ⟨w.heap.size + 1, 2, none⟩) e).trans h.l2
  have f2 := (World.frozen?_of_block (a := ⟨w.heap.size + 1, 2, none⟩) e).trans h.fz
  have hR := rdr_grown h.rdr hg2 (ne _ (by omega))
  have hset : w3.grownBy (w3.setCell ⟨w.heap.size + 1, 2, none⟩ v') (some (w.heap.size + 1)) := grown_set (grown_refl w3 _) 2 v'
  refine ⟨⟨rdr_grown hR hset (by simp), by go_simp, by go_simp, by go_simp, by go_simp, ?_, ?_, ?_⟩, c2, f2⟩
  · have := owns_set (b := w.heap.size + 1) (o := 2) (u := v') hown' (fun q => by have := (hown'.lt _ q.symm).1; omega)
    simpa using this
  · exact below_grownBy (below_grownBy h.bel hg2 (by omega) (fun k hk => by have := (h.own.lt k hk).1; omega)) hset (by have := hg2.size; omega) (fun k hk => by simp at hk; omega)
  · have := hg2.size; simp; omega
theorem rowst_l2_alloc {w wr : World} {n : Int} {s : ByteArray} {inn : Bool} {k : Nat} {out : List Tx.Bs} {fv : Value} (h : RowSt w wr n s inn k out fv) (o : Obj) : (wr.alloc o).cell? ⟨w.heap.size + 1, 2, none⟩ = some fv :=
  (((Below.refl _ wr).alloc (Nat.le_refl _) o).cell (p := ⟨w.heap.size + 1, 2, none⟩) (by have := h.sz; show w.heap.size + 1 < wr.heap.size; omega)).trans h.l2
theorem rowst_init (w : World) (n : Int) (s : ByteArray) (inn : Bool) : RowSt w (((w.alloc (.cells #[.int .i64 0, .bool false, .slice none 0 0] 29)).alloc (.cells #[.int .i64 n, .bool inn, .slice none 0 0] 29)).alloc (.cells #[.int .i64 n, .string s, .int .i64 0] 65)) n s inn 0 [] (.slice none 0 0) := by
  refine ⟨⟨by simp, by go_simp, by go_simp, by go_simp, by go_simp⟩, by go_simp, by go_simp, by go_simp, by go_simp, World.ownsRow_nil _ _ _ _, ?_, by simp⟩
  exact ((Below.refl _ _).alloc (by simp) _).alloc (by simp) _
theorem bad_below {w w3 w4 : World} {n : Int} {s : ByteArray} {inn : Bool} {k : Nat} {out : List Tx.Bs} {fv : Value} (h : RowSt w w3 n s inn k out fv) (hg : (w3.drewN 1).grownBy w4 (some (w.heap.size + 1 + 1))) : Below w.heap.size w w4 := by
  have hs := h.sz
  refine Below.grown (below_drewN (Below.trans ((Below.refl _ _).alloc (Nat.le_refl _) _) (h.bel.mono (by omega))) 1) hg (by show w.heap.size ≤ w3.heap.size; omega) (fun k hk => by simp at hk; omega)
end Go.Proofs.YtgnopbmcnadmdabDoor
