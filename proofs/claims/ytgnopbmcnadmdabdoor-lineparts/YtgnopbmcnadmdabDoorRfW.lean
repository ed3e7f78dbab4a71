/- Small laws on texts and on lists that a call makes, for the walks over lines. -/
import Derived.Test.YtgnopbmcnadmdabDoorRfA
import Derived.Lib.Strings
namespace Go.Proofs.YtgnopbmcnadmdabDoor
open Go.RowKit
set_option linter.unusedVariables false
set_option linter.unusedSimpArgs false

abbrev strV (l : List UInt8) : Value := .string ⟨l.toArray⟩
theorem drop_cons (s : ByteArray) (k : Nat) (h : k < s.size) : s.data.toList.drop k = s[k] :: s.data.toList.drop (k + 1) := by
  rw [List.drop_eq_getElem_cons (by simpa using h)]; rfl
theorem drop_end (s : ByteArray) (k : Nat) (h : s.size ≤ k) : s.data.toList.drop k = [] := List.drop_eq_nil_of_le (by simpa using h)
theorem drop_lt (s : ByteArray) (k : Nat) : (s.data.toList.drop k).length < s.size + 1 := by simp; omega
theorem bytes_ext {a b : ByteArray} (h : a.data.toList = b.data.toList) : a = b := by
  obtain ⟨⟨x⟩⟩ := a; obtain ⟨⟨y⟩⟩ := b; simp at h; rw [h]
theorem data_app (a b : ByteArray) : (a ++ b).data.toList = a.data.toList ++ b.data.toList := by simp
theorem str_snoc (acc : List UInt8) (s : ByteArray) (i : Nat) (h : i < s.size) : (⟨acc.toArray⟩ : ByteArray) ++ s.extract i (i + 1) = ⟨(acc ++ [s[i]]).toArray⟩ := by
  apply bytes_ext
  rw [data_app, Lib.extract_data, drop_cons s i h, show i + 1 - i = 1 by omega]
  simp

theorem Tryd.infoStr : (Tryd.prog.info? 9).map (fun i => (i.zero, i.size, i.bytes)) = some (some (.string ⟨#[]⟩), 1, 16) := by kernel_rfl

theorem owns_shape {w : World} {B : Nat} {e : TypeId} {z : Nat} {v : Value} {n : Nat} {xs : List Value} (h : w.ownsRow B e z v (n + 1) xs) : ∃ g cap, v = .slice (some ⟨g, 0, none⟩) (n + 1) cap := by
  rcases h.2 with ⟨_, h0⟩ | ⟨g, cap, cur, rfl, _⟩
  · omega
  · exact ⟨g, cap, rfl⟩
theorem owns_shape0 {w : World} {B : Nat} {e : TypeId} {z : Nat} {v : Value} {n : Nat} {xs : List Value} (h : w.ownsRow B e z v n xs) : ∃ a cap, v = .slice a n cap := by
  rcases h.2 with ⟨rfl, rfl⟩ | ⟨g, cap, cur, rfl, _⟩
  · exact ⟨_, _, rfl⟩
  · exact ⟨_, cap, rfl⟩
theorem app_rel {w w1 w3 : World} {B : Nat} {v v' : Value} {out : List Tx.Bs} {acc : Tx.Bs} {o : Obj} (hB : B ≤ w1.heap.size) (hown : w1.ownsRow B 9 1 v out.length (out.map strV)) (hb : Below B w w1)
    (hown' : w3.ownsRow B 9 1 v' (out.length + 1) (out.map strV ++ [strV acc])) (hg : (w1.alloc o).grownBy w3 v.ownBlock) : w3.ownsRow B 9 1 v' (out ++ [acc]).length ((out ++ [acc]).map strV) ∧ Below B w w3 := by
  refine ⟨by simpa using hown', Below.grown (hb.alloc hB o) hg (by simp; omega) ?_⟩
  intro k hk
  exact (hown.lt k hk).1
theorem one_cell (w : World) (u : Value) {e : TypeId} : ∀ (j : Nat) (x : Value), [u][j]? = some x → (w.alloc (.cells #[u] e)).cell? ((⟨w.heap.size, 0, none⟩ : Addr).add j) = some x := by
  intro j x hj
  match j, hj with
  | 0, hj => simp at hj; subst hj; simp [Addr.add]
end Go.Proofs.YtgnopbmcnadmdabDoor
