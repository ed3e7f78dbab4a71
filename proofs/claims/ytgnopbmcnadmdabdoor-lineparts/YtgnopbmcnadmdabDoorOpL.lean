/- A list of lines among the arguments: what it reads as. -/
import Derived.Test.YtgnopbmcnadmdabDoorRwA
import Derived.Test.YtgnopbmcnadmdabDoorLnL
import Derived.Deep.Slices
import Derived.Deep.Strs
namespace Go.Proofs.YtgnopbmcnadmdabDoor
open Go.ChangeShapes Go.WideShapes Go.ChangeAt Go.RowKit
set_option linter.unusedVariables false

theorem cells_string : Tryd.prog.cellsOf 9 = 1 := by kernel_rfl
theorem cells_line : Tryd.prog.cellsOf 29 = 3 := by kernel_rfl
theorem cells_strs : Tryd.prog.cellsOf 27 = 1 := by kernel_rfl
theorem cells_int : Tryd.prog.cellsOf 3 = 1 := by kernel_rfl
theorem cells_bool : Tryd.prog.cellsOf 4 = 1 := by kernel_rfl

section
variable {H : Type} {enc : TypeId × Value → H} {w : World} {sp : Nat → Bool} {held : Bool} {fuel : Nat} {cs : List Value} {x : DataW H × List MemPlace}
theorem add_none (b o i : Nat) : (⟨b, o, none⟩ : Addr).add i = ⟨b, o + i, none⟩ := by
  simp [Addr.add]
theorem block_of_cell {a : Addr} {v : Value} (h : w.cell? a = some v) : a.block < w.heap.size := by
  unfold World.cell? at h
  split at h
  · rename_i hb; exact (Array.getElem?_eq_some_iff.1 hb).1
  · cases h
theorem strV_of' (s : ByteArray) : strV s.data.toList = .string s := by unfold strV; congr 1
theorem short_of {s : ByteArray} (h : s.size ≤ maxLen) : Short s.data.toList := by
  unfold Short
  rw [show s.data.toList.length = s.size by simp]
  have : maxLen = 9223372036854775807 := by unfold maxLen; decide
  omega
theorem open_strs_rd (h : DataW.trod enc Tryd.prog w 0 sp held fuel 27 cs = some x) : ∃ v fs, cs = [v] ∧ RdStrs w v fs ∧ ∀ f ∈ fs, Short f := by
  rcases Deep.open_strs Tryd.underlying27 Tryd.underlying9 cells_string h with ⟨rfl, _⟩ | ⟨a, len, cap, m, S, rfl, _, hl, hm, hmm, _, hc⟩
  · exact ⟨_, [], rfl, ⟨none, 0, rfl, fun q => absurd rfl q⟩, by simp⟩
  · have hlm : len ≤ m := by rw [hmm]; split <;> omega
    refine ⟨_, (List.range len).map fun i => (S i).data.toList, rfl, ⟨some a, cap, by simp, fun hn => ?_⟩, ?_⟩
    · have h0 : 0 < len := by
        rcases Nat.eq_zero_or_pos len with q | q
        · subst q; simp at hn
        · exact q
      obtain ⟨b, off, spot⟩ := a
      have c0 := (hc 0 (by omega)).1
      have hs : spot = none := by simpa [Addr.add] using World.cell?_spot c0
      subst hs
      rw [add_none] at c0
      refine ⟨b, off, rfl, block_of_cell c0, fun i f hf => ?_⟩
      have hi : i < len := by
        have := (List.getElem?_eq_some_iff.1 hf).1
        simpa using this
      have := (hc i (by omega)).1
      rw [add_none] at this
      rw [this]
      simp [hi] at hf
      rw [← hf, strV_of']
    · intro f hf
      simp at hf
      obtain ⟨i, hi, rfl⟩ := hf
      exact short_of (hc i (by omega)).2
theorem trod_agg3 {a b c : Value} (h : DataW.trod enc Tryd.prog w 0 sp held fuel 29 [a, b, c] = some x) :
    ∃ n y0 y1 y2, DataW.trod enc Tryd.prog w 0 sp held n 3 [a] = some y0 ∧ DataW.trod enc Tryd.prog w 0 sp held n 4 [b] = some y1 ∧ DataW.trod enc Tryd.prog w 0 sp held n 27 [c] = some y2 := by
  cases fuel with
  | zero => simp [DataW.trod] at h
  | succ n =>
    unfold DataW.trod at h
    rw [Tryd.underlying29] at h
    simp [cells_line, cells_int, cells_bool, cells_strs, List.mapM_cons, Option.bind_eq_some_iff] at h
    obtain ⟨a1, b1, h1, l, ⟨a2, b2, h2, l3, ⟨a3, b3, h3, _⟩, _⟩, _⟩ := h
    exact ⟨n, _, _, _, h1, h2, h3⟩
theorem open_line_rd {a b c : Value} (h : DataW.trod enc Tryd.prog w 0 sp held fuel 29 [a, b, c] = some x) : ∃ (n : Int) (i : Bool) (fs : List Tx.Bs), a = .int .i64 n ∧ b = .bool i ∧ RdStrs w c fs ∧ ∀ f ∈ fs, Short f := by
  obtain ⟨n, y0, y1, y2, h0, h1, h2⟩ := trod_agg3 h
  obtain ⟨k, e0, _⟩ := DataW.trod_int Tryd.underlying3 h0
  obtain ⟨i, e1, _⟩ := DataW.trod_bool Tryd.underlying4 h1
  obtain ⟨v, fs, e2, hr, hs⟩ := open_strs_rd h2
  simp at e0 e1 e2
  subst e0 e1 e2
  exact ⟨k, i, fs, rfl, rfl, hr, hs⟩
theorem open_lines_rd (h : DataW.trod enc Tryd.prog w 0 sp held fuel 23 cs = some x) : ∃ v ls, cs = [v] ∧ RdLines w v ls ∧ ∀ l ∈ ls, ∀ f ∈ l.fields, Short f := by
  rcases Deep.open_slice Tryd.underlying23 h with ⟨rfl, _⟩ | ⟨a, len, cap, m, n, D, Pl, rfl, _, hl, hm, hmm, _, hc⟩
  · exact ⟨_, [], rfl, ⟨none, 0, rfl, fun q => absurd rfl q⟩, by simp⟩
  · have hlm : len ≤ m := by rw [hmm]; split <;> omega
    rw [cells_line] at hc
    have key : ∀ i, i < len → ∃ l : Tx.Ln, (∀ f ∈ l.fields, Short f) ∧ w.cell? (a.add (i * 3)) = some (.int .i64 l.number) ∧ w.cell? ((a.add (i * 3)).add 1) = some (.bool l.inner) ∧ ∃ fv, w.cell? ((a.add (i * 3)).add 2) = some fv ∧ RdStrs w fv l.fields := by
      intro i hi
      obtain ⟨cs', h1, h2⟩ := hc i (by omega)
      obtain ⟨_, hlen, hget⟩ := World.cells?_some h1
      match cs', hlen with
      | [u, v, z], _ =>
        obtain ⟨k, b, fs, rfl, rfl, hr, hs⟩ := open_line_rd h2
        have g0 := hget 0 (by decide)
        have g1 := hget 1 (by decide)
        have g2 := hget 2 (by decide)
        exact ⟨⟨k, b, fs⟩, hs, by simpa [Addr.add] using g0, by simpa using g1, z, by simpa using g2, hr⟩
    have : Inhabited Tx.Ln := ⟨⟨0, false, []⟩⟩
    obtain ⟨L, hL⟩ := Deep.choose_lt key
    refine ⟨_, (List.range len).map L, rfl, ⟨some a, cap, by simp, fun hn => ?_⟩, ?_⟩
    · have h0 : 0 < len := by
        rcases Nat.eq_zero_or_pos len with q | q
        · subst q; simp at hn
        · exact q
      obtain ⟨b, off, spot⟩ := a
      have c0 := (hL 0 h0).2.1
      have hs : spot = none := by simpa [Addr.add] using World.cell?_spot c0
      subst hs
      simp only [add_none] at c0 hL
      refine ⟨b, off, rfl, block_of_cell c0, fun i l hi => ?_⟩
      have hi' : i < len := by
        have := (List.getElem?_eq_some_iff.1 hi).1
        simpa using this
      simp [hi'] at hi
      subst hi
      exact (hL i hi').2
    · intro l hl'
      simp at hl'
      obtain ⟨i, hi, rfl⟩ := hl'
      exact (hL i hi).1
/- .. as an argument -/
theorem open_lines_arg {W : World} {base : Nat} {v : Value} {d : DataW H} {p : List MemPlace} (hv : Value.okWide Tryd.prog W .any base 23 v) (h : DataW.Trod enc Tryd.prog W 0 (fun _ => true) true 23 v d p) :
    (∃ ls, RdLines W v ls ∧ ∀ l ∈ ls, ∀ f ∈ l.fields, Short f) ∧ ∀ x ∈ p, x.block < W.heap.size := by
  obtain ⟨a, len, cap, rfl⟩ := okWide_slice Tryd.underlying23 hv
  obtain ⟨m, hm⟩ := h
  refine ⟨?_, DataW.trod_lt m _ _ _ hm⟩
  obtain ⟨u, ls, e, hr, hs⟩ := open_lines_rd hm
  simp [Value.cells] at e
  subst e
  exact ⟨ls, hr, hs⟩
theorem lines_stay {W W' : World} {v : Value} {d : DataW H} {p : List MemPlace} (h : DataW.Trod enc Tryd.prog W 0 (fun _ => true) true 23 v d p) (bel : Below W.heap.size W W') (lt0 : ∀ x ∈ p, x.block < W.heap.size) : DataW.Trod enc Tryd.prog W' 0 (fun b => decide (b < W.heap.size)) true 23 v d p :=
  Below.trod laidOut (by kernel_rfl) (of_decide_eq_true (by kernel_rfl)) h bel lt0
end
end Go.Proofs.YtgnopbmcnadmdabDoor
