/- The contract of wire's Encode. -/
import Derived.Test.YtombhnjmelidcaaWeF
import Derived.Test.YtombhnjmelidcaaPrD
namespace Go.Proofs.Ytombhnjmelidcaa
open Go.RowKit Go.Maps
set_option linter.unusedVariables false
set_option linter.unusedSimpArgs false

def Wr.encO (t : Tb.Tbl) : Tx.Bs := if Tb.tableE t = 0 then Wr.encode t else []
theorem Wr.encode_ne (t : Tb.Tbl) : Wr.encode t ≠ [] := by
  intro q
  have := congrArg List.length q
  simp [Wr.encode, Wr.num_len] at this
set_option maxRecDepth 100000 in
set_option maxHeartbeats 4000000 in
theorem pEncode_any (t : Tb.Tbl) (v : Value) (w : World) (h : RdCh w v t.ch) (hS : Tb.Sized t) :
    Calls Try.prog 10 #[tbV t.first v] w fun e w' => e = .returned (.tuple #[strV (Wr.encO t), .int .i64 (Tb.tableE t)]) ∧ Below w.heap.size w w' := by
  obtain ⟨E, hE⟩ : ∃ E, Tb.tableE t = E := ⟨_, rfl⟩
  have HC : Hid (∀ W, Below w.heap.size w W → Calls Try.prog 24 #[tbV t.first v] W fun e w' => e = .returned (.int .i64 E) ∧ Below W.heap.size W w') := fun W hW => by
    rw [← hE]; exact pCheck_any t _ W (rdCh_below h hW) hS
  have HT : Hid (E = 0 → ∀ (W : World) (b : Nat), Below w.heap.size w W → IsB w.heap.size b [] W → Calls Try.prog 25 #[.pointer (some ⟨b, 0, none⟩), tbV t.first v] W fun e w' => e = .returned (.tuple #[]) ∧ IsB w.heap.size b (Lib.byteCells (Wr.encode t)) w' ∧ Below w.heap.size w w') := fun q W b hW hb => wtable_any t v b w W h (hE.trans q) hb hW
  obtain ⟨EN, hEN⟩ : ∃ EN, Wr.encode t = EN := ⟨_, rfl⟩
  have HNE : Hid (EN ≠ []) := by rw [← hEN]; exact Wr.encode_ne t
  obtain ⟨EO, hEO⟩ : ∃ EO, Wr.encO t = EO := ⟨_, rfl⟩
  have HEO : Hid (EO = if E = 0 then EN else []) := by show _ = _; rw [← hEO, Wr.encO, hE, hEN]
  rw [hE, hEO]
  rw [hEN] at HT
  clear hE hS hEN hEO
  obtain ⟨f, ch⟩ := t
  dsimp only at *
  obtain ⟨aa, acap, rfl, _⟩ := h
  obtain ⟨N, hN⟩ : ∃ N, w.heap.size = N := ⟨_, rfl⟩
  have HNN := hid hN
  obtain ⟨W0, hW⟩ : ∃ W, w.alloc (.cells (tbL f (.slice aa ch.length acap)).toArray 26) = W := ⟨_, rfl⟩
  have B0 : Hid (Below w.heap.size w W0) := by rw [← hW]; exact (Below.refl _ _).alloc (Nat.le_refl _) _
  have X0 : Hid (CellsAt W0 N (tbL f (.slice aa ch.length acap))) := by rw [← hW, ← hN]; exact ca_new _ _ _
  have C0 := hid (HC.out W0 B0.out)
  obtain ⟨x0, _⟩ := ca_at X0.out 0 rfl
  obtain ⟨x1, _⟩ := ca_at X0.out 1 rfl
  obtain ⟨x2, _⟩ := ca_at X0.out 2 rfl
  obtain ⟨x3, _⟩ := ca_at X0.out 3 rfl
  have sx := X0.out.1
  clear HC
  go_enter Try.func10, Try.ntmps10
  go_wp2_with fail
  refine C0.out.mono ?_
  rintro e w1 ⟨rfl, hb1⟩
  have X1 := hid (ca_below X0.out hb1)
  have B1 : Hid (Below w.heap.size w w1) := B0.out.trans (hb1.mono B0.out.size)
  clear C0 hb1 B0 X0 x0 x1 x2 x3 sx hW hN
  by_cases h0 : E = 0
  case neg =>
    have HR : Hid (EO = []) := by show _ = _; rw [HEO.out, if_neg h0]
    have h0' : (E != 0) = true := by simp [h0]
    go_wp2
    go_ret2
    exact ⟨by rw [HR.out]; rfl, B1.out⟩
  have HR : Hid (EO = EN) := by show _ = _; rw [HEO.out, if_pos h0]
  have HT2 := hid (HT.out h0)
  subst h0
  clear HT HEO
  obtain ⟨W1, hW1⟩ : ∃ W, w1.alloc (.cells #[.pointer none, .slice none 0 0] 57) = W := ⟨_, rfl⟩
  obtain ⟨b, hb⟩ : ∃ b, w1.heap.size = b := ⟨_, rfl⟩
  have B2 : Hid (Below w.heap.size w W1) := by rw [← hW1]; exact B1.out.alloc B1.out.size _
  have X2 := hid (ca_alloc X1.out (.cells #[.pointer none, .slice none 0 0] 57))
  rw [hW1] at X2
  have I2 : Hid (IsB w.heap.size b [] W1) := by
    rw [← hW1, ← hb]
    exact .inl ⟨B1.out.size, .slice none 0 0, heap_alloc_new _ _, World.ownsRow_nil _ _ _ _, by simp [Value.ownBlock]⟩
  have C2 := hid (HT2.out W1 b B2.out I2.out)
  obtain ⟨x0, _⟩ := ca_at X2.out 0 rfl
  obtain ⟨x1, _⟩ := ca_at X2.out 1 rfl
  obtain ⟨x2, _⟩ := ca_at X2.out 2 rfl
  obtain ⟨x3, _⟩ := ca_at X2.out 3 rfl
  have sx := X2.out.1
  go_wp2_with fail
  refine C2.out.mono ?_
  rintro e w3 ⟨rfl, hI, hb3⟩
  have C3 := hid (bString_any _ b EN w3 hI HNE.out)
  have B3 := hid hb3
  clear hI hb3 C2 I2 B2 X2 x0 x1 x2 x3 sx hW1 hb X1 B1
  go_wp2_with fail
  refine C3.out.mono ?_
  rintro e w4 ⟨rfl, hb4⟩
  have B4 : Hid (Below w.heap.size w w4) := B3.out.trans hb4
  go_wp2
  go_ret2
  exact ⟨by rw [HR.out]; rfl, B4.out⟩
end Go.Proofs.Ytombhnjmelidcaa
