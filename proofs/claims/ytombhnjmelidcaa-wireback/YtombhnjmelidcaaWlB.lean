/- The walk of WireBack. -/
import Derived.Test.YtombhnjmelidcaaWlA
namespace Go.Proofs.Ytombhnjmelidcaa
open Go.RowKit Go.Shelf
set_option linter.unusedVariables false
set_option linter.unusedSimpArgs false

theorem encode_good {t : Tb.Tbl} {v : Value} {w : World} (h : RdCh w v t.ch) (hS : Tb.Sized t) (e : Tb.tableE t = 0) : Calls Try.prog 10 #[tbV t.first v] w fun e w' => e = .returned (.tuple #[strV (Wr.encode t), .int .i64 0]) ∧ Below w.heap.size w w' := by
  have := pEncode_any t v w h hS
  rw [Wr.encO, if_pos e, e] at this
  exact this
theorem encode_bad {t : Tb.Tbl} {v : Value} {w : World} {E : Int} (h : RdCh w v t.ch) (hS : Tb.Sized t) (e : Tb.tableE t = E) (h0 : E ≠ 0) : Calls Try.prog 10 #[tbV t.first v] w fun e w' => e = .returned (.tuple #[.string ⟨#[]⟩, .int .i64 E]) ∧ Below w.heap.size w w' := by
  have := pEncode_any t v w h hS
  rw [Wr.encO, e, if_neg h0] at this
  exact this
theorem len_kinds : ∀ (l : List Tb.Lc), (∀ x ∈ l, x.name.length ≤ 24) → (Wr.kindsB l).length ≤ 30 * l.length
  | [], _ => by simp [Wr.kindsB]
  | x :: r, h => by
    have := len_kinds r (fun y hy => h y (by simp [hy]))
    have hx := h x (by simp)
    simp only [Wr.kindsB, List.length_append, Wr.kindB_len, List.length_cons]
    omega
theorem encode_len {t : Tb.Tbl} (h : Tb.tableE t = 0) : (Wr.encode t).length ≤ 100000 := by
  obtain ⟨g1, g2, g3⟩ := Tb.good_parts h
  have cb := (Tb.goE_rise t.ch t.first none g3).2.1
  have kl := Wr.kinds_len t.ch [t.first]
  have kb := len_kinds (Wr.kinds [t.first] t.ch) (fun l hl => by
    rcases Wr.kinds_mem t.ch [t.first] l hl with q | ⟨c, hc, rfl⟩
    · simp at q; subst q; exact (Tb.goodL_bd g2).2.2.2.2.2.1
    · exact (Tb.goodL_bd (cb c hc).2.2).2.2.2.2.2.1)
  simp only [Wr.encode, List.length_append, Wr.num_len, Wr.body_len]
  simp at kl
  omega
set_option maxRecDepth 100000 in
set_option maxHeartbeats 4000000 in
theorem wireBack_is (t : Tb.Tbl) (v : Value) (s : Tx.Bs) (w : World) (h : ArgT w t v) (hs : s.length ≤ maxLen) :
    Calls Try.prog 5 #[tbV t.first v, strV s] w fun e w' => e = .returned (.bool true) ∧ Below w.heap.size w w' := by
  obtain ⟨E, hE⟩ : ∃ E, Tb.tableE t = E := ⟨_, rfl⟩
  obtain ⟨EN, hEN⟩ : ∃ EN, Wr.encode t = EN := ⟨_, rfl⟩
  have HG : Hid (E = 0 → ∀ W, Below w.heap.size w W → Calls Try.prog 10 #[tbV t.first v] W fun e w' => e = .returned (.tuple #[strV EN, .int .i64 0]) ∧ Below W.heap.size W w') := fun q W hW => by
    rw [← hEN]; exact encode_good (rdCh_below h.rd hW) h.sized (hE.trans q)
  have HBD : Hid (E ≠ 0 → ∀ W, Below w.heap.size w W → Calls Try.prog 10 #[tbV t.first v] W fun e w' => e = .returned (.tuple #[.string ⟨#[]⟩, .int .i64 E]) ∧ Below W.heap.size W w') := fun q W hW => encode_bad (rdCh_below h.rd hW) h.sized hE q
  have HD1 : Hid (E = 0 → ∀ W : World, Calls Try.prog 11 #[strV EN] W fun e w' => ∃ cv, e = .returned (.tuple #[tbV t.first cv, .int .i64 0]) ∧ OwnCh w' W.heap.size cv t.ch ∧ Below W.heap.size W w') := fun q W => decode_told (by rw [← hEN]; exact ⟨hE.trans q, rfl⟩) (by rw [← hEN]; have := encode_len (hE.trans q); unfold maxLen; omega)
  have HL : Hid (E = 0 → t.ch.length ≤ 1000000) := fun q => by have := (Tb.good_parts (hE.trans q)).1; omega
  have HA := hid h
  have HS := hid hs
  clear hE hEN hs
  obtain ⟨va, n, vcap, rfl⟩ : ∃ va n vcap, v = .slice va n vcap := by obtain ⟨a, c, e, _⟩ := h.rd; exact ⟨a, _, c, e⟩
  clear h
  obtain ⟨f, hf⟩ : ∃ f, t.first = f := ⟨_, rfl⟩
  rw [hf] at HG HBD HD1 ⊢
  clear hf
  obtain ⟨N, hN⟩ : ∃ N, w.heap.size = N := ⟨_, rfl⟩
  obtain ⟨W0, hW⟩ : ∃ W0, w.alloc (.cells (tbC f (.slice va n vcap)).toArray 26) = W0 := ⟨_, rfl⟩
  have B0 : Hid (Below w.heap.size w W0) := by rw [← hW]; exact (Below.refl _ _).alloc (Nat.le_refl _) _
  have T0 : Hid (CellsAt W0 N (tbC f (.slice va n vcap))) := by rw [← hW, ← hN]; exact ca_new _ _ _
  go_enter Try.func5, Try.ntmps5
  go_wp2_with fail
  refine (wireBegun_is _).mono ?_
  rintro e w1 ⟨rfl, hb1⟩
  have T1 := hid (ca_below T0.out hb1)
  have B1 : Hid (Below w.heap.size w w1) := B0.out.trans (hb1.mono B0.out.size)
  clear T0 B0 hb1 hW hN
  obtain ⟨-, ⟨t0, t1, t2, t3⟩, -, st⟩ := res4' T1.out
  by_cases h0 : E = 0
  case neg =>
    have h0' : (E == 0) = false := by simp [h0]
    have C1 := hid (HBD.out h0 w1 B1.out)
    clear HG HBD HD1 HL
    go_wp2_with fail
    refine C1.out.mono ?_
    rintro e w2 ⟨rfl, hb2⟩
    have B2 : Hid (Below w.heap.size w w2) := B1.out.trans (hb2.mono B1.out.size)
    clear B1 T1 C1 hb2 t0 t1 t2 t3 st
    go_wp2_with fail
    refine (pDecode_any s _ HS.out).mono ?_
    rintro e w5 ⟨hb5, ⟨u, cv, hu, rfl, ho, hsh⟩ | ⟨_, rfl⟩⟩
    · obtain ⟨ca, cc, rfl⟩ := owns_shape0 ho
      obtain ⟨cn, hcn⟩ : ∃ n, u.ch.length = n := ⟨_, rfl⟩
      obtain ⟨g, hg⟩ : ∃ f, u.first = f := ⟨_, rfl⟩
      have B5 : Hid (Below w.heap.size w w5) := B2.out.trans (hb5.mono B2.out.size)
      obtain ⟨V, hV⟩ : ∃ V, w5.alloc (.cells (tbC g (.slice ca cn cc)).toArray 26) = V := ⟨_, rfl⟩
      obtain ⟨Y, hY⟩ : ∃ Y, w5.heap.size = Y := ⟨_, rfl⟩
      have U5 : Hid (CellsAt V Y (tbC g (.slice ca cn cc))) := by rw [← hV, ← hY]; exact ca_new _ _ _
      have B6 : Hid (Below w.heap.size w V) := by rw [← hV]; exact B5.out.alloc B5.out.size _
      have C6 : Hid (Calls Try.prog 10 #[tbV g (.slice ca cn cc)] V fun e w' => e = .returned (.tuple #[strV s, .int .i64 0]) ∧ Below V.heap.size V w') := by
        have := encode_good (w := V) (t := u) (rdCh_below (ownCh_rd ho) (by rw [← hV]; exact (Below.refl _ _).alloc (Nat.le_refl _) _)) (short_sized hsh) hu.1
        rw [hu.2, hg, hcn] at this
        exact this
      rw [hg, hcn]
      clear hu ho hsh hb5 hcn hg
      obtain ⟨-, ⟨u0, u1, u2, u3⟩, -, su⟩ := res4' U5.out
      go_wp2_with fail
      refine C6.out.mono ?_
      rintro e w7 ⟨rfl, hb7⟩
      have B7 : Hid (Below w.heap.size w w7) := B6.out.trans (hb7.mono B6.out.size)
      go_wp2
      go_ret
      exact ⟨rfl, B7.out⟩
    · have B5 : Hid (Below w.heap.size w w5) := B2.out.trans (hb5.mono B2.out.size)
      go_wp2
      go_ret
      exact ⟨rfl, B5.out.alloc B5.out.size _⟩
  have C1 := hid (HG.out h0 w1 B1.out)
  have HD2 := hid (HD1.out h0)
  have HL2 := hid (HL.out h0)
  subst h0
  clear HG HBD HD1 HL
  go_wp2_with fail
  refine C1.out.mono ?_
  rintro e w2 ⟨rfl, hb2⟩
  have T2 := hid (ca_below T1.out hb2)
  have B2 : Hid (Below w.heap.size w w2) := B1.out.trans (hb2.mono B1.out.size)
  clear B1 T1 C1 hb2 t0 t1 t2 t3 st
  go_wp2_with fail
  refine (HD2.out _).mono ?_
  rintro e w3 ⟨xv, rfl, ho3, hb3⟩
  obtain ⟨xa, xc, rfl⟩ := owns_shape0 ho3
  obtain ⟨xn, hxn⟩ : ∃ n, t.ch.length = n := ⟨_, rfl⟩
  obtain ⟨V3, hV3⟩ : ∃ V, w3.alloc (.cells (tbC f (.slice xa xn xc)).toArray 26) = V := ⟨_, rfl⟩
  obtain ⟨X, hX⟩ : ∃ X, w3.heap.size = X := ⟨_, rfl⟩
  have T3 := hid (ca_alloc (ca_below T2.out hb3) (.cells (tbC f (.slice xa xn xc)).toArray 26))
  rw [hV3] at T3
  have B3 : Below w.heap.size w w3 := B2.out.trans (hb3.mono B2.out.size)
  have BV3 : Hid (Below w.heap.size w V3) := by rw [← hV3]; exact B3.alloc B3.size _
  have U3 : Hid (CellsAt V3 X (tbC f (.slice xa xn xc))) := by rw [← hV3, ← hX]; exact ca_new _ _ _
  have R3 : Hid (RdCh V3 (.slice xa xn xc) t.ch) := by
    have := rdCh_below (ownCh_rd ho3) (show Below w3.heap.size w3 V3 by rw [← hV3]; exact (Below.refl _ _).alloc (Nat.le_refl _) _)
    rw [hxn] at this
    exact this
  have C3 := hid (sameTable_yes f _ _ t.ch V3 R3.out (argT_below HA.out BV3.out).rd HL2.out)
  rw [hxn]
  clear ho3 hb3 B3 B2 T2 hxn
  obtain ⟨-, ⟨t0, t1, t2, t3⟩, -, st⟩ := res4' T3.out
  obtain ⟨-, ⟨u0, u1, u2, u3⟩, -, su⟩ := res4' U3.out
  go_wp2_with fail
  refine C3.out.mono ?_
  rintro e w4 ⟨rfl, hb4⟩
  have B4 : Hid (Below w.heap.size w w4) := BV3.out.trans (hb4.mono BV3.out.size)
  clear C3 hb4 BV3 T3 U3 R3 t0 t1 t2 t3 st u0 u1 u2 u3 su hV3 hX
  go_wp2_with fail
  refine (pDecode_any s _ HS.out).mono ?_
  rintro e w5 ⟨hb5, ⟨u, cv, hu, rfl, ho, hsh⟩ | ⟨_, rfl⟩⟩
  · obtain ⟨ca, cc, rfl⟩ := owns_shape0 ho
    obtain ⟨cn, hcn⟩ : ∃ n, u.ch.length = n := ⟨_, rfl⟩
    obtain ⟨g, hg⟩ : ∃ f, u.first = f := ⟨_, rfl⟩
    have B5 : Hid (Below w.heap.size w w5) := B4.out.trans (hb5.mono B4.out.size)
    obtain ⟨V, hV⟩ : ∃ V, w5.alloc (.cells (tbC g (.slice ca cn cc)).toArray 26) = V := ⟨_, rfl⟩
    obtain ⟨Y, hY⟩ : ∃ Y, w5.heap.size = Y := ⟨_, rfl⟩
    have U5 : Hid (CellsAt V Y (tbC g (.slice ca cn cc))) := by rw [← hV, ← hY]; exact ca_new _ _ _
    have B6 : Hid (Below w.heap.size w V) := by rw [← hV]; exact B5.out.alloc B5.out.size _
    have C6 : Hid (Calls Try.prog 10 #[tbV g (.slice ca cn cc)] V fun e w' => e = .returned (.tuple #[strV s, .int .i64 0]) ∧ Below V.heap.size V w') := by
      have := encode_good (w := V) (t := u) (rdCh_below (ownCh_rd ho) (by rw [← hV]; exact (Below.refl _ _).alloc (Nat.le_refl _) _)) (short_sized hsh) hu.1
      rw [hu.2, hg, hcn] at this
      exact this
    rw [hg, hcn]
    clear hu ho hsh hb5 hcn hg
    obtain ⟨-, ⟨u0, u1, u2, u3⟩, -, su⟩ := res4' U5.out
    go_wp2_with fail
    refine C6.out.mono ?_
    rintro e w7 ⟨rfl, hb7⟩
    have B7 : Hid (Below w.heap.size w w7) := B6.out.trans (hb7.mono B6.out.size)
    go_wp2
    go_ret
    exact ⟨rfl, B7.out⟩
  · have B5 : Hid (Below w.heap.size w w5) := B4.out.trans (hb5.mono B4.out.size)
    go_wp2
    go_ret
    exact ⟨rfl, B5.out.alloc B5.out.size _⟩
theorem wireBack_s (t : Tb.Tbl) (v : Value) (s : ByteArray) (w : World) (h : ArgT w t v) (hs : s.size ≤ maxLen) :
    Calls Try.prog 5 #[tbV t.first v, .string s] w fun e w' => e = .returned (.bool true) ∧ Below w.heap.size w w' := wireBack_is t v s.data.toList w h (by simpa using hs)
end Go.Proofs.Ytombhnjmelidcaa
