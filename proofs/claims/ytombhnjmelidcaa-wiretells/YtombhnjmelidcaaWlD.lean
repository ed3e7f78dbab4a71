/- The walk of WireTells. -/
import Derived.Test.YtombhnjmelidcaaWlA
import Derived.Test.YtombhnjmelidcaaWdK
namespace Go.Proofs.Ytombhnjmelidcaa
open Go.RowKit Go.Shelf
set_option linter.unusedVariables false
set_option linter.unusedSimpArgs false

/- the program and the document read one and the same -/
abbrev Reads (fn : Nat) (s : Tx.Bs) (G : Tb.Lc) (L : List Tb.Cg) (F : Int) : Prop := ∀ W : World, Calls Try.prog fn #[strV s] W fun e w' => ∃ cv, e = .returned (.tuple #[tbV G cv, .int .i64 F]) ∧ OwnCh w' W.heap.size cv L ∧ Below W.heap.size W w'
theorem reads_told {fn : Nat} {s : Tx.Bs} {t : Tb.Tbl} (ht : Wr.Told s t) (h : ∀ W, Calls Try.prog fn #[strV s] W (DecodeEnd s W)) : Reads fn s t.first t.ch 0 := fun W => by
  refine (h W).mono ?_
  rintro e w' ⟨hb, ⟨u, cv, hu, he, ho, _⟩ | ⟨hn, _⟩⟩
  · obtain rfl := Wr.told_one ht hu
    exact ⟨cv, he, ho, hb⟩
  · exact absurd ht (hn t)
theorem reads_none {fn : Nat} {s : Tx.Bs} (ht : ∀ t, ¬ Wr.Told s t) (h : ∀ W, Calls Try.prog fn #[strV s] W (DecodeEnd s W)) : Reads fn s ⟨0, 0, []⟩ [] 1 := fun W => by
  refine (h W).mono ?_
  rintro e w' ⟨hb, ⟨u, cv, hu, he, ho, _⟩ | ⟨hn, he⟩⟩
  · exact absurd hu (ht u)
  · exact ⟨_, he, World.ownsRow_nil _ _ _ _, hb⟩
theorem reads_both (s : Tx.Bs) (hs : s.length ≤ maxLen) : ∃ (G : Tb.Lc) (L : List Tb.Cg) (F : Int), L.length ≤ 1000000 ∧ (F ≠ 0 → G = ⟨0, 0, []⟩ ∧ L = []) ∧ Reads 11 s G L F ∧ Reads 14 s G L F := by
  by_cases h : ∃ t, Wr.Told s t
  · obtain ⟨t, ht⟩ := h
    exact ⟨t.first, t.ch, 0, by have := (Tb.good_parts ht.1).1; omega, fun q => absurd rfl q, reads_told ht (fun W => pDecode_any s W hs), reads_told ht (fun W => decodeOf_any s W hs)⟩
  · have hn : ∀ t, ¬ Wr.Told s t := fun t ht => h ⟨t, ht⟩
    exact ⟨⟨0, 0, []⟩, [], 1, by simp, fun _ => ⟨rfl, rfl⟩, reads_none hn (fun W => pDecode_any s W hs), reads_none hn (fun W => decodeOf_any s W hs)⟩
set_option maxRecDepth 100000 in
set_option maxHeartbeats 8000000 in
theorem wireTells_is (t : Tb.Tbl) (v : Value) (s : Tx.Bs) (w : World) (h : ArgT w t v) (hs : s.length ≤ maxLen) :
    Calls Try.prog 4 #[tbV t.first v, strV s] w fun e w' => e = .returned (.bool true) ∧ Below w.heap.size w w' := by
  obtain ⟨G, L, F, hL, hF, hR1, hR2⟩ := reads_both s hs
  have HL := hid hL
  have HF := hid hF
  have HR1 := hid hR1
  have HR2 := hid hR2
  clear hL hF hR1 hR2 hs
  obtain ⟨E, hE⟩ : ∃ E, Tb.tableE t = E := ⟨_, rfl⟩
  obtain ⟨EN, hEN⟩ : ∃ EN, Wr.encode t = EN := ⟨_, rfl⟩
  have HG : Hid (E = 0 → ∀ W, Below w.heap.size w W → Calls Try.prog 10 #[tbV t.first v] W fun e w' => e = .returned (.tuple #[strV EN, .int .i64 0]) ∧ Below W.heap.size W w') := fun q W hW => by
    rw [← hEN]; exact encode_good (rdCh_below h.rd hW) h.sized (hE.trans q)
  have HBD : Hid (E ≠ 0 → ∀ W, Below w.heap.size w W → Calls Try.prog 10 #[tbV t.first v] W fun e w' => e = .returned (.tuple #[.string ⟨#[]⟩, .int .i64 E]) ∧ Below W.heap.size W w') := fun q W hW => encode_bad (rdCh_below h.rd hW) h.sized hE q
  have HC : Hid (∀ W, Below w.heap.size w W → Calls Try.prog 12 #[tbV t.first v] W fun e w' => e = .returned (.int .i64 E) ∧ Below W.heap.size W w') := fun W hW => by
    have := checkTable_any t v W (rdCh_below h.rd hW) h.sized.ch h.sized.first h.sized.names
    rw [hE] at this
    exact this
  have HE : Hid (E = 0 → ∀ W, Below w.heap.size w W → Calls Try.prog 13 #[tbV t.first v] W fun e w' => e = .returned (strV EN) ∧ Below W.heap.size W w') := fun q W hW => by
    rw [← hEN]; exact encodeOf_any t v W (rdCh_below h.rd hW) (hE.trans q)
  clear hE hEN
  obtain ⟨va, n, vcap, rfl⟩ : ∃ va n vcap, v = .slice va n vcap := by obtain ⟨a, c, e, _⟩ := h.rd; exact ⟨a, _, c, e⟩
  clear h
  obtain ⟨f, hf⟩ : ∃ f, t.first = f := ⟨_, rfl⟩
  rw [hf] at HG HBD HC HE ⊢
  clear hf
  obtain ⟨N, hN⟩ : ∃ N, w.heap.size = N := ⟨_, rfl⟩
  obtain ⟨W0, hW⟩ : ∃ W0, w.alloc (.cells (tbC f (.slice va n vcap)).toArray 26) = W0 := ⟨_, rfl⟩
  have B0 : Hid (Below w.heap.size w W0) := by rw [← hW]; exact (Below.refl _ _).alloc (Nat.le_refl _) _
  have T0 : Hid (CellsAt W0 N (tbC f (.slice va n vcap))) := by rw [← hW, ← hN]; exact ca_new _ _ _
  by_cases h0 : E = 0
  case neg =>
    have h0' : (E == 0) = false := by simp [h0]
    have C1 := hid (HBD.out h0 W0 B0.out)
    clear HG HBD HE
    obtain ⟨-, ⟨t0, t1, t2, t3⟩, -, st⟩ := res4' T0.out
    go_enter Try.func4, Try.ntmps4
    go_wp2_with fail
    refine C1.out.mono ?_
    rintro e w2 ⟨rfl, hb2⟩
    have T2 := hid (ca_below T0.out hb2)
    have B2 : Hid (Below w.heap.size w w2) := B0.out.trans (hb2.mono B0.out.size)
    clear B0 T0 C1 hb2 hW hN t0 t1 t2 t3 st
    go_wp2_with fail
    refine (HR1.out _).mono ?_
    rintro e w3 ⟨xv, rfl, ho3, hb3⟩
    obtain ⟨xa, xc, rfl⟩ := owns_shape0 ho3
    obtain ⟨xn, hxn⟩ : ∃ n, L.length = n := ⟨_, rfl⟩
    obtain ⟨V3, hV3⟩ : ∃ V, w3.alloc (.cells (tbC G (.slice xa xn xc)).toArray 26) = V := ⟨_, rfl⟩
    obtain ⟨X, hX⟩ : ∃ X, w3.heap.size = X := ⟨_, rfl⟩
    have T3 := hid (ca_alloc (ca_below T2.out hb3) (.cells (tbC G (.slice xa xn xc)).toArray 26))
    rw [hV3] at T3
    have B3 : Below w.heap.size w w3 := B2.out.trans (hb3.mono B2.out.size)
    have BV3 : Hid (Below w.heap.size w V3) := by rw [← hV3]; exact B3.alloc B3.size _
    have U3 : Hid (CellsAt V3 X (tbC G (.slice xa xn xc))) := by rw [← hV3, ← hX]; exact ca_new _ _ _
    have R3 : Hid (RdCh V3 (.slice xa xn xc) L) := by
      have := rdCh_below (ownCh_rd ho3) (show Below w3.heap.size w3 V3 by rw [← hV3]; exact (Below.refl _ _).alloc (Nat.le_refl _) _)
      rw [hxn] at this
      exact this
    rw [hxn]
    clear ho3 hb3 B3 B2 T2
    obtain ⟨-, ⟨t0, t1, t2, t3⟩, -, st⟩ := res4' T3.out
    have C3 := hid (HC.out V3 BV3.out)
    go_wp2_with fail
    refine C3.out.mono ?_
    rintro e w4 ⟨rfl, hb4⟩
    have T4 := hid (ca_below T3.out hb4)
    have U4 := hid (ca_below U3.out hb4)
    have R4 := hid (rdCh_below R3.out hb4)
    have B4 : Hid (Below w.heap.size w w4) := BV3.out.trans (hb4.mono BV3.out.size)
    clear C3 hb4 BV3 T3 U3 R3 t0 t1 t2 t3 st hV3 hX
    have U5 := U4
    have R5 := R4
    have B5 := B4
    clear T4 U4 R4 B4
    go_wp2_with fail
    refine (HR2.out _).mono ?_
    rintro e w6 ⟨yv, rfl, ho6, hb6⟩
    obtain ⟨ya, yc, rfl⟩ := owns_shape0 ho6
    rw [hxn] at ho6 ⊢
    obtain ⟨V6, hV6⟩ : ∃ V, w6.alloc (.cells (tbC G (.slice ya xn yc)).toArray 26) = V := ⟨_, rfl⟩
    obtain ⟨Y, hY⟩ : ∃ Y, w6.heap.size = Y := ⟨_, rfl⟩
    have U6 := hid (ca_alloc (ca_below U5.out hb6) (.cells (tbC G (.slice ya xn yc)).toArray 26))
    rw [hV6] at U6
    have own6 : Below w6.heap.size w6 V6 := by rw [← hV6]; exact (Below.refl _ _).alloc (Nat.le_refl _) _
    have R6 := hid (rdCh_below (rdCh_below R5.out hb6) own6)
    have B6 : Below w.heap.size w w6 := B5.out.trans (hb6.mono B5.out.size)
    have BV6 : Hid (Below w.heap.size w V6) := by rw [← hV6]; exact B6.alloc B6.size _
    have Y6 : Hid (CellsAt V6 Y (tbC G (.slice ya xn yc))) := by rw [← hV6, ← hY]; exact ca_new _ _ _
    have S6 : Hid (RdCh V6 (.slice ya xn yc) L) := by
      rw [← hxn] at ho6 ⊢
      exact rdCh_below (ownCh_rd ho6) own6
    clear ho6 hb6 B6 own6 U5 R5 B5 hxn
    go_wp2_with fail
    refine (wireBegun_is _).mono ?_
    rintro e w7 ⟨rfl, hb7⟩
    have U7 := hid (ca_below U6.out hb7)
    have Y7 := hid (ca_below Y6.out hb7)
    have R7 := hid (rdCh_below R6.out hb7)
    have S7 := hid (rdCh_below S6.out hb7)
    have B7 : Hid (Below w.heap.size w w7) := BV6.out.trans (hb7.mono BV6.out.size)
    clear U6 Y6 R6 S6 BV6 hb7 hV6 hY
    have C7 := hid (tableIs_yes G G _ _ L L F w7 R7.out S7.out HL.out (fun _ => ⟨rfl, rfl⟩) HF.out)
    obtain ⟨-, ⟨t0, t1, t2, t3⟩, -, st⟩ := res4' U7.out
    obtain ⟨-, ⟨u0, u1, u2, u3⟩, -, su⟩ := res4' Y7.out
    go_wp2_with fail
    refine C7.out.mono ?_
    rintro e w8 ⟨rfl, hb8⟩
    have B8 : Hid (Below w.heap.size w w8) := B7.out.trans (hb8.mono B7.out.size)
    go_wp2
    go_ret
    exact ⟨rfl, B8.out⟩
  have C1 := hid (HG.out h0 W0 B0.out)
  have HE2 := hid (HE.out h0)
  subst h0
  clear HG HBD HE
  obtain ⟨-, ⟨t0, t1, t2, t3⟩, -, st⟩ := res4' T0.out
  go_enter Try.func4, Try.ntmps4
  go_wp2_with fail
  refine C1.out.mono ?_
  rintro e w2 ⟨rfl, hb2⟩
  have T2 := hid (ca_below T0.out hb2)
  have B2 : Hid (Below w.heap.size w w2) := B0.out.trans (hb2.mono B0.out.size)
  clear B0 T0 C1 hb2 hW hN t0 t1 t2 t3 st
  go_wp2_with fail
  refine (HR1.out _).mono ?_
  rintro e w3 ⟨xv, rfl, ho3, hb3⟩
  obtain ⟨xa, xc, rfl⟩ := owns_shape0 ho3
  obtain ⟨xn, hxn⟩ : ∃ n, L.length = n := ⟨_, rfl⟩
  obtain ⟨V3, hV3⟩ : ∃ V, w3.alloc (.cells (tbC G (.slice xa xn xc)).toArray 26) = V := ⟨_, rfl⟩
  obtain ⟨X, hX⟩ : ∃ X, w3.heap.size = X := ⟨_, rfl⟩
  have T3 := hid (ca_alloc (ca_below T2.out hb3) (.cells (tbC G (.slice xa xn xc)).toArray 26))
  rw [hV3] at T3
  have B3 : Below w.heap.size w w3 := B2.out.trans (hb3.mono B2.out.size)
  have BV3 : Hid (Below w.heap.size w V3) := by rw [← hV3]; exact B3.alloc B3.size _
  have U3 : Hid (CellsAt V3 X (tbC G (.slice xa xn xc))) := by rw [← hV3, ← hX]; exact ca_new _ _ _
  have R3 : Hid (RdCh V3 (.slice xa xn xc) L) := by
    have := rdCh_below (ownCh_rd ho3) (show Below w3.heap.size w3 V3 by rw [← hV3]; exact (Below.refl _ _).alloc (Nat.le_refl _) _)
    rw [hxn] at this
    exact this
  rw [hxn]
  clear ho3 hb3 B3 B2 T2
  obtain ⟨-, ⟨t0, t1, t2, t3⟩, -, st⟩ := res4' T3.out
  have C3 := hid (HC.out V3 BV3.out)
  go_wp2_with fail
  refine C3.out.mono ?_
  rintro e w4 ⟨rfl, hb4⟩
  have T4 := hid (ca_below T3.out hb4)
  have U4 := hid (ca_below U3.out hb4)
  have R4 := hid (rdCh_below R3.out hb4)
  have B4 : Hid (Below w.heap.size w w4) := BV3.out.trans (hb4.mono BV3.out.size)
  clear C3 hb4 BV3 T3 U3 R3 t0 t1 t2 t3 st hV3 hX
  obtain ⟨-, ⟨t0, t1, t2, t3⟩, -, st⟩ := res4' T4.out
  have C4 := hid (HE2.out w4 B4.out)
  go_wp2_with fail
  refine C4.out.mono ?_
  rintro e w5 ⟨rfl, hb4⟩
  have U5 := hid (ca_below U4.out hb4)
  have R5 := hid (rdCh_below R4.out hb4)
  have B5 : Hid (Below w.heap.size w w5) := B4.out.trans (hb4.mono B4.out.size)
  clear C4 hb4 T4 U4 R4 B4 t0 t1 t2 t3 st
  go_wp2_with fail
  refine (HR2.out _).mono ?_
  rintro e w6 ⟨yv, rfl, ho6, hb6⟩
  obtain ⟨ya, yc, rfl⟩ := owns_shape0 ho6
  rw [hxn] at ho6 ⊢
  obtain ⟨V6, hV6⟩ : ∃ V, w6.alloc (.cells (tbC G (.slice ya xn yc)).toArray 26) = V := ⟨_, rfl⟩
  obtain ⟨Y, hY⟩ : ∃ Y, w6.heap.size = Y := ⟨_, rfl⟩
  have U6 := hid (ca_alloc (ca_below U5.out hb6) (.cells (tbC G (.slice ya xn yc)).toArray 26))
  rw [hV6] at U6
  have own6 : Below w6.heap.size w6 V6 := by rw [← hV6]; exact (Below.refl _ _).alloc (Nat.le_refl _) _
  have R6 := hid (rdCh_below (rdCh_below R5.out hb6) own6)
  have B6 : Below w.heap.size w w6 := B5.out.trans (hb6.mono B5.out.size)
  have BV6 : Hid (Below w.heap.size w V6) := by rw [← hV6]; exact B6.alloc B6.size _
  have Y6 : Hid (CellsAt V6 Y (tbC G (.slice ya xn yc))) := by rw [← hV6, ← hY]; exact ca_new _ _ _
  have S6 : Hid (RdCh V6 (.slice ya xn yc) L) := by
    rw [← hxn] at ho6 ⊢
    exact rdCh_below (ownCh_rd ho6) own6
  clear ho6 hb6 B6 own6 U5 R5 B5 hxn
  go_wp2_with fail
  refine (wireBegun_is _).mono ?_
  rintro e w7 ⟨rfl, hb7⟩
  have U7 := hid (ca_below U6.out hb7)
  have Y7 := hid (ca_below Y6.out hb7)
  have R7 := hid (rdCh_below R6.out hb7)
  have S7 := hid (rdCh_below S6.out hb7)
  have B7 : Hid (Below w.heap.size w w7) := BV6.out.trans (hb7.mono BV6.out.size)
  clear U6 Y6 R6 S6 BV6 hb7 hV6 hY
  have C7 := hid (tableIs_yes G G _ _ L L F w7 R7.out S7.out HL.out (fun _ => ⟨rfl, rfl⟩) HF.out)
  obtain ⟨-, ⟨t0, t1, t2, t3⟩, -, st⟩ := res4' U7.out
  obtain ⟨-, ⟨u0, u1, u2, u3⟩, -, su⟩ := res4' Y7.out
  go_wp2_with fail
  refine C7.out.mono ?_
  rintro e w8 ⟨rfl, hb8⟩
  have B8 : Hid (Below w.heap.size w w8) := B7.out.trans (hb8.mono B7.out.size)
  go_wp2
  go_ret
  exact ⟨rfl, B8.out⟩
theorem wireTells_s (t : Tb.Tbl) (v : Value) (s : ByteArray) (w : World) (h : ArgT w t v) (hs : s.size ≤ maxLen) :
    Calls Try.prog 4 #[tbV t.first v, .string s] w fun e w' => e = .returned (.bool true) ∧ Below w.heap.size w w' := wireTells_is t v s.data.toList w h (by simpa using hs)
end Go.Proofs.Ytombhnjmelidcaa
