/- What must be of wire in any case, is. -/
import Derived.Test.YtombhnjmelidcaaWdI
import Derived.Test.YtombhnjmelidcaaArT
namespace Go.Proofs.Ytombhnjmelidcaa
open Go.RowKit Go.Shelf
set_option linter.unusedVariables false
set_option linter.unusedSimpArgs false

theorem sm_enc : (Wr.encode sm).length = 34 ∧ (Wr.encode sm).take 9 = [2, 0, 176, 148, 1, 0, 0, 1, 65] := by decide
theorem sm_told : Wr.Told (Wr.encode sm) sm := ⟨sm_good, rfl⟩
theorem decode_told {s : Tx.Bs} {t : Tb.Tbl} {w : World} (h : Wr.Told s t) (hs : s.length ≤ maxLen) : Calls Try.prog 11 #[strV s] w fun e w' => ∃ cv, e = .returned (.tuple #[tbV t.first cv, .int .i64 0]) ∧ OwnCh w' w.heap.size cv t.ch ∧ Below w.heap.size w w' := by
  refine (pDecode_any s w hs).mono ?_
  rintro e w' ⟨hb, ⟨u, cv, hu, he, ho, _⟩ | ⟨hn, _⟩⟩
  · obtain rfl := Wr.told_one h hu
    exact ⟨cv, he, ho, hb⟩
  · exact absurd h (hn t)
set_option maxRecDepth 100000 in
set_option maxHeartbeats 4000000 in
theorem wireBegun_is (w : World) : Calls Try.prog 9 #[] w fun e w' => e = .returned (.bool true) ∧ Below w.heap.size w w' := by
  obtain ⟨T, hT⟩ : ∃ T, sm = T := ⟨_, rfl⟩
  obtain ⟨A, hA⟩ : ∃ A, T.first = A := ⟨_, rfl⟩
  obtain ⟨EN, hEN⟩ : ∃ EN, Wr.encode T = EN := ⟨_, rfl⟩
  have HSM : Hid (∀ W, Calls Try.prog 23 #[] W fun e w' => ∃ b, e = .returned (tbV A (.slice (some ⟨b, 0, none⟩) 2 2)) ∧ ArgT w' T (.slice (some ⟨b, 0, none⟩) 2 2) ∧ Below W.heap.size W w') := fun W => by
    have := small_arg W; rw [hT, hA] at this; exact this
  have HEC : Hid (∀ (W : World) (b : Nat), ArgT W T (.slice (some ⟨b, 0, none⟩) 2 2) → Calls Try.prog 10 #[tbV A (.slice (some ⟨b, 0, none⟩) 2 2)] W fun e w' => e = .returned (.tuple #[strV EN, .int .i64 0]) ∧ Below W.heap.size W w') := fun W b h => by
    have := pEncode_any T _ W h.rd h.sized
    rw [hA, Wr.encO, ← hT, sm_good, if_pos rfl, hT, hEN] at this
    exact this
  have hlen : EN.length = 34 := by rw [← hEN, ← hT]; exact sm_enc.1
  have htk : (⟨EN.toArray⟩ : ByteArray).extract 0 9 = ⟨#[2, 0, 176, 148, 1, 0, 0, 1, 65]⟩ := by rw [slice_take, ← hEN, ← hT, sm_enc.2]
  have HDC : Hid (∀ W, Calls Try.prog 11 #[strV EN] W fun e w' => ∃ cv, e = .returned (.tuple #[tbV A cv, .int .i64 0]) ∧ OwnCh w' W.heap.size cv T.ch ∧ Below W.heap.size W w') := fun W => by
    have := decode_told (w := W) (s := EN) (t := T) (by rw [← hEN, ← hT]; exact sm_told) (by unfold maxLen; omega)
    rw [hA] at this
    exact this
  have HL : Hid (T.ch.length = 2) := by show _ = _; rw [← hT]; rfl
  clear hT hA hEN
  have HLN := hid hlen
  clear hlen
  go_enter Try.func9, Try.ntmps9
  go_wp2_with fail
  refine (HSM.out _).mono ?_
  rintro e w1 ⟨b1, rfl, r1, hb1⟩
  have C1 := hid (HEC.out w1 b1 r1)
  go_wp2_with fail
  refine C1.out.mono ?_
  rintro e w2 ⟨rfl, hb2⟩
  have B2 : Hid (Below w.heap.size w w2) := hb1.trans (hb2.mono hb1.size)
  clear C1 r1 hb1 hb2
  go_wp2_with fail
  refine (HDC.out _).mono ?_
  rintro e w3 ⟨cv, rfl, ho, hb3⟩
  obtain ⟨ca, cc, rfl⟩ := owns_shape0 ho
  rw [HL.out] at ho ⊢
  obtain ⟨V, hV⟩ : ∃ V, w3.alloc (.cells (tbC A (.slice ca 2 cc)).toArray 26) = V := ⟨_, rfl⟩
  obtain ⟨X, hX⟩ : ∃ X, w3.heap.size = X := ⟨_, rfl⟩
  have B3 : Below w.heap.size w w3 := B2.out.trans (hb3.mono B2.out.size)
  have BV : Hid (Below w.heap.size w V) := by rw [← hV]; exact B3.alloc B3.size _
  have UV : Hid (CellsAt V X (tbC A (.slice ca 2 cc))) := by rw [← hV, ← hX]; exact ca_new _ _ _
  have RV : Hid (RdCh V (.slice ca 2 cc) T.ch) := by rw [← hV]; exact rdCh_below (by rw [← HL.out] at ho ⊢; exact ownCh_rd ho) ((Below.refl _ _).alloc (Nat.le_refl _) _)
  clear ho hb3 B3 B2
  have T4 := tb4_of UV.out
  have T4A : Tb4 X A (.slice ca 2 cc) V.drew := T4
  have VA : Below V.heap.size V V.drew := below_drew _ _
  obtain ⟨u0, u1, u2, u3⟩ := id T4
  have sX := UV.out.1
  have UV' := UV.out
  have RV' := RV.out
  have hl34 : EN.length = 34 := HLN.out
  have hl9 : (9 : Int) ≤ EN.length := by omega
  have hHL : T.ch.length ≤ 1000000 := by rw [HL.out]; omega
  go_wp2_with fail
  go_region_held3 (fun w' => w'.cell? ⟨X, 0, none⟩ = some (.int .i64 A.shift) ∧ w'.cell? ⟨X, 1, none⟩ = some (.int .i64 A.save) ∧ w'.cell? ⟨X, 2, none⟩ = some (strV A.name) ∧ w'.cell? ⟨X, 3, none⟩ = some (.slice ca 2 cc))
    (first | (with_reducible exact T4) | (with_reducible exact T4A) | (with_reducible exact T45) | (with_reducible exact T46) | go_keep)
    (first | (go_at_call 23; (refine (HSM.out V.drew).mono ?_); rintro e w5 ⟨b5, rfl, r5, hb5⟩; obtain ⟨q5, T45, s5⟩ := tb4_arm UV' VA hb5; have SC := sameTable_yes A _ _ T.ch w5 (rdCh_below RV' q5) r5.rd hHL) | (go_at_call 16; (refine SC.mono ?_); rintro e w6 ⟨rfl, hb6⟩; obtain ⟨q6, T46, s6⟩ := tb4_arm UV' q5 hb6))
  all_goals
    go_wp2
    go_ret
    exact ⟨rfl, BV.out.trans (q6.mono BV.out.size)⟩
theorem encode_good {t : Tb.Tbl} {v : Value} {w : World} (h : RdCh w v t.ch) (hS : Tb.Sized t) (e : Tb.tableE t = 0) : Calls Try.prog 10 #[tbV t.first v] w fun e w' => e = .returned (.tuple #[strV (Wr.encode t), .int .i64 0]) ∧ Below w.heap.size w w' := by
  have := pEncode_any t v w h hS
  rw [Wr.encO, if_pos e, e] at this
  exact this
theorem encode_bad {t : Tb.Tbl} {v : Value} {w : World} {E : Int} (h : RdCh w v t.ch) (hS : Tb.Sized t) (e : Tb.tableE t = E) (h0 : E ≠ 0) : Calls Try.prog 10 #[tbV t.first v] w fun e w' => e = .returned (.tuple #[.string ⟨#[]⟩, .int .i64 E]) ∧ Below w.heap.size w w' := by
  have := pEncode_any t v w h hS
  rw [Wr.encO, e, if_neg h0] at this
  exact this
theorem len_kinds : ∀ (l : List Tb.Lc), (∀ x ∈ l, x.name.length ≤ 24) → (Wr.kindsB l).length ≤ 30 * l.length
  | [], _ => by simp [Wr.kindsB]
  | x :: r, h => by
    have := len_kinds r (fun y hy => h y (by simp [hy]))
    have hx := h x (by simp)
    simp only [Wr.kindsB, List.length_append, Wr.kindB_len, List.length_cons]
    omega
theorem encode_len {t : Tb.Tbl} (h : Tb.tableE t = 0) : (Wr.encode t).length ≤ 100000 := by
  obtain ⟨g1, g2, g3⟩ := Tb.good_parts h
  have cb := (Tb.goE_rise t.ch t.first none g3).2.1
  have kl := Wr.kinds_len t.ch [t.first]
  have kb := len_kinds (Wr.kinds [t.first] t.ch) (fun l hl => by
    rcases Wr.kinds_mem t.ch [t.first] l hl with q | ⟨c, hc, rfl⟩
    · simp at q; subst q; exact (Tb.goodL_bd g2).2.2.2.2.2.1
    · exact (Tb.goodL_bd (cb c hc).2.2).2.2.2.2.2.1)
  simp only [Wr.encode, List.length_append, Wr.num_len, Wr.body_len]
  simp at kl
  omega
end Go.Proofs.Ytombhnjmelidcaa
