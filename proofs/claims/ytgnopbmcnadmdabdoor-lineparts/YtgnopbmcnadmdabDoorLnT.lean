/- The contract of splitText. -/
import Derived.Test.YtgnopbmcnadmdabDoorLnS
import Derived.Test.YtgnopbmcnadmdabDoorTxR
import Derived.Test.YtgnopbmcnadmdabDoorShS
namespace Go.Proofs.YtgnopbmcnadmdabDoor
open Go.RowKit
set_option linter.unusedVariables false
set_option linter.unusedSimpArgs false

def TextPost (s : ByteArray) (w : World) (e : Ending) (w' : World) : Prop :=
  Below w.heap.size w w' ∧
    (((Tx.split s.data.toList).err = 0 ∧ ∃ v, e = .returned v ∧ OwnLines w' w.heap.size v (Tx.split s.data.toList).lines) ∨
     ((Tx.split s.data.toList).err ≠ 0 ∧ e = .panicked [{ v := faultV (Tx.split s.data.toList).number (Tx.split s.data.toList).err, recovered := false }]))

theorem ownLines_base {w : World} {B B' : Nat} {v : Value} {ls : List Tx.Ln} (h : OwnLines w B v ls) (hB : B' ≤ B) : OwnLines w B' v ls := by
  obtain ⟨vs, h1, h2, h3⟩ := h
  exact ⟨vs, h1, owns_base h2 hB, fun i fv l a b => owns_base (h3 i fv l a b) hB⟩

theorem three_cells_at (w : World) (a b c : Value) {e : TypeId} {g : Nat} (hg : g = w.heap.size) : ∀ (j : Nat) (x : Value), [a, b, c][j]? = some x → (w.alloc (.cells #[a, b, c] e)).cell? ((⟨g, 0, none⟩ : Addr).add j) = some x := by
  subst hg; exact three_cells w a b c

set_option maxHeartbeats 400000 in
theorem splitText_many (s : ByteArray) (w : World) (hs : 8000 < s.size) :
    Calls Tryd.prog 15 #[.string s] w fun e w' => TextPost s w e w' := by
  have S2 : Hid (Tx.split s.data.toList = ⟨[], 0, 2⟩) := Tx.split_many (by simpa using hs)
  have hd : decide ((s.size : Int) ≤ 8000) = false := decide_eq_false (by omega)
  unfold TextPost
  go_enter Tryd.func15, Tryd.ntmps15
  go_wp2_with fail
  refine (require_no _ _ _).mono ?_
  rintro e w1 ⟨rfl, rfl⟩
  refine ⟨rfl, Below.refl _ _, .inr ?_⟩
  rw [S2.out]
  exact ⟨by decide, rfl⟩

set_option maxRecDepth 100000 in
set_option maxHeartbeats 4000000 in
theorem splitText_any (s : ByteArray) (w : World) (m : Int) (hm : w.cell? ⟨0, 0, none⟩ = some (.int .i64 m)) (hs : ¬ 8000 < s.size) :
    Calls Tryd.prog 15 #[.string s] w fun e w' => TextPost s w e w' := by
  obtain ⟨T, hT⟩ : ∃ T, Tx.go 1 (Tx.rows s.data.toList) = T := ⟨_, rfl⟩
  have hs' : ¬ 8000 < s.data.toList.length := by simpa using hs
  have HT := hid hT
  have HL : Hid (Tx.RelL T [] (Tx.go 1 (Tx.rows s.data.toList))) := by
    show Tx.RelL _ _ _
    rw [hT]; exact Tx.relL_start T (by rw [← hT]; exact Tx.go_tidy _ _)
  clear hT
  obtain ⟨SP, hSP⟩ : ∃ SP, Tx.split s.data.toList = SP := ⟨_, rfl⟩
  unfold TextPost
  rw [hSP]
  have HSP := hid hSP
  clear hSP
  obtain ⟨sr1, sr2⟩ := splitB_rows s.size s (Nat.le_refl _)
  obtain ⟨rl1, rl2⟩ := rows_len s.data.toList
  obtain ⟨ps, hps⟩ : ∃ ps, Lib.splitB nl 0 (Lib.countB s nl) s = ps := ⟨_, rfl⟩
  obtain ⟨N, hN⟩ : ∃ N, Lib.countB s nl + 1 = N := ⟨_, rfl⟩
  have SC : Calls Tryd.prog 23 #[.string s, .string ⟨#[10]⟩] w fun e w' => e = .returned (.slice (some ⟨w.heap.size, 0, none⟩) N N) ∧ w' = w.alloc (.cells (ps.map Value.string).toArray 9) := by
    have := Tryd.strings_Split s nl m w (by omega) hm (by decide)
    rw [hps, hN] at this
    exact this
  rw [hps] at sr1 sr2
  rw [hN] at sr2
  have N1 : N ≤ 8001 := by
    have : ps.length = (Tx.rows s.data.toList).length := by rw [← sr1]; simp
    omega
  have PR : Hid (∀ i : Nat, i < N → ∃ p, ps[i]? = some p ∧ p.size ≤ 8000 ∧ (Tx.rows s.data.toList).drop i = p.data.toList :: (Tx.rows s.data.toList).drop (i + 1)) := by
    intro i hi
    obtain ⟨p, hp⟩ : ∃ p, ps[i]? = some p := ⟨_, List.getElem?_eq_getElem (by omega)⟩
    have hp2 : (Tx.rows s.data.toList)[i]? = some p.data.toList := by rw [← sr1]; simp [hp]
    have hlt := (List.getElem?_eq_some_iff.1 hp2).1
    refine ⟨p, hp, ?_, ?_⟩
    · have := rl2 p.data.toList (List.mem_of_getElem? hp2)
      simp at this; omega
    · rw [List.drop_eq_getElem_cons hlt]
      congr 1
      rw [List.getElem?_eq_getElem hlt] at hp2
      simpa using hp2
  have EN : Hid ((Tx.rows s.data.toList).drop N = []) := List.drop_eq_nil_of_le (by rw [← sr1]; simp; omega)
  have HSC := hid SC
  clear hps hN SC sr1 sr2 rl1 rl2 hm
  have hd : decide ((s.size : Int) ≤ 8000) = true := decide_eq_true (by omega)
  obtain ⟨i0, hi, hz0, hz1, hz2⟩ := info_parts Tryd.infoLine
  go_enter Tryd.func15, Tryd.ntmps15
  go_wp2_with fail
  refine (require_yes _ _ _).mono ?_
  rintro e w9 ⟨rfl, rfl⟩
  go_wp2_with fail
  refine HSC.out.mono ?_
  rintro e w8 ⟨rfl, rfl⟩
  go_wp2_with fail
  go_loopw [3, 14] (fun v a wr => ∃ (i : Nat) (out : List Tx.Ln), i ≤ N ∧ a = .int .i64 i ∧ out.length ≤ i ∧ OwnLines wr (w9.heap.size + 1) v out ∧ Below (w9.heap.size + 1) (w9.alloc (.cells (ps.map Value.string).toArray 9)) wr ∧ Hid (Tx.RelL T out (Tx.go ((i : Int) + 1) ((Tx.rows s.data.toList).drop i)))) (fun _ a _ => N - (intOf a).toNat)
  case atStart => exact ⟨0, [], by omega, rfl, by simp, ownLines_nil _ _, Below.refl _ _, hid (by simpa using HL.out)⟩
  case round =>
    obtain ⟨i, out, h1, rfl, ho, hown, hb, HR⟩ := hrel
    clear HL HSC
    have hbs := hb.size
    simp at hbs
    obtain ⟨va, vcap, rfl⟩ := ownLines_shape hown
    by_cases hlt : i < N
    · obtain ⟨p, hp, hpz, hdr⟩ := PR.out i hlt
      have pc : wr.cell? ⟨w9.heap.size, i, none⟩ = some (.string p) := by
        rw [hb.cell (p := ⟨w9.heap.size, i, none⟩) (by simp)]
        simp [hp]
      have HR2 : Hid (Tx.RelL T out (Tx.go ((i : Int) + 1) (p.data.toList :: (Tx.rows s.data.toList).drop (i + 1)))) := by show Tx.RelL _ _ _; rw [← hdr]; exact HR.out
      clear hp hdr HR
      go_wp2_with fail
      refine (splitRow_any ((i : Int) + 1) p _ hpz).mono ?_
      rintro e w1 ⟨hb1, hO⟩
      have hb2 : Below (w9.heap.size + 1) (w9.alloc (.cells (ps.map Value.string).toArray 9)) w1 := hb.trans (hb1.mono (by omega))
      have hb0 : Below w9.heap.size w9 w1 := Below.trans ((Below.refl _ _).alloc (Nat.le_refl _) _) (hb2.mono (by omega))
      have hown1 := ownLines_below hown hb1
      have hz1' := hb1.size
      obtain ⟨⟨fs, er⟩, hF⟩ : ∃ q, Tx.rowF p.data.toList = q := ⟨_, rfl⟩
      rw [hF] at hO
      simp only at hO
      have HF := hid hF
      clear hF hown hb hb1 pc
      rcases hO with ⟨fv, rfl, rfl, hfv⟩ | ⟨rfl, he⟩
      · obtain ⟨fa, fcap, rfl⟩ := owns_shape0 hfv
        by_cases h0 : fs = []
        · subst h0
          have Q := hid (Tx.relL_none HR2.out (by rw [HF.out]) (by rw [HF.out]))
          have hbA := fun o => hb2.alloc (by have := hb2.size; simp at this; omega) o
          go_wp2
          go_roundw
          case rel => exact ⟨i + 1, out, by omega, by go_num, by omega, ownLines_below hown1 ((Below.refl _ _).alloc (Nat.le_refl _) _), hbA _, hid (by simpa using Q.out)⟩
          case measure => simp [intOf]; omega
        · have Q := hid (Tx.relL_some HR2.out (by rw [HF.out]) (by rw [HF.out]; exact h0))
          have hl0 : 0 < fs.length := List.length_pos_iff.2 h0
          have own1' := hown1
          obtain ⟨vs, hl, ho1, ho3⟩ := own1'
          have hbsz := hb2.size
          simp at hbsz
          clear h0
          go_wp2_with (at_builtin; go_must (refine wpList_append_own _ rfl _ _ 23 rfl (w9.heap.size + 1) 29 i0 (.agg #[.int .i64 0, .bool false, .slice none 0 0]) 3 40 Tryd.underlying23 hi hz0 hz1 hz2 rfl (by decide) _ _ _ rfl ((ho1.alloc _).alloc _) _ 1 1 [.int .i64 ((i : Int) + 1), .bool (Tx.inner p.data.toList), .slice fa fs.length fcap] rfl rfl (three_cells_at _ _ _ _ (by simp)) (three_one _ _ _ _ _) (by unfold maxLen; omega) (by omega) (by simp; omega) ?_))
          intro v' w3 hown' hgrow _
          have hb3 := Below.grown ((hb2.alloc (by omega) _).alloc (by simp; omega) _) hgrow (by simp; omega) (fun k hk => (ho1.lt k hk).1)
          have hown3 := ownLines_app (l := ⟨(i : Int) + 1, Tx.inner p.data.toList, fs⟩) hl (ho1.alloc _) (fun a b c d e => (ho3 a b c d e).alloc _) ((owns_base hfv (by omega)).alloc _) hown' hgrow
          clear hown' hgrow ho1 ho3 hfv hown1 hb2
          go_wp2
          go_roundw
          case rel => exact ⟨i + 1, _, by omega, by go_num, by simp; omega, hown3, hb3, hid (by rw [HF.out] at Q; simpa using Q.out)⟩
          case measure => simp [intOf]; omega
      · have S2 : Hid (SP = ⟨[], (i : Int) + 1, er⟩) := by
          show _ = _
          rw [← HSP.out]
          refine Tx.split_err hs' (HT.out.trans (Tx.relL_err HR2.out (by rw [HF.out]; exact he))) ?_ |>.trans ?_
          · rw [HF.out]; exact he
          · rw [HF.out]
        refine ⟨rfl, hb0, .inr ?_⟩
        rw [S2.out]
        exact ⟨he, rfl⟩
    · have hiN : i = N := by omega
      have hT := Tx.relL_end (by have := HR.out; rw [hiN, EN.out] at this; exact this)
      have hb0 : Below w9.heap.size w9 wr := Below.trans ((Below.refl _ _).alloc (Nat.le_refl _) _) (hb.mono (by omega))
      clear HR
      by_cases ho2 : out.length ≤ 200
      · have S2 : Hid (SP = ⟨out, 0, 0⟩) := by show _ = _; rw [← HSP.out]; exact Tx.split_ok hs' (HT.out.trans hT) (by omega)
        have hd2 : decide ((out.length : Int) ≤ 200) = true := decide_eq_true (by omega)
        clear hT hd
        go_wp2_with fail
        refine (require_yes _ _ _).mono ?_
        rintro e w7 ⟨rfl, rfl⟩
        go_wp2
        go_ret
        refine ⟨hb0, .inl ?_⟩
        rw [S2.out]
        exact ⟨rfl, _, rfl, ownLines_base hown (by omega)⟩
      · have S2 : Hid (SP = ⟨[], 0, 2⟩) := by show _ = _; rw [← HSP.out]; exact Tx.split_over hs' (HT.out.trans hT) (by omega)
        have hd2 : decide ((out.length : Int) ≤ 200) = false := decide_eq_false (by omega)
        clear hT hd
        go_wp2_with fail
        refine (require_no _ _ _).mono ?_
        rintro e w7 ⟨rfl, rfl⟩
        refine ⟨rfl, hb0, .inr ?_⟩
        rw [S2.out]
        exact ⟨by decide, rfl⟩
end Go.Proofs.YtgnopbmcnadmdabDoor
