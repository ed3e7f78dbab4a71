/- The contracts of the document's Take (a number of so many bytes) and DecodeOf. -/
import Derived.Test.YtombhnjmelidcaaWdA
import Derived.Test.YtombhnjmelidcaaWrE
import Derived.Test.YtombhnjmelidcaaWdI
import Derived.Test.YtombhnjmelidcaaTbC
import Derived.Deep.CutBlock
namespace Go.Proofs.Ytombhnjmelidcaa
open Go.RowKit
set_option linter.unusedVariables false
set_option linter.unusedSimpArgs false

/- the bytes, where one is, whether something was bad -/
abbrev Nb (w : World) (X : Nat) (s : Tx.Bs) (p : Nat) (bad : Bool) : Prop := CellsAt w X [strV s, .int .i64 p, .bool bad]
structure Took (s : Tx.Bs) (k p : Nat) (bad : Bool) (A p' : Nat) (bad' : Bool) : Prop where
  le : p' ≤ s.length
  lt : A < 256 ^ k
  ok : bad' = false → bad = false ∧ Wr.pNum k (s.drop p) = some (A, s.drop p')
  no : bad' = true → (bad = true ∨ Wr.pNum k (s.drop p) = none) ∧ A = 0
set_option maxRecDepth 100000 in
set_option maxHeartbeats 4000000 in
theorem nTake_any (X k : Nat) (s : Tx.Bs) (p : Nat) (bad : Bool) (w : World) (h : Nb w X s p bad) (hp : p ≤ s.length) (hs : s.length ≤ maxLen) (hk : k ≤ 5) :
    Calls Try.prog 35 #[.pointer (some ⟨X, 0, none⟩), .int .i64 k] w fun e w' => ∃ (A p' : Nat) (bad' : Bool), e = .returned (.int .i64 A) ∧ Nb w' X s p' bad' ∧ w.grownBy w' (some X) ∧ Took s k p bad A p' bad' := by
  have H := hid h
  obtain ⟨x0, f0⟩ := ca_at h 0 rfl
  obtain ⟨x1, f1⟩ := ca_at h 1 rfl
  obtain ⟨x2, f2⟩ := ca_at h 2 rfl
  have sx := h.1
  clear h
  unfold maxLen at hs
  have hz : (⟨s.toArray⟩ : ByteArray).size = s.length := by simp [ByteArray.size]
  have p256 : 0 < 256 ^ k := Nat.pow_pos (by decide)
  have HPW := hid p256
  clear p256
  cases bad
  case true =>
    go_enter Try.func35, Try.ntmps35
    go_wp2_with fail
    go_quiet (fail)
    go_wp2
    go_ret
    exact ⟨0, p, true, rfl, ca_put (w := w.drewN nq) H.out 2 _ (by simp), grown_set (grown_drewN (grown_refl _ _) nq) _ _, ⟨hp, HPW.out, fun q => (by cases q), fun _ => ⟨.inl rfl, rfl⟩⟩⟩
  by_cases q : (s.length : Int) - p < k
  case pos =>
    have HE : Hid (Wr.pNum k (s.drop p) = none) := Wr.pNum_none (by rw [List.length_drop]; omega)
    go_enter Try.func35, Try.ntmps35
    go_wp2_with fail
    go_quiet (fail)
    go_wp2
    go_ret
    exact ⟨0, p, true, rfl, ca_put (w := w.drewN nq) H.out 2 _ (by simp), grown_set (grown_drewN (grown_refl _ _) nq) _ _, ⟨hp, HPW.out, fun q => (by cases q), fun _ => ⟨.inr HE.out, rfl⟩⟩⟩
  have hkl : p + k ≤ s.length := by omega
  obtain ⟨D, hD⟩ : ∃ D, s.drop p = D := ⟨_, rfl⟩
  have lD : k ≤ D.length := by rw [← hD, List.length_drop]; omega
  have HD := hid hD
  have HE : Hid (Wr.pNum k D = some (Wr.leN (D.take k), s.drop (p + k))) := by show _ = _; rw [Wr.pNum_some lD, ← hD, List.drop_drop]
  clear hD
  go_enter Try.func35, Try.ntmps35
  go_wp2_with fail
  go_quiet (fail)
  go_wp2_with fail
  have H1 : Hid (Nb (w.drewN nq) X s (p + 0) false) := H.out
  have G1 : Hid (w.grownBy (w.drewN nq) (some X)) := grown_drewN (grown_refl _ _) nq
  clear x0 f0 x1 f1 x2 f2 sx H
  go_loopw [5, 6, 7] (fun nv tv iv wr => ∃ (i n t : Nat), i ≤ k ∧ nv = .int .i64 n ∧ tv = .int .i64 t ∧ iv = .int .i64 i ∧ Hid (n = Wr.leN (D.take i)) ∧ Hid (t = 256 ^ i) ∧ Hid (Nb wr X s (p + i) false) ∧ Hid (w.grownBy wr (some X))) (fun _ _ iv _ => k - (intOf iv).toNat)
  case atStart => exact ⟨0, 0, 1, by omega, rfl, rfl, rfl, rfl, rfl, H1, G1⟩
  case round =>
    clear H1 G1
    obtain ⟨i, n, t, hi, rfl, rfl, rfl, HN, HT, H0, G0⟩ := hrel
    by_cases hlt : i < k
    case neg =>
      obtain rfl : i = k := by omega
      have HN2 : Hid (n < 256 ^ i) := by
        show _ < _
        have := Wr.leN_lt (D.take i)
        rw [← HN.out, List.length_take, Nat.min_eq_left lD] at this
        exact this
      go_wp2
      go_ret
      exact ⟨n, p + i, false, rfl, H0.out, G0.out, ⟨hkl, HN2.out, fun _ => ⟨rfl, by rw [HD.out, HE.out, ← HN.out]⟩, fun q => (by cases q)⟩⟩
    have hiD : i < D.length := by omega
    obtain ⟨b, hb⟩ : ∃ b, D[i]? = some b := ⟨_, List.getElem?_eq_getElem hiD⟩
    have hsb : s[p + i]? = some b := by rw [← HD.out, List.getElem?_drop] at hb; exact hb
    have hpi : p + i < s.length := (List.getElem?_eq_some_iff.1 hsb).1
    obtain ⟨a, haa⟩ : ∃ a, p + i = a := ⟨_, rfl⟩
    rw [haa] at H0 hsb hpi
    have HAA := hid haa
    clear haa
    obtain ⟨x0, f0⟩ := ca_at H0.out 0 rfl
    obtain ⟨x1, f1⟩ := ca_at H0.out 1 rfl
    have sx := H0.out.1
    have hbl : b.toNat < 256 := b.toNat_lt
    obtain ⟨B, hB⟩ : ∃ B : Nat, b.toNat = B := ⟨_, rfl⟩
    have hidx : ∀ w : World, (Instr.index 9 (strV s) (.int .i64 (a : Int))).run Try.prog w = .ok (.int .u8 (B : Int)) w := fun w => by
      rw [run_index_string w _ _ _ _ Try.underlying9, dif_pos ⟨by omega, by rw [hz]; omega⟩]
      have := (List.getElem?_eq_some_iff.1 hsb).2
      simp [ByteArray.getElem_eq_getElem_data, this, hB]
    have HB := hid hB
    have HBT := hid hb
    have hbl' : B < 256 := by rw [← hB]; exact hbl
    clear hb hsb hB hbl
    have i5 : i = 0 ∨ i = 1 ∨ i = 2 ∨ i = 3 ∨ i = 4 := by omega
    rcases i5 with rfl | rfl | rfl | rfl | rfl
    · obtain rfl : t = 1 := HT.out
      have hn : n < 1 := by have := Wr.leN_lt (D.take 0); rw [← HN.out, List.length_take, Nat.min_eq_left (by omega)] at this; exact this
      have HS : Hid (n + B * 1 = Wr.leN (D.take (0 + 1))) := by
        show _ = _
        rw [take_one HBT.out, Wr.leN_snoc, ← HN.out, HB.out, List.length_take, Nat.min_eq_left (by omega)]
      go_wp2_with fail
      go_quiet (fail)
      go_wp2
      go_roundw
      case rel => exact ⟨0 + 1, n + B * 1, 256, by omega, by go_num, by go_num, by go_num, HS, rfl, by rw [show p + (0 + 1) = a + 1 by have := HAA.out; omega]; exact ca_put (w := wr.drewN _) H0.out 1 (.int .i64 _) (by simp), grown_set (grown_drewN G0.out _) _ _⟩
      case measure => simp [intOf]; omega
    · obtain rfl : t = 256 := HT.out
      have hn : n < 256 := by have := Wr.leN_lt (D.take 1); rw [← HN.out, List.length_take, Nat.min_eq_left (by omega)] at this; exact this
      have HS : Hid (n + B * 256 = Wr.leN (D.take (1 + 1))) := by
        show _ = _
        rw [take_one HBT.out, Wr.leN_snoc, ← HN.out, HB.out, List.length_take, Nat.min_eq_left (by omega)]
      go_wp2_with fail
      go_quiet (fail)
      go_wp2
      go_roundw
      case rel => exact ⟨1 + 1, n + B * 256, 65536, by omega, by go_num, by go_num, by go_num, HS, rfl, by rw [show p + (1 + 1) = a + 1 by have := HAA.out; omega]; exact ca_put (w := wr.drewN _) H0.out 1 (.int .i64 _) (by simp), grown_set (grown_drewN G0.out _) _ _⟩
      case measure => simp [intOf]; omega
    · obtain rfl : t = 65536 := HT.out
      have hn : n < 65536 := by have := Wr.leN_lt (D.take 2); rw [← HN.out, List.length_take, Nat.min_eq_left (by omega)] at this; exact this
      have HS : Hid (n + B * 65536 = Wr.leN (D.take (2 + 1))) := by
        show _ = _
        rw [take_one HBT.out, Wr.leN_snoc, ← HN.out, HB.out, List.length_take, Nat.min_eq_left (by omega)]
      go_wp2_with fail
      go_quiet (fail)
      go_wp2
      go_roundw
      case rel => exact ⟨2 + 1, n + B * 65536, 16777216, by omega, by go_num, by go_num, by go_num, HS, rfl, by rw [show p + (2 + 1) = a + 1 by have := HAA.out; omega]; exact ca_put (w := wr.drewN _) H0.out 1 (.int .i64 _) (by simp), grown_set (grown_drewN G0.out _) _ _⟩
      case measure => simp [intOf]; omega
    · obtain rfl : t = 16777216 := HT.out
      have hn : n < 16777216 := by have := Wr.leN_lt (D.take 3); rw [← HN.out, List.length_take, Nat.min_eq_left (by omega)] at this; exact this
      have HS : Hid (n + B * 16777216 = Wr.leN (D.take (3 + 1))) := by
        show _ = _
        rw [take_one HBT.out, Wr.leN_snoc, ← HN.out, HB.out, List.length_take, Nat.min_eq_left (by omega)]
      go_wp2_with fail
      go_quiet (fail)
      go_wp2
      go_roundw
      case rel => exact ⟨3 + 1, n + B * 16777216, 4294967296, by omega, by go_num, by go_num, by go_num, HS, rfl, by rw [show p + (3 + 1) = a + 1 by have := HAA.out; omega]; exact ca_put (w := wr.drewN _) H0.out 1 (.int .i64 _) (by simp), grown_set (grown_drewN G0.out _) _ _⟩
      case measure => simp [intOf]; omega
    · obtain rfl : t = 4294967296 := HT.out
      have hn : n < 4294967296 := by have := Wr.leN_lt (D.take 4); rw [← HN.out, List.length_take, Nat.min_eq_left (by omega)] at this; exact this
      have HS : Hid (n + B * 4294967296 = Wr.leN (D.take (4 + 1))) := by
        show _ = _
        rw [take_one HBT.out, Wr.leN_snoc, ← HN.out, HB.out, List.length_take, Nat.min_eq_left (by omega)]
      go_wp2_with fail
      go_quiet (fail)
      go_wp2
      go_roundw
      case rel => exact ⟨4 + 1, n + B * 4294967296, 1099511627776, by omega, by go_num, by go_num, by go_num, HS, rfl, by rw [show p + (4 + 1) = a + 1 by have := HAA.out; omega]; exact ca_put (w := wr.drewN _) H0.out 1 (.int .i64 _) (by simp), grown_set (grown_drewN G0.out _) _ _⟩
      case measure => simp [intOf]; omega
end Go.Proofs.Ytombhnjmelidcaa
namespace Go.Proofs.Ytombhnjmelidcaa
open Go.RowKit Go.Shelf
set_option linter.unusedVariables false
set_option linter.unusedSimpArgs false

/- what a local is, number by number -/
theorem loc_ok {s : Tx.Bs} {p A p1 B p2 k p3 : Nat} {b1 b2 : Bool} (h1 : Took s 3 p false A p1 b1) (h2 : Took s 2 p1 b1 B p2 b2) (h3 : Took s 1 p2 b2 k p3 false) : Wr.pLoc (s.drop p) = if k ≤ (s.drop p3).length then some (⟨(A : Int) - 100000, B, (s.drop p3).take k⟩, (s.drop p3).drop k) else none := by
  obtain ⟨e3, q3⟩ := h3.ok rfl
  subst e3
  obtain ⟨e2, q2⟩ := h2.ok rfl
  subst e2
  obtain ⟨_, q1⟩ := h1.ok rfl
  unfold Wr.pLoc
  rw [q1]; simp only; rw [q2]; simp only; rw [q3]
theorem loc_no {s : Tx.Bs} {p A p1 B p2 k p3 : Nat} {b1 b2 : Bool} (h1 : Took s 3 p false A p1 b1) (h2 : Took s 2 p1 b1 B p2 b2) (h3 : Took s 1 p2 b2 k p3 true) : Wr.pLoc (s.drop p) = none ∧ k = 0 := by
  obtain ⟨o3, z⟩ := h3.no rfl
  refine ⟨?_, z⟩
  cases b2
  · obtain ⟨e2, q2⟩ := h2.ok rfl
    subst e2
    obtain ⟨_, q1⟩ := h1.ok rfl
    rcases o3 with o | o
    · cases o
    · unfold Wr.pLoc; rw [q1]; simp only; rw [q2]; simp only; rw [o]
  · obtain ⟨o2, _⟩ := h2.no rfl
    cases b1
    · obtain ⟨_, q1⟩ := h1.ok rfl
      rcases o2 with o | o
      · cases o
      · unfold Wr.pLoc; rw [q1]; simp only; rw [o]
    · obtain ⟨o1, _⟩ := h1.no rfl
      rcases o1 with o | o
      · cases o
      · unfold Wr.pLoc; rw [o]
theorem parse_no1 {s : Tx.Bs} (h : Wr.pNum 2 s = none) : Wr.parse s = none := by unfold Wr.parse; rw [h]
theorem parse_no2 {s s1 : Tx.Bs} {n : Nat} (h : Wr.pNum 2 s = some (n, s1)) (h2 : Wr.pLocs n s1 = none) : Wr.parse s = none := by unfold Wr.parse; rw [h]; simp only; rw [h2]
theorem parse_no3 {s s1 s2 : Tx.Bs} {n : Nat} {ks : List Tb.Lc} (h : Wr.pNum 2 s = some (n, s1)) (h2 : Wr.pLocs n s1 = some (ks, s2)) (h3 : Wr.pKind ks s2 = none) : Wr.parse s = none := by unfold Wr.parse; rw [h]; simp only; rw [h2]; simp only; rw [h3]
theorem parse_no4 {s s1 s2 s3 : Tx.Bs} {n : Nat} {ks : List Tb.Lc} {f : Tb.Lc} (h : Wr.pNum 2 s = some (n, s1)) (h2 : Wr.pLocs n s1 = some (ks, s2)) (h3 : Wr.pKind ks s2 = some (f, s3)) (h4 : Wr.pNum 2 s3 = none) : Wr.parse s = none := by unfold Wr.parse; rw [h]; simp only; rw [h2]; simp only; rw [h3]; simp only; rw [h4]
theorem parse_no5 {s s1 s2 s3 s4 : Tx.Bs} {n m : Nat} {ks : List Tb.Lc} {f : Tb.Lc} (h : Wr.pNum 2 s = some (n, s1)) (h2 : Wr.pLocs n s1 = some (ks, s2)) (h3 : Wr.pKind ks s2 = some (f, s3)) (h4 : Wr.pNum 2 s3 = some (m, s4)) (h5 : Wr.pChs ks m s4 = none) : Wr.parse s = none := by unfold Wr.parse; rw [h]; simp only; rw [h2]; simp only; rw [h3]; simp only; rw [h4]; simp only; rw [h5]
theorem parse_yes {s s1 s2 s3 s4 s5 : Tx.Bs} {n m : Nat} {ks : List Tb.Lc} {f : Tb.Lc} {ch : List Tb.Cg} (h : Wr.pNum 2 s = some (n, s1)) (h2 : Wr.pLocs n s1 = some (ks, s2)) (h3 : Wr.pKind ks s2 = some (f, s3)) (h4 : Wr.pNum 2 s3 = some (m, s4)) (h5 : Wr.pChs ks m s4 = some (ch, s5)) : Wr.parse s = some ⟨f, ch⟩ := by unfold Wr.parse; rw [h]; simp only; rw [h2]; simp only; rw [h3]; simp only; rw [h4]; simp only; rw [h5]
theorem name_cut (s : Tx.Bs) (p k : Nat) : (⟨s.toArray⟩ : ByteArray).extract p (p + k) = ⟨((s.drop p).take k).toArray⟩ := by
  apply bytes_ext
  rw [Lib.extract_data]
  simp
/- while kinds are read -/
structure D1 (w : World) (N n : Nat) (s s1 : Tx.Bs) (i : Nat) (ks : List Tb.Lc) (kv : Value) (p : Nat) (bad : Bool) (wr : World) : Prop where
  nb : Nb wr (N + 1) s p bad
  le : p ≤ s.length
  res : CellsAt wr N (tbC ⟨0, 0, []⟩ (.slice none 0 0))
  own : OwnLc wr (N + 1 + 1) kv ks
  len : ks.length ≤ i
  names : ∀ l ∈ ks, l.name.length ≤ 255
  ok : bad = false → Wr.pNum 2 s = some (n, s1) ∧ ks.length = i ∧ Wr.locsFrom n s1 ks i (s.drop p)
  no : bad = true → Wr.parse s = none
  bel : Below w.heap.size w wr
structure DF (w : World) (N : Nat) (ks : List Tb.Lc) (kv : Value) (wr : World) : Prop where
  res : CellsAt wr N (tbC ⟨0, 0, []⟩ (.slice none 0 0))
  own : OwnLc wr (N + 1 + 1) kv ks
  bel : Below w.heap.size w wr
  eq : w.heap.size = N
theorem df_grown {w wr w' : World} {N : Nat} {ks : List Tb.Lc} {kv : Value} (h : DF w N ks kv wr) (hg : wr.grownBy w' (some (N + 1))) : DF w N ks kv w' :=
  ⟨ca_grown h.res hg (by omega), h.own.kept hg (.inr (fun q => by have := (h.own.lt _ q).1; omega)), Below.grown h.bel hg h.bel.size (fun k hk => by cases hk; rw [h.eq]; omega), h.eq⟩
theorem df_alloc {w wr : World} {N : Nat} {ks : List Tb.Lc} {kv : Value} (h : DF w N ks kv wr) (o : Obj) : DF w N ks kv (wr.alloc o) := ⟨ca_alloc h.res o, World.ownsRow.alloc h.own o, h.bel.alloc h.bel.size o, h.eq⟩
theorem df_set {w wr : World} {N q o : Nat} {u : Value} {ks : List Tb.Lc} {kv : Value} (h : DF w N ks kv wr) (hq : N < q) (hk : ∀ b, kv.ownBlock = some b → b ≠ q) : DF w N ks kv (wr.setCell ⟨q, o, none⟩ u) :=
  ⟨ca_far h.res (by omega), ownsRow_setCell_other h.own (fun e => hk _ e rfl) _, below_set h.bel (by rw [h.eq]; omega) _, h.eq⟩
theorem df_app {w wa w6 : World} {N q : Nat} {s : Tx.Bs} {b : Bool} {ks : List Tb.Lc} {kv v' : Value} {l : Tb.Lc} {o : Obj} (h : DF w N ks kv wa) (X : Nb wa (N + 1) s q b) (ho : w6.ownsRow (N + 1 + 1) 23 3 v' (ks.length + 1) (ks.flatMap lcCells ++ lcCells l)) (hg : (wa.alloc o).grownBy w6 kv.ownBlock) :
    CellsAt w6 N (tbC ⟨0, 0, []⟩ (.slice none 0 0)) ∧ OwnLc w6 (N + 1 + 1) v' (ks ++ [l]) ∧ Nb w6 (N + 1) s q b ∧ Below w.heap.size w w6 := by
  have ne : ∀ Y, Y < N + 1 + 1 → ∀ k, kv.ownBlock = some k → k ≠ Y := fun Y hY k hk => by have := (h.own.lt k hk).1; omega
  refine ⟨ca_grownO (ca_alloc h.res o) hg (ne _ (by omega)), ?_, ca_grownO (ca_alloc X o) hg (ne _ (by omega)), ?_⟩
  · show World.ownsRow _ _ _ _ _ _ _
    simpa using ho
  · exact Below.grown (h.bel.alloc h.bel.size o) hg (by have := h.bel.size; simp; omega) (fun k hk => by have := (h.own.lt k hk).1; rw [h.eq]; omega)
structure DG (w : World) (N T : Nat) (ks : List Tb.Lc) (kv : Value) (f : Tb.Lc) (cv : Value) (chs : List Tb.Cg) (wr : World) : Prop where
  res : CellsAt wr N (tbC ⟨0, 0, []⟩ (.slice none 0 0))
  t : CellsAt wr T (tbC f cv)
  own : OwnLc wr (N + 1 + 1) kv ks
  ch : OwnCh wr (T + 1) cv chs
  lt : N + 1 < T
  hk : ∀ b, kv.ownBlock = some b → b < T
  bel : Below w.heap.size w wr
  eq : w.heap.size = N
theorem dg_grown {w wr w' : World} {N T : Nat} {ks : List Tb.Lc} {kv cv : Value} {f : Tb.Lc} {chs : List Tb.Cg} (h : DG w N T ks kv f cv chs wr) (hg : wr.grownBy w' (some (N + 1))) : DG w N T ks kv f cv chs w' :=
  have := h.lt
  ⟨ca_grown h.res hg (by omega), ca_grown h.t hg (by omega), h.own.kept hg (.inr (fun q => by have := (h.own.lt _ q).1; omega)), h.ch.kept hg (.inr (fun q => by have := (h.ch.lt _ q).1; omega)), h.lt, h.hk, Below.grown h.bel hg h.bel.size (fun k hk => by cases hk; rw [h.eq]; omega), h.eq⟩
theorem dg_set {w wr : World} {N T o : Nat} {u : Value} {ks : List Tb.Lc} {kv cv : Value} {f : Tb.Lc} {chs : List Tb.Cg} (h : DG w N T ks kv f cv chs wr) : DG w N T ks kv f cv chs (wr.setCell ⟨N + 1, o, none⟩ u) :=
  have := h.lt
  ⟨ca_far h.res (by omega), ca_far h.t (by omega), ownsRow_setCell_other h.own (fun q => by have := (h.own.lt _ q).1; simp only at this; omega) _, ownsRow_setCell_other h.ch (fun q => by have := (h.ch.lt _ q).1; simp only at this; omega) _, h.lt, h.hk, below_set h.bel (by rw [h.eq]; omega) _, h.eq⟩
theorem dg_first {w wr : World} {N T : Nat} {ks : List Tb.Lc} {kv cv : Value} {f l : Tb.Lc} {chs : List Tb.Cg} (h : DG w N T ks kv f cv chs wr) : DG w N T ks kv l cv chs (((wr.setCell ⟨T, 0, none⟩ (.int .i64 l.shift)).setCell ⟨T, 1, none⟩ (.int .i64 l.save)).setCell ⟨T, 2, none⟩ (strV l.name)) :=
  have := h.lt
  have k1 : ∀ q, kv.ownBlock = some q → ¬ q = T := fun q e => by have := h.hk q e; omega
  have k2 : ∀ q, cv.ownBlock = some q → ¬ q = T := fun q e => by have := (h.ch.lt q e).1; omega
  ⟨ca_far (ca_far (ca_far h.res (by omega)) (by omega)) (by omega), ca_put (ca_put (ca_put h.t 0 _ (by simp [tbC])) 1 _ (by simp [tbC])) 2 _ (by simp [tbC]),
   ownsRow_setCell_other (ownsRow_setCell_other (ownsRow_setCell_other h.own (fun q => k1 _ q rfl) _) (fun q => k1 _ q rfl) _) (fun q => k1 _ q rfl) _,
   ownsRow_setCell_other (ownsRow_setCell_other (ownsRow_setCell_other h.ch (fun q => k2 _ q rfl) _) (fun q => k2 _ q rfl) _) (fun q => k2 _ q rfl) _, h.lt, h.hk,
   below_set (below_set (below_set h.bel (by rw [h.eq]; omega) _) (by rw [h.eq]; omega) _) (by rw [h.eq]; omega) _, h.eq⟩
structure PF (s : Tx.Bs) (n : Nat) (s1 : Tx.Bs) (ks : List Tb.Lc) (f : Tb.Lc) (p : Nat) (bad : Bool) : Prop where
  ok : bad = false → ∃ s2, Wr.pNum 2 s = some (n, s1) ∧ Wr.pLocs n s1 = some (ks, s2) ∧ Wr.pKind ks s2 = some (f, s.drop p)
  no : bad = true → Wr.parse s = none
theorem ch_ok {s : Tx.Bs} {ks : List Tb.Lc} {l : Tb.Lc} {p A p1 k p2 : Nat} {b1 : Bool} (h1 : Took s 5 p false A p1 b1) (h2 : Took s 2 p1 b1 k p2 false) (hl : ks[k]? = some l) : Wr.pCh ks (s.drop p) = some (⟨(A : Int) - 274877906944, l⟩, s.drop p2) := by
  obtain ⟨e2, q2⟩ := h2.ok rfl
  subst e2
  obtain ⟨_, q1⟩ := h1.ok rfl
  unfold Wr.pCh Wr.pKind
  rw [q1]; simp only; rw [q2]; simp only; rw [hl]
theorem ch_no {s : Tx.Bs} {ks : List Tb.Lc} {p A p1 k p2 : Nat} {b1 b2 : Bool} (h1 : Took s 5 p false A p1 b1) (h2 : Took s 2 p1 b1 k p2 b2) (hl : b2 = true ∨ ks[k]? = none) : Wr.pCh ks (s.drop p) = none := by
  unfold Wr.pCh Wr.pKind
  cases b1
  · obtain ⟨_, q1⟩ := h1.ok rfl
    rw [q1]; simp only
    cases b2
    · obtain ⟨_, q2⟩ := h2.ok rfl
      rw [q2]; simp only
      rcases hl with o | o
      · cases o
      · rw [o]
    · rcases (h2.no rfl).1 with o | o
      · cases o
      · rw [o]
  · rcases (h1.no rfl).1 with o | o
    · cases o
    · rw [o]
theorem dg_app {w wa w6 : World} {N T q : Nat} {s : Tx.Bs} {b : Bool} {ks : List Tb.Lc} {kv cv v' : Value} {f : Tb.Lc} {chs : List Tb.Cg} {c : Tb.Cg} {o : Obj} (h : DG w N T ks kv f cv chs wa) (X : Nb wa (N + 1) s q b) (ho : w6.ownsRow (T + 1) 32 4 v' (chs.length + 1) (chs.flatMap cgCells ++ cgCells c)) (hg : (wa.alloc o).grownBy w6 cv.ownBlock) :
    DG w N T ks kv f v' (chs ++ [c]) (w6.setCell ⟨T, 3, none⟩ v') ∧ Nb (w6.setCell ⟨T, 3, none⟩ v') (N + 1) s q b ∧ CellsAt w6 T (tbC f cv) := by
  have lt := h.lt
  have ne : ∀ Y, Y < T + 1 → ∀ k, cv.ownBlock = some k → k ≠ Y := fun Y hY k hk => by have := (h.ch.lt k hk).1; omega
  have t3 := ca_grownO (ca_alloc h.t o) hg (ne _ (by omega))
  have e1 : (chs.flatMap cgCells ++ cgCells c) = (chs ++ [c]).flatMap cgCells := by simp
  have o3 : OwnCh w6 (T + 1) v' (chs ++ [c]) := by
    show World.ownsRow _ _ _ _ _ _ _
    rw [← e1]
    simpa using ho
  have ok : OwnLc w6 (N + 1 + 1) kv ks := (World.ownsRow.alloc h.own o).kept hg (by
    cases q : kv.ownBlock with
    | none => exact .inl rfl
    | some b =>
      right
      intro q2
      have a1 := h.hk b q
      have a2 := (h.ch.lt b q2.symm).1
      omega)
  refine ⟨⟨ca_far (ca_grownO (ca_alloc h.res o) hg (ne _ (by omega))) (by omega), ca_put t3 3 v' (by simp [tbC]), ownsRow_setCell_other ok (fun q => by have := h.hk _ q; simp only at this; omega) _, ownsRow_setCell_other o3 (fun q => by have := (o3.lt _ q).1; simp only at this; omega) _, h.lt, h.hk, below_set ?_ (by rw [h.eq]; omega) _, h.eq⟩, ca_far (ca_grownO (ca_alloc X o) hg (ne _ (by omega))) (by omega), t3⟩
  exact Below.grown (h.bel.alloc h.bel.size o) hg (by have := h.bel.size; simp; omega) (fun k hk => by have := (h.ch.lt k hk).1; rw [h.eq]; omega)
theorem dg_row {w wa w6 : World} {N T q n : Nat} {s : Tx.Bs} {b : Bool} {ks : List Tb.Lc} {kv cv v' : Value} {f : Tb.Lc} {chs : List Tb.Cg} {c : Tb.Cg} {o : Obj} (h : DG w N T ks kv f cv chs wa) (X : Nb wa (N + 1) s q b) (ho : w6.ownsRow (T + 1) 32 4 v' n (chs.flatMap cgCells ++ cgCells c)) (hg : (wa.alloc o).grownBy w6 cv.ownBlock) :
    ∃ va vcap, v' = .slice va n vcap ∧ Hid (DG w N T ks kv f v' (chs ++ [c]) (w6.setCell ⟨T, 3, none⟩ v') ∧ Nb (w6.setCell ⟨T, 3, none⟩ v') (N + 1) s q b) ∧ w6.cell? ⟨T, 3, none⟩ = some cv ∧ w6.frozen? ⟨T, 3, none⟩ = false ∧ T < w6.heap.size := by
  obtain ⟨va, vcap, e⟩ := owns_shape0 ho
  have hn : n = chs.length + 1 := by
    have := ho.1
    have e1 : (chs.flatMap cgCells ++ cgCells c) = (chs ++ [c]).flatMap cgCells := by simp
    rw [e1, flat_len] at this
    simp at this
    omega
  obtain ⟨z1, z2, z3⟩ := dg_app h X (by rw [← hn]; exact ho) hg
  exact ⟨va, vcap, e, ⟨z1, z2⟩, (ca_at z3 3 rfl).1, (ca_at z3 3 rfl).2, z3.1⟩
structure D2 (w : World) (N T n m : Nat) (s s1 s4 : Tx.Bs) (ks : List Tb.Lc) (kv : Value) (f : Tb.Lc) (i : Nat) (chs : List Tb.Cg) (cv : Value) (p : Nat) (bad : Bool) (wr : World) : Prop where
  nb : Nb wr (N + 1) s p bad
  le : p ≤ s.length
  dg : DG w N T ks kv f cv chs wr
  len : chs.length ≤ i
  names : ∀ c ∈ chs, c.lc.name.length ≤ 255
  ok : bad = false → (∃ s2 s3, Wr.pNum 2 s = some (n, s1) ∧ Wr.pLocs n s1 = some (ks, s2) ∧ Wr.pKind ks s2 = some (f, s3) ∧ Wr.pNum 2 s3 = some (m, s4)) ∧ chs.length = i ∧ Wr.chsFrom ks m s4 chs i (s.drop p)
  no : bad = true → Wr.parse s = none
theorem three_at (w : World) (a b c : Value) {e : TypeId} {g : Nat} (hg : g = w.heap.size) : ∀ (j : Nat) (x : Value), [a, b, c][j]? = some x → (w.alloc (.cells #[a, b, c] e)).cell? ((⟨g, 0, none⟩ : Addr).add j) = some x := by
  subst hg; exact three_cells' w a b c
theorem three_any (a b : Int) (c : ByteArray) : ∀ u ∈ [Value.int .i64 a, .int .i64 b, .string c], u.oneCell' = true := by
  intro u hu
  simp at hu
  rcases hu with rfl | rfl | rfl <;> rfl
set_option maxRecDepth 100000 in
set_option maxHeartbeats 8000000 in
theorem decodeOf_any (s : Tx.Bs) (w : World) (hs : s.length ≤ maxLen) :
    Calls Try.prog 14 #[strV s] w (DecodeEnd s w) := by
  obtain ⟨j0, hj, hy0, hy1, hy2⟩ := info_parts Try.infoLc
  obtain ⟨i0, hi, hz0, hz1, hz2⟩ := info_parts Try.infoCg
  have HS := hid hs
  have hsl : s.length ≤ 9223372036854775807 := by unfold maxLen at hs; omega
  have hz : (⟨s.toArray⟩ : ByteArray).size = s.length := by simp [ByteArray.size]
  clear hs
  obtain ⟨N, hN⟩ : ∃ N, w.heap.size = N := ⟨_, rfl⟩
  have HNN := hid hN
  obtain ⟨W0, hW⟩ : ∃ W, (w.alloc (.cells #[.int .i64 0, .int .i64 0, .string ⟨#[]⟩, .slice none 0 0] 26)).alloc (.cells #[strV s, .int .i64 0, .bool false] 71) = W := ⟨_, rfl⟩
  have B0 : Hid (Below w.heap.size w W0) := by rw [← hW]; exact ((Below.refl _ _).alloc (Nat.le_refl _) _).alloc (by simp) _
  have R0 : Hid (CellsAt W0 N (tbC ⟨0, 0, []⟩ (.slice none 0 0))) := by rw [← hW, ← hN]; exact ca_alloc (ca_new w (tbC ⟨0, 0, []⟩ (.slice none 0 0)) 26) _
  have X0 : Hid (Nb W0 (N + 1) s 0 false) := by
    rw [← hW, ← hN]
    have := ca_new (w.alloc (.cells #[.int .i64 0, .int .i64 0, .string ⟨#[]⟩, .slice none 0 0] 26)) [strV s, .int .i64 0, .bool false] 71
    rw [World.size_alloc] at this
    exact this
  have C0 := hid (nTake_any (N + 1) 2 s 0 false W0 X0.out (by omega) HS.out (by omega))
  have HW : Hid ((w.alloc (.cells #[.int .i64 0, .int .i64 0, .string ⟨#[]⟩, .slice none 0 0] 26)).alloc (.cells #[strV s, .int .i64 0, .bool false] 71) = W0) := hW
  clear hW
  go_enter Try.func14, Try.ntmps14
  go_wp2_with fail
  rw [HW.out]
  refine C0.out.mono ?_
  rintro e w1 ⟨n, p, bad, rfl, X1, G1, K1⟩
  have hn : n < 65536 := K1.lt
  have S1 : Hid (D1 w N n s (s.drop p) 0 [] (.slice none 0 0) p bad w1) := by
    refine ⟨X1, K1.le, ca_grown R0.out G1 (by omega), World.ownsRow_nil _ _ _ _, by simp, by simp, fun q => ?_, fun q => ?_, Below.grown B0.out G1 B0.out.size (fun k hk => by cases hk; rw [HNN.out]; omega)⟩
    · obtain ⟨_, h2⟩ := K1.ok q
      exact ⟨by simpa using h2, rfl, Wr.locs_start _ _⟩
    · rcases (K1.no q).1 with o | o
      · cases o
      · exact parse_no1 (by simpa using o)
  have HN0 : Hid (bad = true → n = 0) := fun q => (K1.no q).2
  clear C0 X1 G1 K1 R0 B0 X0 HW hN
  obtain ⟨s1, hs1⟩ : ∃ s1, s.drop p = s1 := ⟨_, rfl⟩
  rw [hs1] at S1
  clear hs1
  go_upto_block 0 with fail
  go_cut [5, 7, 8, 9] from 17 to 58 (fun s5 s7 s8 s9 wc => ∃ (i : Nat) (ks : List Tb.Lc) (p : Nat) (bad : Bool), i ≤ n ∧ Hid (D1 w N n s s1 i ks s5 p bad wc) ∧ Hid (bad = false → i = n))
  case first =>
    go_wp2_with fail
    go_loopw [5, 7] (fun kvv iv wr => ∃ (i : Nat) (ks : List Tb.Lc) (p : Nat) (bad : Bool), i ≤ n ∧ iv = .int .i64 i ∧ Hid (D1 w N n s s1 i ks kvv p bad wr)) (fun _ iv _ => n - (intOf iv).toNat)
    case atStart => exact ⟨0, [], p, bad, by omega, rfl, S1⟩
    case round =>
      clear S1 HN0
      obtain ⟨i, ks, p, bad, hin, rfl, S0⟩ := hrel
      obtain ⟨ka, kcap, rfl⟩ := lc_shape S0.out.own
      obtain ⟨x2, _⟩ := ca_at S0.out.nb 2 rfl
      have sx := S0.out.nb.1
      by_cases hlt : i < n
      case neg =>
        obtain rfl : i = n := by omega
        have iz : ¬ (i : Int) < i := by omega
        go_wp2_with fail
        go_meet
        exact ⟨i, ks, p, bad, Nat.le_refl _, S0, fun _ => rfl⟩
      have iz : (i : Int) < n := by omega
      cases bad
      case true =>
        go_wp2_with fail
        go_meet
        exact ⟨i, ks, p, true, hin, S0, fun q => by cases q⟩
      obtain ⟨P1, P2, P3⟩ := S0.out.ok rfl
      have HP1 := hid P1
      have HP2 := hid P2
      have HP3 := hid P3
      clear P1 P2 P3
      have C1 := hid (nTake_any (N + 1) 3 s p false wr S0.out.nb S0.out.le HS.out (by omega))
      have F0 : Hid (DF w N ks (.slice ka ks.length kcap) wr) := ⟨S0.out.res, S0.out.own, S0.out.bel, HNN.out⟩
      have KB : Hid (∀ b, Value.ownBlock (.slice ka ks.length kcap) = some b → b < wr.heap.size ∧ N + 1 + 1 ≤ b) := fun b hb => ⟨(S0.out.own.lt b hb).2, (S0.out.own.lt b hb).1⟩
      have KM : Hid (∀ b, Value.ownBlock (.slice ka ks.length kcap) = some b → b ≠ N + 1) := fun b hb => by have := (S0.out.own.lt b hb).1; omega
      have HNM := hid S0.out.names
      have HLN := hid S0.out.len
      clear S0
      go_wp2_with fail
      clear x2 sx
      refine C1.out.mono ?_
      rintro e w1 ⟨A, p1, b1, rfl, X1, G1, K1⟩
      have F1 := hid (df_grown F0.out G1)
      have KX1 := hid K1
      have bA : A < 16777216 := K1.lt
      have sz1 := G1.size
      obtain ⟨L, hL⟩ : ∃ L, w1.heap.size = L := ⟨_, rfl⟩
      obtain ⟨V1, hV1⟩ : ∃ V, w1.alloc (.cells #[.int .i64 ((A : Int) - 100000), .int .i64 0, .string ⟨#[]⟩] 23) = V := ⟨_, rfl⟩
      have F2 := hid (df_alloc F1.out (.cells #[.int .i64 ((A : Int) - 100000), .int .i64 0, .string ⟨#[]⟩] 23))
      have X2 := hid (ca_alloc X1 (.cells #[.int .i64 ((A : Int) - 100000), .int .i64 0, .string ⟨#[]⟩] 23))
      have L2 : Hid (CellsAt V1 L [.int .i64 ((A : Int) - 100000), .int .i64 0, .string ⟨#[]⟩]) := by rw [← hV1, ← hL]; exact ca_new _ _ _
      rw [hV1] at F2 X2
      have KL : Hid (∀ b, Value.ownBlock (.slice ka ks.length kcap) = some b → b ≠ L) := fun b hb => by have := (KB.out b hb).1; omega
      have NL : N + 1 < L := by rw [← hL]; exact X1.1
      have C2 := hid (nTake_any (N + 1) 2 s p1 b1 V1 X2.out K1.le HS.out (by omega))
      have HV1 := hid hV1
      clear X1 G1 K1 C1 F0 F1 sz1 KB hV1
      go_wp2_with fail
      rw [HV1.out]
      clear HV1 hL
      refine C2.out.mono ?_
      rintro e w2 ⟨B, p2, b2, rfl, X1, G1, K1⟩
      have F3 := hid (df_grown F2.out G1)
      have L3 := hid (ca_grown L2.out G1 (by omega))
      have KX2 := hid K1
      have bB : B < 65536 := K1.lt
      obtain ⟨l1, lf1⟩ := ca_at L3.out 1 rfl
      have sl := L3.out.1
      have C3 := hid (nTake_any (N + 1) 1 s p2 b2 (w2.setCell ⟨L, 1, none⟩ (.int .i64 B)) (ca_far X1 (by omega)) K1.le HS.out (by omega))
      have F4 : Hid (DF w N ks (.slice ka ks.length kcap) (w2.setCell ⟨L, 1, none⟩ (.int .i64 B))) := df_set F3.out (by omega) KL.out
      have L4 : Hid (CellsAt (w2.setCell ⟨L, 1, none⟩ (.int .i64 B)) L [.int .i64 ((A : Int) - 100000), .int .i64 B, .string ⟨#[]⟩]) := ca_put L3.out 1 _ (by simp)
      clear X1 G1 K1 C2 F2 X2 L2 F3 L3
      go_wp2_with fail
      clear l1 lf1 sl
      refine C3.out.mono ?_
      rintro e w3 ⟨k, p3, b3, rfl, X1, G1, K1⟩
      have F5 := hid (df_grown F4.out G1)
      have L5 := hid (ca_grown L4.out G1 (by omega))
      have KX3 := hid K1
      have bk : k < 256 := K1.lt
      have X5 := hid X1
      have hp3 : p3 ≤ s.length := K1.le
      obtain ⟨x1, xf1⟩ := ca_at X1 1 rfl
      obtain ⟨x2, xf2⟩ := ca_at X1 2 rfl
      have sx := X1.1
      obtain ⟨l2, lf2⟩ := ca_at L5.out 2 rfl
      obtain ⟨l0, _⟩ := ca_at L5.out 0 rfl
      obtain ⟨l1, _⟩ := ca_at L5.out 1 rfl
      have sl := L5.out.1
      clear X1 G1 K1 C3 F4 L4
      by_cases hk : (s.length : Int) - p3 < k
      case pos =>
        have F6 : Hid (DF w N ks (.slice ka ks.length kcap) (w3.setCell ⟨N + 1, 2, none⟩ (.bool true))) := df_set F5.out (by omega) KM.out
        have X6 : Hid (Nb (w3.setCell ⟨N + 1, 2, none⟩ (.bool true)) (N + 1) s p3 true) := ca_put X5.out 2 _ (by simp)
        have HE : Hid (Wr.parse s = none) := by
          refine parse_no2 HP1.out (Wr.locs_bad HP3.out hlt ?_)
          cases b3
          · rw [loc_ok KX1.out KX2.out KX3.out, if_neg (by rw [List.length_drop]; omega)]
          · exact (loc_no KX1.out KX2.out KX3.out).1
        go_wp2_with fail
        go_meet
        exact ⟨i, ks, p3, true, hin, ⟨X6.out, hp3, F6.out.res, F6.out.own, HLN.out, HNM.out, fun q => (by cases q), fun _ => HE.out, F6.out.bel⟩, fun q => by cases q⟩
      have hkl : p3 + k ≤ s.length := by omega
      have X6 : Hid (Nb ((w3.setCell ⟨L, 2, none⟩ (.string ((⟨s.toArray⟩ : ByteArray).extract p3 (p3 + k)))).setCell ⟨N + 1, 1, none⟩ (.int .i64 ((p3 : Int) + k))) (N + 1) s (p3 + k) b3) := ca_put (ca_far X5.out (by omega)) 1 _ (by simp)
      have F6 : Hid (DF w N ks (.slice ka ks.length kcap) ((w3.setCell ⟨L, 2, none⟩ (.string ((⟨s.toArray⟩ : ByteArray).extract p3 (p3 + k)))).setCell ⟨N + 1, 1, none⟩ (.int .i64 ((p3 : Int) + k)))) := df_set (df_set F5.out (by omega) KL.out) (by omega) KM.out
      have HLK : ks.length < 65536 := by have := HP2.out; omega
      go_wp2_with (at_builtin; go_must (refine wpList_append_own _ rfl _ _ 68 rfl (N + 1 + 1) 23 j0 (.agg #[.int .i64 0, .int .i64 0, .string ⟨#[]⟩]) 3 32 Try.underlying68 hj hy0 hy1 hy2 rfl (by decide) _ _ _ rfl (World.ownsRow.alloc F6.out.own _) _ 1 1 [.int .i64 ((A : Int) - 100000), .int .i64 B, .string ((⟨s.toArray⟩ : ByteArray).extract p3 (p3 + k))] rfl rfl (three_at _ _ _ _ (by simp)) (three_any _ _ _) (by unfold maxLen; omega) (by omega) (by simp; omega) ?_))
      intro v' w6 hown' hgrow _
      rw [name_cut] at hown'
      have Z := hid (df_app (l := ⟨(A : Int) - 100000, B, (s.drop p3).take k⟩) F6.out X6.out hown' hgrow)
      obtain ⟨va', vcap', rfl⟩ := owns_shape0 hown'
      clear hown' hgrow X6 F6 X5 F5 L5 x1 xf1 x2 xf2 sx l2 lf2 l0 l1 sl
      go_wp2
      go_roundw
      case rel =>
        refine ⟨i + 1, ks ++ [⟨(A : Int) - 100000, B, (s.drop p3).take k⟩], p3 + k, b3, by omega, by go_num, ?_⟩
        obtain ⟨z1, z2, z3, z4⟩ := Z.out
        refine ⟨z3, hkl, z1, z2, by have := HLN.out; simp; omega, ?_, fun q => ?_, fun q => ?_, z4⟩
        · intro l hl
          rcases List.mem_append.1 hl with hl | hl
          · exact HNM.out l hl
          · simp at hl; subst hl; simp; omega
        · subst q
          refine ⟨HP1.out, by have := HP2.out; simp; omega, Wr.locs_next HP3.out hlt ?_⟩
          rw [loc_ok KX1.out KX2.out KX3.out, if_pos (by rw [List.length_drop]; omega), List.drop_drop]
        · subst q
          exact parse_no2 HP1.out (Wr.locs_bad HP3.out hlt (loc_no KX1.out KX2.out KX3.out).1)
      case measure => simp [intOf]; omega
  case rest =>
    clear S1 HN0
    obtain ⟨i, ks, p, bad, hin, S0, H0⟩ := hcut
    obtain ⟨ka, kcap, rfl⟩ := lc_shape S0.out.own
    obtain ⟨T, hT⟩ : ∃ T, wc.heap.size = T := ⟨_, rfl⟩
    obtain ⟨V1, hV1⟩ : ∃ V, wc.alloc (.cells #[.int .i64 0, .int .i64 0, .string ⟨#[]⟩, .slice none 0 0] 26) = V := ⟨_, rfl⟩
    have HV1 := hid hV1
    have lT : N + 1 < T := by rw [← hT]; exact S0.out.nb.1
    have G0 : Hid (DG w N T ks (.slice ka ks.length kcap) ⟨0, 0, []⟩ (.slice none 0 0) [] V1) := by
      rw [← hV1]
      refine ⟨ca_alloc S0.out.res _, ?_, World.ownsRow.alloc S0.out.own _, World.ownsRow_nil _ _ _ _, lT, fun b hb => ?_, S0.out.bel.alloc S0.out.bel.size _, HNN.out⟩
      · rw [← hT]; exact ca_new wc (tbC ⟨0, 0, []⟩ (.slice none 0 0)) 26
      · rw [← hT]; exact (S0.out.own.lt b hb).2
    have X0 : Hid (Nb V1 (N + 1) s p bad) := by rw [← hV1]; exact ca_alloc S0.out.nb _
    have C1 := hid (nTake_any (N + 1) 2 s p bad V1 X0.out S0.out.le HS.out (by omega))
    have HP : Hid (bad = false → Wr.pNum 2 s = some (n, s1) ∧ Wr.pLocs n s1 = some (ks, s.drop p)) := fun q => by
      obtain ⟨a, b, c⟩ := S0.out.ok q
      have e := H0.out q
      subst e
      exact ⟨a, Wr.locs_end c⟩
    have HQ : Hid (bad = true → Wr.parse s = none) := S0.out.no
    have HNM := hid S0.out.names
    have hkn : ks.length < 65536 := by have := S0.out.len; omega
    clear hV1 S0 H0 X0
    go_wp2_with fail
    rw [HV1.out]
    clear HV1 hT
    refine C1.out.mono ?_
    rintro e w1 ⟨m, p1, b1, rfl, X1, G1, K1⟩
    have bm : m < 65536 := K1.lt
    have D1 := hid (dg_grown G0.out G1)
    have X1' := hid X1
    have KX := hid K1
    have sx := X1.1
    obtain ⟨x2, xf2⟩ := ca_at X1 2 rfl
    clear X1 G1 K1 C1 G0
    obtain ⟨cb, hcb⟩ : ∃ c : Bool, (!b1 && decide (m < ks.length)) = c := ⟨_, rfl⟩
    have HCB := hid hcb
    clear hcb
    go_upto_region 17 with fail
    go_cut [68] from 60 to 67 (fun v wc => v = .bool cb ∧ wc = w1)
    case first =>
      cases b1
      · by_cases hm : m < ks.length
        · have e : cb = true := by rw [← HCB.out]; simp [hm]
          subst e
          have hm' : (m : Int) < ks.length := by omega
          go_wp2_with fail
          go_meet
          exact ⟨rfl, rfl⟩
        · have e : cb = false := by rw [← HCB.out]; simp [hm]
          subst e
          have hm' : ¬ (m : Int) < ks.length := by omega
          go_wp2_with fail
          go_meet
          exact ⟨rfl, rfl⟩
      · have e : cb = false := by rw [← HCB.out]; rfl
        subst e
        go_wp2_with fail
        go_meet
        exact ⟨rfl, rfl⟩
    case rest =>
    obtain ⟨rfl, rfl⟩ := hcut
    go_upto_if 68 with fail
    go_cut [] from 69 to 74 (fun wc => ∃ (f : Tb.Lc) (p : Nat) (bad : Bool), p ≤ s.length ∧ f.name.length ≤ 255 ∧ Hid (Nb wc (N + 1) s p bad) ∧ Hid (DG w N T ks (.slice ka ks.length kcap) f (.slice none 0 0) [] wc) ∧ Hid (PF s n s1 ks f p bad))
    case first =>
      cases cb
      case false =>
        have HE : Hid (Wr.parse s = none) := by
          cases b1
          · obtain ⟨e1, e2⟩ := KX.out.ok rfl
            obtain ⟨q1, q2⟩ := HP.out e1
            refine parse_no3 q1 q2 ?_
            have hm : ¬ m < ks.length := by have := HCB.out; simpa using this
            unfold Wr.pKind
            rw [e2]; simp only
            rw [List.getElem?_eq_none (by omega)]
          · rcases (KX.out.no rfl).1 with o | o
            · exact HQ.out o
            · cases bad
              · obtain ⟨q1, q2⟩ := HP.out rfl
                exact parse_no3 q1 q2 (by unfold Wr.pKind; rw [o])
              · exact HQ.out rfl
        have X2 : Hid (Nb (wc.setCell ⟨N + 1, 2, none⟩ (.bool true)) (N + 1) s p1 true) := ca_put X1'.out 2 _ (by simp)
        have D2 := hid (dg_set (o := 2) (u := .bool true) D1.out)
        have hp1 := KX.out.le
        go_wp2_with fail
        go_meet
        exact ⟨⟨0, 0, []⟩, p1, true, hp1, by simp, X2, D2, ⟨fun q => (by cases q), fun _ => HE.out⟩⟩
      case true =>
        have hb1 : b1 = false ∧ m < ks.length := by have := HCB.out; simpa using this
        obtain ⟨rfl, hm⟩ := hb1
        obtain ⟨l, hl⟩ : ∃ l, ks[m]? = some l := ⟨_, List.getElem?_eq_getElem hm⟩
        have hnl : l.name.length ≤ 255 := HNM.out l (List.mem_of_getElem? hl)
        have HF : Hid (PF s n s1 ks l p1 false) := by
          refine ⟨fun _ => ?_, fun q => (by cases q)⟩
          obtain ⟨e1, e2⟩ := KX.out.ok rfl
          obtain ⟨q1, q2⟩ := HP.out e1
          exact ⟨_, q1, q2, by unfold Wr.pKind; rw [e2]; simp only; rw [hl]⟩
        obtain ⟨kb, ko, _, e1, kl, c0, c1, c2⟩ := rdLc_at (ownLc_rd D1.out.own) hl
        simp only [Value.slice.injEq] at e1
        obtain ⟨rfl, _, rfl⟩ := e1
        have HT1 := hid D1.out.t
        obtain ⟨t0, tf0⟩ := ca_at D1.out.t 0 rfl
        obtain ⟨t1, tf1⟩ := ca_at D1.out.t 1 rfl
        obtain ⟨t2, tf2⟩ := ca_at D1.out.t 2 rfl
        have st := D1.out.t.1
        have D2 := hid (dg_first (l := l) D1.out)
        have hkb : kb < T := D1.out.hk kb rfl
        have X2 : Hid (Nb (((wc.setCell ⟨T, 0, none⟩ (.int .i64 l.shift)).setCell ⟨T, 1, none⟩ (.int .i64 l.save)).setCell ⟨T, 2, none⟩ (strV l.name)) (N + 1) s p1 false) := ca_far (ca_far (ca_far X1'.out (by omega)) (by omega)) (by omega)
        have hp1 := KX.out.le
        have hm' : (m : Int) < ks.length := by omega
        go_wp2_with fail
        go_meet
        exact ⟨l, p1, false, hp1, hnl, X2, D2, HF⟩
    case rest =>
    clear HP HQ HCB X1' D1 KX x2 xf2 sx bm
    obtain ⟨f, p, bad, hp, hfn, X0, D0, H0⟩ := hcut
    have C1 := hid (nTake_any (N + 1) 2 s p bad wc X0.out hp HS.out (by omega))
    go_wp2_with fail
    refine C1.out.mono ?_
    rintro e w1 ⟨m, p1, b1, rfl, X1, G1, K1⟩
    have bm : m < 65536 := K1.lt
    obtain ⟨s4, hs4⟩ : ∃ s4, s.drop p1 = s4 := ⟨_, rfl⟩
    have S1 : Hid (D2 w N T n m s s1 s4 ks (.slice ka ks.length kcap) f 0 [] (.slice none 0 0) p1 b1 w1) := by
      refine ⟨X1, K1.le, dg_grown D0.out G1, by simp, by simp, fun q => ?_, fun q => ?_⟩
      · obtain ⟨h1, h2⟩ := K1.ok q
        obtain ⟨s2, a, b, c⟩ := H0.out.ok h1
        rw [hs4] at h2
        refine ⟨⟨s2, _, a, b, c, h2⟩, rfl, ?_⟩
        rw [hs4]
        exact Wr.chs_start _ _ _
      · rcases (K1.no q).1 with o | o
        · exact H0.out.no o
        · cases bad
          · obtain ⟨s2, a, b, c⟩ := H0.out.ok rfl
            exact parse_no4 a b c o
          · exact H0.out.no rfl
    clear X1 G1 K1 C1 X0 D0 H0 hs4
    go_upto_block 2 with fail
    go_cut [11, 12, 13] from 76 to 108 (fun s11 s12 s13 wc => ∃ (i : Nat) (chs : List Tb.Cg) (cv : Value) (p : Nat) (bad : Bool), i ≤ m ∧ Hid (D2 w N T n m s s1 s4 ks (.slice ka ks.length kcap) f i chs cv p bad wc) ∧ Hid (bad = false → i = m))
    case first =>
      go_wp2_with fail
      go_loopw [11] (fun iv wr => ∃ (i : Nat) (chs : List Tb.Cg) (cv : Value) (p : Nat) (bad : Bool), i ≤ m ∧ iv = .int .i64 i ∧ Hid (D2 w N T n m s s1 s4 ks (.slice ka ks.length kcap) f i chs cv p bad wr)) (fun iv _ => m - (intOf iv).toNat)
      case atStart => exact ⟨0, [], _, p1, b1, by omega, rfl, S1⟩
      case round =>
        clear S1
        obtain ⟨i, chs, cv, p, bad, him, rfl, S0⟩ := hrel
        obtain ⟨va, vcap, rfl⟩ := owns_shape0 S0.out.dg.ch
        obtain ⟨x2, _⟩ := ca_at S0.out.nb 2 rfl
        have sx := S0.out.nb.1
        by_cases hlt : i < m
        case neg =>
          obtain rfl : i = m := by omega
          have iz : ¬ (i : Int) < i := by omega
          go_wp2_with fail
          go_meet
          exact ⟨i, chs, _, p, bad, Nat.le_refl _, S0, fun _ => rfl⟩
        have iz : (i : Int) < m := by omega
        cases bad
        case true =>
          go_wp2_with fail
          go_meet
          exact ⟨i, chs, _, p, true, him, S0, fun q => by cases q⟩
        obtain ⟨P1, P2, P3⟩ := S0.out.ok rfl
        have HP1 := hid P1
        have HP2 := hid P2
        have HP3 := hid P3
        clear P1 P2 P3
        have C1 := hid (nTake_any (N + 1) 5 s p false wr S0.out.nb S0.out.le HS.out (by omega))
        have D0 := hid S0.out.dg
        have HCN := hid S0.out.names
        have HLN := hid S0.out.len
        clear S0
        go_wp2_with fail
        clear x2 sx
        refine C1.out.mono ?_
        rintro e w1 ⟨A, p1, b1, rfl, X1, G1, K1⟩
        have bA : A < 1099511627776 := K1.lt
        have D1 := hid (dg_grown D0.out G1)
        have KX1 := hid K1
        have C2 := hid (nTake_any (N + 1) 2 s p1 b1 w1 X1 K1.le HS.out (by omega))
        clear X1 G1 K1 C1 D0
        go_wp2_with fail
        refine C2.out.mono ?_
        rintro e w2 ⟨k, p2, b2, rfl, X1, G1, K1⟩
        have bk : k < 65536 := K1.lt
        have D3 := hid (dg_grown D1.out G1)
        have KX2 := hid K1
        have X2 := hid X1
        have hp2 : p2 ≤ s.length := K1.le
        obtain ⟨x2, xf2⟩ := ca_at X1 2 rfl
        have sx := X1.1
        clear X1 G1 K1 C2 D1
        by_cases hbad : b2 = true ∨ ¬ k < ks.length
        · have HE : Hid (Wr.parse s = none) := by
            obtain ⟨s2, s3, a, b, c, d⟩ := HP1.out
            refine parse_no5 a b c d (Wr.chs_bad HP3.out hlt (ch_no KX1.out KX2.out ?_))
            rcases hbad with o | o
            · exact .inl o
            · exact .inr (List.getElem?_eq_none (by omega))
          have X3 : Hid (Nb (w2.setCell ⟨N + 1, 2, none⟩ (.bool true)) (N + 1) s p2 true) := ca_put X2.out 2 _ (by simp)
          have D4 := hid (dg_set (o := 2) (u := .bool true) D3.out)
          cases b2
          · have hk : ¬ (k : Int) < ks.length := by rcases hbad with o | o; · cases o
                                                    · omega
            have hk' : (ks.length : Int) ≤ k := by omega
            clear hbad
            go_wp2_with fail
            go_meet
            exact ⟨i, chs, _, p2, true, him, ⟨X3.out, hp2, D4.out, HLN.out, HCN.out, fun q => (by cases q), fun _ => HE.out⟩, fun q => by cases q⟩
          · clear hbad
            go_wp2_with fail
            go_meet
            exact ⟨i, chs, _, p2, true, him, ⟨X3.out, hp2, D4.out, HLN.out, HCN.out, fun q => (by cases q), fun _ => HE.out⟩, fun q => by cases q⟩
        have hb2 : b2 = false := by cases b2 <;> simp at hbad ⊢
        have hk : k < ks.length := by omega
        subst hb2
        clear hbad
        obtain ⟨l, hl⟩ : ∃ l, ks[k]? = some l := ⟨_, List.getElem?_eq_getElem hk⟩
        have hnl : l.name.length ≤ 255 := HNM.out l (List.mem_of_getElem? hl)
        have HC := hid (ch_ok KX1.out KX2.out hl)
        obtain ⟨kb, ko, _, e1, kl, c0, c1, c2⟩ := rdLc_at (ownLc_rd D3.out.own) hl
        simp only [Value.slice.injEq] at e1
        obtain ⟨rfl, _, rfl⟩ := e1
        obtain ⟨t3, tf3⟩ := ca_at D3.out.t 3 rfl
        have st := D3.out.t.1
        have hkb : kb < T := D3.out.hk kb rfl
        have HLC : chs.length < 65536 := by have := HP2.out; omega
        have hk1 : (k : Int) < ks.length := by omega
        have hk2 : ¬ (ks.length : Int) ≤ k := by omega
        go_wp2_with fail
        go_region_law (first | (refine step_append_own rfl (.tmp 99) (.tmp 106) 24 rfl (T + 1) 32 i0 (.agg #[.int .i64 0, .int .i64 0, .int .i64 0, .string ⟨#[]⟩]) 4 40 Try.underlying24 hi hz0 hz1 hz2 rfl (by decide) _ _ _ (by simp [Act.eval, Act.put]) (World.ownsRow.alloc D3.out.ch _) _ 1 1 (cgCells ⟨(A : Int) - 274877906944, l⟩) (by simp [Act.eval, Act.put]) rfl (four_cells _ _ _ _ _) (cg_one ⟨(A : Int) - 274877906944, l⟩) (by unfold maxLen; omega) (by omega) (by have := D3.out.t.1; simp; omega) ?_; intro v' w6 hown' hgrow; obtain ⟨va', vcap', e', S6, c6, f6, s6⟩ := dg_row D3.out X2.out hown' ⟨hgrow.os, hgrow.tape, hgrow.output, hgrow.size, hgrow.block⟩; subst e'; clear hown' hgrow))
        all_goals (
          go_wp2
          go_roundw
          case rel =>
            refine ⟨i + 1, chs ++ [⟨(A : Int) - 274877906944, l⟩], .slice va' (chs.length + 1) vcap', p2, false, by omega, by go_num, ?_⟩
            obtain ⟨z1, z2⟩ := S6.out
            refine ⟨z2, hp2, z1, by have := HLN.out; simp; omega, ?_, fun _ => ⟨HP1.out, by have := HP2.out; simp; omega, Wr.chs_next HP3.out hlt HC.out⟩, fun q => (by cases q)⟩
            intro c hc
            rcases List.mem_append.1 hc with hc | hc
            · exact HCN.out c hc
            · simp at hc; subst hc; exact hnl
          case measure => simp [intOf]; omega)
    case rest =>
    clear S1
    obtain ⟨i, chs, cv, p, bad, him, S0, H0⟩ := hcut
    obtain ⟨va, vcap, rfl⟩ := owns_shape0 S0.out.dg.ch
    obtain ⟨x2, _⟩ := ca_at S0.out.nb 2 rfl
    have sx := S0.out.nb.1
    have D0 := hid S0.out.dg
    have R0 := hid D0.out.res
    have T0 : Hid (CellsAt wc T (tbC f (.slice va chs.length vcap))) := D0.out.t
    have O0 := hid D0.out.ch
    have B0 := hid D0.out.bel
    have lT := D0.out.lt
    have hm := S0.out.len
    have HSH : Hid (Short ⟨f, chs⟩) := ⟨by show chs.length ≤ 65535; omega, hfn, S0.out.names⟩
    have HPA : Hid (bad = false → Wr.parse s = some ⟨f, chs⟩) := fun q => by
      obtain ⟨⟨s2, s3, a, b, c, d⟩, _, e⟩ := S0.out.ok q
      have e2 := H0.out q
      subst e2
      exact parse_yes a b c d (Wr.chs_end e)
    have HPN : Hid (bad = true → Wr.parse s = none) := S0.out.no
    clear S0 D0 H0
    obtain ⟨-, ⟨r0, r1, r2, r3⟩, ⟨f0, f1, f2, f3⟩, sr⟩ := res4' R0.out
    obtain ⟨-, ⟨t0, t1, t2, t3⟩, -, st⟩ := res4' T0.out
    cases bad
    case true =>
      have HNO : Hid (∀ t, ¬ Wr.Told s t) := fun t ht => by have := Wr.told_parse ht; rw [HPN.out rfl] at this; cases this
      go_wp2
      refine bodyPost_ret (v := .tuple #[tbV ⟨0, 0, []⟩ (.slice none 0 0), .int .i64 1]) (by simp [results, Try.results14, go_sem, *]) rfl ⟨?_, .inr ⟨HNO.out, rfl⟩⟩
      repeat (refine below_set ?_ (by rw [HNN.out]; omega) _)
      exact B0.out
    case false =>
    have hpz := HPA.out rfl
    obtain ⟨E, hE⟩ : ∃ E, Tb.tableE ⟨f, chs⟩ = E := ⟨_, rfl⟩
    have C1 := hid (checkTable_any ⟨f, chs⟩ _ wc (ownCh_rd O0.out) (by have := HSH.out.ch; unfold maxLen; omega) (by have := HSH.out.first; unfold maxLen; omega) (fun c hc => by have := HSH.out.names c hc; unfold maxLen; omega))
    rw [hE] at C1
    have HE := hid hE
    have HPZ := hid hpz
    clear hE hpz HPA HPN
    go_wp2_with fail
    refine C1.out.mono ?_
    rintro e w3 ⟨rfl, hb3⟩
    have R3 := hid (ca_below R0.out hb3)
    have T3 := hid (ca_below T0.out hb3)
    have O3 := hid (owns_below O0.out hb3)
    have B3 : Hid (Below w.heap.size w w3) := B0.out.trans (hb3.mono B0.out.size)
    clear R0 T0 O0 B0 C1 hb3 t0 t1 t2 t3 st r0 r1 r2 r3 f0 f1 f2 f3 sr x2 sx
    obtain ⟨-, ⟨r0, r1, r2, r3⟩, ⟨f0, f1, f2, f3⟩, sr⟩ := res4' R3.out
    obtain ⟨-, ⟨t0, t1, t2, t3⟩, -, st⟩ := res4' T3.out
    by_cases q1 : E = 0
    case neg =>
      have HN2 : Hid (∀ u, ¬ Wr.Told s u) := fun u hu => by
        have := Wr.told_parse hu
        rw [HPZ.out] at this
        simp at this
        subst this
        exact q1 (HE.out.symm.trans hu.1)
      have q1' : (E != 0) = true := by simp [q1]
      go_wp2
      refine bodyPost_ret (v := .tuple #[tbV ⟨0, 0, []⟩ (.slice none 0 0), .int .i64 1]) (by simp [results, Try.results14, go_sem, *]) rfl ⟨?_, .inr ⟨HN2.out, rfl⟩⟩
      repeat (refine below_set ?_ (by rw [HNN.out]; omega) _)
      exact B3.out
    subst q1
    obtain ⟨EO, hEO⟩ : ∃ EO, Wr.encode ⟨f, chs⟩ = EO := ⟨_, rfl⟩
    have C2 := hid (encodeOf_any ⟨f, chs⟩ _ w3 (ownCh_rd O3.out) HE.out)
    rw [hEO] at C2
    have HEO := hid hEO
    clear hEO
    go_wp2_with fail
    refine C2.out.mono ?_
    rintro e w4 ⟨rfl, hb4⟩
    have R4 := hid (ca_below R3.out hb4)
    have T4 := hid (ca_below T3.out hb4)
    have O4 := hid (owns_below O3.out hb4)
    have B4 : Hid (Below w.heap.size w w4) := B3.out.trans (hb4.mono B3.out.size)
    clear R3 T3 O3 B3 C2 hb4 t0 t1 t2 t3 st r0 r1 r2 r3 f0 f1 f2 f3 sr
    obtain ⟨-, ⟨r0, r1, r2, r3⟩, ⟨f0, f1, f2, f3⟩, sr⟩ := res4' R4.out
    obtain ⟨-, ⟨t0, t1, t2, t3⟩, -, st⟩ := res4' T4.out
    by_cases q2 : EO = s
    case neg =>
      have HN2 : Hid (∀ u, ¬ Wr.Told s u) := fun u hu => by
        have := Wr.told_parse hu
        rw [HPZ.out] at this
        simp at this
        subst this
        exact q2 (HEO.out.symm.trans hu.2)
      have q2' : (EO == s) = false := by simp [q2]
      have q2'' : (EO != s) = true := by simp [q2]
      have HQ := hid q2
      clear q2
      go_wp2
      refine bodyPost_ret (v := .tuple #[tbV ⟨0, 0, []⟩ (.slice none 0 0), .int .i64 1]) (by simp [results, Try.results14, go_sem, *]) rfl ⟨?_, .inr ⟨HN2.out, rfl⟩⟩
      repeat (refine below_set ?_ (by rw [HNN.out]; omega) _)
      exact B4.out
    have HT : Hid (Wr.Told s ⟨f, chs⟩) := ⟨HE.out, HEO.out.trans q2⟩
    subst q2
    go_wp2
    refine bodyPost_ret (v := .tuple #[tbV f (.slice va chs.length vcap), .int .i64 0]) (by simp [results, Try.results14, go_sem, *]) rfl ⟨?_, .inl ⟨⟨f, chs⟩, .slice va chs.length vcap, HT.out, rfl, ?_, HSH.out⟩⟩
    · repeat (refine below_set ?_ (by rw [HNN.out]; omega) _)
      exact B4.out
    · have ne : ∀ o, Value.ownBlock (.slice va chs.length vcap) ≠ some (⟨N, o, none⟩ : Addr).block := by
        intro o q
        have := (O4.out.lt _ q).1
        simp only at this
        omega
      repeat (refine ownsRow_setCell_other ?_ (ne _) _)
      exact owns_base O4.out (by rw [HNN.out]; omega)
end Go.Proofs.Ytombhnjmelidcaa
