/- The contract of the reader's take. -/
import Derived.Test.YtgnopbmcnadmdabDoorLnB
import Derived.Deep.RegionLaw
namespace Go.Proofs.YtgnopbmcnadmdabDoor
open Go.RowKit
set_option linter.unusedVariables false
set_option linter.unusedSimpArgs false

theorem step_append_own {P : Program} {ops : Array Oper} {o : Oper} {a : Act} {w : World} {K : Act → World → Prop} {Q : Exit → Act → World → Prop} {E : Prop}
    (hg : o.guard = none) (s x : Operand) (t : TypeId) (hop : o.op = Op.call { callee := Callee.builtin Builtin.append, args := #[s, x], argTypes := #[t, t] })
    (base : Nat) (e : TypeId) (i : TypeInfo) (z : Value) (size bytes : Nat) (h1 : P.underlying t = some (.slice e)) (h2 : P.info? e = some i) (h3 : i.zero = some z) (h4 : i.size = size) (h5 : i.bytes = bytes) (h6 : z.cells.size = size) (h7 : 0 < size)
    (v : Value) (n : Nat) (xs : List Value) (hs : a.eval s = v) (hown : w.ownsRow base e size v n xs)
    (ad : Addr) (m c : Nat) (news : List Value) (hx : a.eval x = .slice (some ad) m c) (hn : news.length = m * size) (hc : ∀ j u, news[j]? = some u → w.cell? (ad.add j) = some u) (h1c : ∀ u ∈ news, u.oneCell' = true)
    (b1 : n + m ≤ maxLen) (b2 : (n + m) * bytes ≤ 140737488355328) (hbase : base ≤ w.heap.size)
    (hK : ∀ v' w', w'.ownsRow base e size v' (n + m) (xs ++ news) → w.grownBy w' v.ownBlock → K (a.put o.dst v') w') :
    if Region.wanted o (yielded ops a.tmps) = true then Oper.wp P o a w K Q else E := by
  have hw : Region.wanted o (yielded ops a.tmps) = true := by simp [Region.wanted, hg]
  rw [if_pos hw]
  obtain ⟨v', w', hrun, r1, r2, _⟩ := run_append_own (P := P) w base t o.type e i z size bytes h1 h2 h3 h4 h5 h6 h7 v n xs hown ad m c news hn hc h1c b1 b2 hbase
  unfold Oper.wp
  simp [execOp, hop, resolve, invoke, builtin, hs, hx, hrun, Result.andThen]
  exact hK v' w' r1 r2

theorem Tryd.infoByte : (Tryd.prog.info? 5).map (fun i => (i.zero, i.size, i.bytes)) = some (some (.int .u8 0), 1, 1) := by kernel_rfl
abbrev bytV (l : List UInt8) : List Value := l.map fun c => .int .u8 (c.toNat : Int)

theorem conv_own {w : World} {B : Nat} {va : Option Addr} {vcap : Nat} {acc : Tx.Bs} (h : w.ownsRow B 5 1 (.slice va acc.length vcap) acc.length (bytV acc)) :
    ∀ q, (convert 51 9 (.slice va acc.length vcap)).run Tryd.prog (w.drewN q) = .ok (strV acc) (w.drewN q) := by
  intro q
  cases va with
  | none =>
    have h0 : acc = [] := by
      rcases h.2 with ⟨_, h0⟩ | ⟨g, c, cur, h1, _⟩
      · exact List.length_eq_zero_iff.1 h0
      · simp at h1
    subst h0
    exact run_convert_bytes_nil _ _ _ Tryd.underlying51 Tryd.underlying5 _ _ _ Tryd.underlying9
  | some a =>
    obtain ⟨h1, h2, h3, h4, h5⟩ := owns_cell (g := 0) h
    obtain ⟨ab, ao, ap⟩ := a
    simp at h1 h2
    subst h1 h2
    exact run_convert_bytes_back _ _ _ _ _ _ acc Tryd.underlying51 Tryd.underlying5 Tryd.underlying9 (fun j hj => by
      have := h5 j (.int .u8 (acc[j].toNat : Int)) (by simp [List.getElem?_eq_getElem hj])
      cases j <;> simpa [Addr.add] using this)

theorem owns_set {w : World} {B : Nat} {e : TypeId} {z : Nat} {v : Value} {n : Nat} {xs : List Value} {b o : Nat} {u : Value} (h : w.ownsRow B e z v n xs) (hb : some b ≠ v.ownBlock) : (w.setCell ⟨b, o, none⟩ u).ownsRow B e z v n xs :=
  h.kept (row := some b) (grown_set (grown_refl w (some b)) o u) (.inr (fun q => hb q.symm))
theorem conv_own0 {w : World} {B : Nat} {va : Option Addr} {vcap : Nat} {acc : Tx.Bs} (h : w.ownsRow B 5 1 (.slice va acc.length vcap) acc.length (bytV acc)) : (convert 51 9 (.slice va acc.length vcap)).run Tryd.prog w = .ok (strV acc) w := conv_own h 0
theorem left_over {p : Prop} (h : p) (P : Program) (a : Act) (w : World) : wpAny P .any #[] (fun _ _ _ => True) 0 #[] a w → p := fun _ => h
theorem rdr_grown {w w' : World} {r : Option Nat} {b : Nat} {n : Int} {s : ByteArray} {k : Nat} (h : Rdr w b n s k) (hg : w.grownBy w' r) (hr : some b ≠ r) : Rdr w' b n s k := by
  have e := hg.block b h.lt hr
  exact ⟨Nat.lt_of_lt_of_le h.lt hg.size, (World.cell?_of_block (a := ⟨b, 0, none⟩) e).trans h.c0, (World.cell?_of_block (a := ⟨b, 1, none⟩) e).trans h.c1, (World.cell?_of_block (a := ⟨b, 2, none⟩) e).trans h.c2, (World.frozen?_of_block (a := ⟨b, 2, none⟩) e).trans h.z2⟩
theorem rdr_alloc {w : World} {b : Nat} {n : Int} {s : ByteArray} {k : Nat} (h : Rdr w b n s k) (o : Obj) : Rdr (w.alloc o) b n s k := rdr_grown h (World.grownBy_alloc w o none) (by simp)
theorem grown_alloc {a b : World} {r : Option Nat} (h : a.grownBy b r) (o : Obj) : a.grownBy (b.alloc o) r := grown_trans h (World.grownBy_alloc b o r)
theorem grown_own {a b c : World} {r : Nat} {v : Value} {e : TypeId} {z n : Nat} {xs : List Value} (h : a.grownBy b (some r)) (hown : b.ownsRow a.heap.size e z v n xs) (k : b.grownBy c v.ownBlock) : a.grownBy c (some r) :=
  ⟨k.os.trans h.os, k.tape.trans h.tape, k.output.trans h.output, Nat.le_trans h.size k.size, fun i hi hr => (k.block i (Nat.lt_of_lt_of_le hi h.size) (fun q => by have := (hown.lt i q.symm).1; omega)).trans (h.block i hi hr)⟩
theorem own_ne {a b : World} {r : Nat} {v : Value} {e : TypeId} {z n : Nat} {xs : List Value} (hr : r < a.heap.size) (hown : b.ownsRow a.heap.size e z v n xs) : some r ≠ v.ownBlock := fun q => by have := (hown.lt r q.symm).1; omega
theorem goesU_iff {c : UInt8} (h : goesU c = true) : Tx.gap c = false ∧ c ≠ 35 ∧ c ≠ 34 := by
  simp [goesU] at h
  refine ⟨h.1.1, ?_, ?_⟩
  · rintro rfl; exact h.1.2 rfl
  · rintro rfl; exact h.2 rfl
theorem goesQ_iff {c : UInt8} (h : goesQ c = true) : c ≠ 34 := by
  simp [goesQ] at h
  rintro rfl; exact h rfl

set_option maxRecDepth 100000 in
set_option maxHeartbeats 4000000 in
theorem take_u (b k : Nat) (n : Int) (s : ByteArray) (w : World) (h : Rdr w b n s k) (hk : k ≤ s.size) (hs : s.size ≤ 8000) :
    Calls Tryd.prog 42 #[.pointer (some ⟨b, 0, none⟩), .func (.func 43) #[] #[]] w fun e w' => ∃ (k' : Nat) (acc : Tx.Bs), k ≤ k' ∧ k' ≤ s.size ∧ acc.length ≤ k' ∧ Rdr w' b n s k' ∧ w.grownBy w' (some b) ∧
      ((e = .returned (strV acc) ∧ Tx.tu (s.data.toList.drop k) = (Tx.tu (s.data.toList.drop k')).map (fun p => (acc ++ p.1, p.2)) ∧ (∀ h : k' < s.size, goesU s[k'] = false) ∧ (k = k' → acc = [])) ∨
       (e = .panicked [{ v := faultV n 1, recovered := false }] ∧ Tx.tu (s.data.toList.drop k) = none)) := by
  obtain ⟨i0, hi, hz0, hz1, hz2⟩ := info_parts Tryd.infoByte
  go_enter Tryd.func42, Tryd.ntmps42
  go_wp2_with fail
  go_loopg [5] (s.size - k) (fun g v wr => ∃ (j : Nat) (acc : Tx.Bs), k ≤ j ∧ j ≤ s.size ∧ g = s.size - j ∧ acc.length ≤ j ∧ wr.ownsRow w.heap.size 5 1 v acc.length (bytV acc) ∧ Hid (Tx.tu (s.data.toList.drop k) = (Tx.tu (s.data.toList.drop j)).map (fun p => (acc ++ p.1, p.2)) ∧ (k = j → acc = [])) ∧ Rdr wr b n s j ∧ w.grownBy wr (some b))
  case atStart => exact ⟨k, [], by omega, hk, rfl, by simp, World.ownsRow_nil _ _ _ _, ⟨by cases Tx.tu (s.data.toList.drop k) <;> rfl, fun _ => rfl⟩, h, grown_refl _ _⟩
  case round =>
    obtain ⟨j, acc, j1, j2, hg, ja, hown, TU, hR, hG⟩ := hrel
    have Hg := hid hg
    have HR := hid hR
    obtain ⟨r0, r1, r2, r3, r4⟩ := hR
    obtain ⟨va, vcap, rfl⟩ := owns_shape0 hown
    have hbl := h.lt
    clear hg h
    by_cases hj : j < s.size
    · obtain ⟨c, hc⟩ : ∃ c, s[j] = c := ⟨_, rfl⟩
      have DC : Hid (s.data.toList.drop j = c :: s.data.toList.drop (j + 1)) := by show _ = _; rw [drop_cons s j hj, hc]
      cases hgo : goesU c
      · have HG := hid hgo
        clear hgo
        go_wp2_with fail
        refine wp_region_quiet_lit (by kernel_rfl) (by kernel_rfl) ?_
        repeat (go_big_quiet_step ((go_at_call 43; exact Calls.quiet_of_same (field1_is _ _ HG.out))))
        refine wpQuiet_nil ?_
        intro wq hw'
        have HRq : Hid (Rdr wq b n s j) := by obtain ⟨nq, rfl⟩ := hw'; exact rdr_drewN HR.out _
        have hGq : w.grownBy wq (some b) := by obtain ⟨nq, rfl⟩ := hw'; exact grown_drewN hG _
        have hownq : wq.ownsRow w.heap.size 5 1 (.slice va acc.length vcap) acc.length (bytV acc) := by obtain ⟨nq, rfl⟩ := hw'; exact hown
        clear hw' r0 r1 r2 r3 r4 HR hG hown
        have HR := HRq
        have hG := hGq
        have hown := hownq
        clear HRq hGq hownq
        obtain ⟨r0, r1, r2, r3, r4⟩ := HR.out
        have hcv := conv_own0 hown
        go_wp2
        go_ret
        exact ⟨j, acc, j1, j2, ja, HR.out, hG, .inl ⟨rfl, TU.out.1, fun hh => by rw [hc]; exact HG.out, TU.out.2⟩⟩
      · have HG := hid hgo
        have GG := hid hgo
        clear hgo
        cases htx : Tx.txt c
        · have HT := hid htx
          clear htx
          have NN : Hid (Tx.tu (s.data.toList.drop k) = none) := by show _ = _; rw [TU.out.1, DC.out, Tx.tu_bad _ _ (goesU_iff GG.out).1 (goesU_iff GG.out).2.1 (.inl HT.out)]; rfl
          go_wp2_with fail
          refine wp_region_quiet_lit (by kernel_rfl) (by kernel_rfl) ?_
          repeat (go_big_quiet_step ((go_at_call 43; exact Calls.quiet_of_same (field1_is _ _ HG.out))))
          refine wpQuiet_nil ?_
          intro wq hw'
          have HRq : Hid (Rdr wq b n s j) := by obtain ⟨nq, rfl⟩ := hw'; exact rdr_drewN HR.out _
          have hGq : w.grownBy wq (some b) := by obtain ⟨nq, rfl⟩ := hw'; exact grown_drewN hG _
          have hownq : wq.ownsRow w.heap.size 5 1 (.slice va acc.length vcap) acc.length (bytV acc) := by obtain ⟨nq, rfl⟩ := hw'; exact hown
          clear hw' r0 r1 r2 r3 r4 HR hG hown
          have HR := HRq
          have hG := hGq
          have hown := hownq
          clear HRq hGq hownq
          obtain ⟨r0, r1, r2, r3, r4⟩ := HR.out
          go_wp2_with fail
          go_region_with (first | (go_at_call 45; refine (isText_is _ _ HT.out).mono ?_; rintro e w1 ⟨rfl, rfl⟩) | (go_at_call 22; refine (require_no _ _ _).mono ?_; rintro e w1 ⟨rfl, rfl⟩; refine left_over ⟨rfl, j, acc, j1, j2, ja, rdr_drewN HR.out 1, grown_drewN hG 1, .inr ⟨rfl, NN.out⟩⟩ Tryd.prog ⟨#[], []⟩ w ?_))
          all_goals trivial
        · have HT := hid htx
          clear htx
          have GO : Hid (Tx.tu (s.data.toList.drop k) = (Tx.tu (s.data.toList.drop (j + 1))).map (fun p => ((acc ++ [c]) ++ p.1, p.2))) := by show _ = _; rw [TU.out.1, DC.out, Tx.tu_go _ _ (goesU_iff GG.out).1 (goesU_iff GG.out).2.1 HT.out (goesU_iff GG.out).2.2]; cases Tx.tu (s.data.toList.drop (j + 1)) <;> simp
          go_wp2_with fail
          refine wp_region_quiet_lit (by kernel_rfl) (by kernel_rfl) ?_
          repeat (go_big_quiet_step ((go_at_call 43; exact Calls.quiet_of_same (field1_is _ _ HG.out))))
          refine wpQuiet_nil ?_
          intro wq hw'
          have HRq : Hid (Rdr wq b n s j) := by obtain ⟨nq, rfl⟩ := hw'; exact rdr_drewN HR.out _
          have hGq : w.grownBy wq (some b) := by obtain ⟨nq, rfl⟩ := hw'; exact grown_drewN hG _
          have hownq : wq.ownsRow w.heap.size 5 1 (.slice va acc.length vcap) acc.length (bytV acc) := by obtain ⟨nq, rfl⟩ := hw'; exact hown
          clear hw' r0 r1 r2 r3 r4 HR hG hown
          have HR := HRq
          have hG := hGq
          have hown := hownq
          clear HRq hGq hownq
          obtain ⟨r0, r1, r2, r3, r4⟩ := HR.out
          go_wp2_with fail
          refine wp_region_quiet_lit (by kernel_rfl) (by kernel_rfl) ?_
          repeat (go_big_quiet_step ((first | (go_at_call 45; exact Calls.quiet_of_same (isText_is _ _ HT.out)) | (go_at_call 22; exact Calls.quiet_of_same (require_yes _ _ _)))))
          refine wpQuiet_nil ?_
          intro wq hw'
          have HRq : Hid (Rdr wq b n s j) := by obtain ⟨nq, rfl⟩ := hw'; exact rdr_drewN HR.out _
          have hGq : w.grownBy wq (some b) := by obtain ⟨nq, rfl⟩ := hw'; exact grown_drewN hG _
          have hownq : wq.ownsRow w.heap.size 5 1 (.slice va acc.length vcap) acc.length (bytV acc) := by obtain ⟨nq, rfl⟩ := hw'; exact hown
          clear hw' r0 r1 r2 r3 r4 HR hG hown
          have HR := HRq
          have hG := hGq
          have hown := hownq
          clear HRq hGq hownq
          obtain ⟨r0, r1, r2, r3, r4⟩ := HR.out
          go_wp2_with fail
          go_region_law (refine step_append_own rfl (.tmp 44) (.tmp 54) 51 rfl w.heap.size 5 i0 (.int .u8 0) 1 1 Tryd.underlying51 hi hz0 hz1 hz2 rfl (by decide) _ _ _ (by simp [Act.eval, Act.put]) (hown.alloc _) _ 1 1 [.int .u8 (c.toNat : Int)] (by simp [Act.eval, Act.put]) rfl (one_cell _ _) (by simp [Value.oneCell']) (by unfold maxLen; omega) (by omega) (by simp; have := hG.size; omega) ?_; intro v' w3 hown' hgrow)
          all_goals
            have hgrow2 : (wq.alloc (.cells #[.int .u8 (c.toNat : Int)] 5)).grownBy w3 (Value.ownBlock (.slice va acc.length vcap)) := ⟨hgrow.os, hgrow.tape, hgrow.output, hgrow.size, hgrow.block⟩
            have HR3 : Hid (Rdr w3 b n s j) := rdr_grown (rdr_alloc HR.out _) hgrow2 (own_ne hbl hown)
            have hG3 : w.grownBy w3 (some b) := grown_own (grown_alloc hG _) (hown.alloc _) hgrow2
            have hown3 : w3.ownsRow w.heap.size 5 1 v' (acc ++ [c]).length (bytV (acc ++ [c])) := by simpa using hown'
            clear hgrow hgrow2 hown' r0 r1 r2 r3 r4 HR hG hown
            obtain ⟨r0, r1, r2, r3, r4⟩ := HR3.out
            go_wp2
            go_roundg (s.size - (j + 1))
            case measure => have := Hg.out; omega
            case rel => exact ⟨j + 1, acc ++ [c], by omega, by omega, rfl, by simp; omega, owns_set hown3 (own_ne hbl hown3), ⟨GO.out, fun q => by omega⟩, rdr_set HR3.out, grown_set hG3 _ _⟩
    · 
      go_wp2_with fail
      refine wp_region_quiet_lit (by kernel_rfl) (by kernel_rfl) ?_
      repeat (go_big_quiet_step ((fail)))
      refine wpQuiet_nil ?_
      intro wq hw'
      have HRq : Hid (Rdr wq b n s j) := by obtain ⟨nq, rfl⟩ := hw'; exact rdr_drewN HR.out _
      have hGq : w.grownBy wq (some b) := by obtain ⟨nq, rfl⟩ := hw'; exact grown_drewN hG _
      have hownq : wq.ownsRow w.heap.size 5 1 (.slice va acc.length vcap) acc.length (bytV acc) := by obtain ⟨nq, rfl⟩ := hw'; exact hown
      clear hw' r0 r1 r2 r3 r4 HR hG hown
      have HR := HRq
      have hG := hGq
      have hown := hownq
      clear HRq hGq hownq
      obtain ⟨r0, r1, r2, r3, r4⟩ := HR.out
      have hcv := conv_own0 hown
      go_wp2
      go_ret
      exact ⟨j, acc, j1, j2, ja, HR.out, hG, .inl ⟨rfl, TU.out.1, fun hh => absurd hh hj, TU.out.2⟩⟩

end Go.Proofs.YtgnopbmcnadmdabDoor
