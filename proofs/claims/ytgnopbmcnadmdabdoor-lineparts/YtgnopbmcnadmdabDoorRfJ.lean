/- The contract of the document's JoinOf. -/
import Derived.Test.YtgnopbmcnadmdabDoorLnM
namespace Go.Proofs.YtgnopbmcnadmdabDoor
open Go.RowKit
set_option linter.unusedVariables false
set_option linter.unusedSimpArgs false

theorem strV_add (a b : Tx.Bs) : Value.string ((⟨a.toArray⟩ : ByteArray) ++ ⟨b.toArray⟩) = strV (a ++ b) := by
  unfold strV; congr 1

set_option maxRecDepth 100000 in
set_option maxHeartbeats 400000 in
theorem joinOf_many (v : Value) (ls : List Tx.Ln) (w : World) (hr : RdLines w v ls) (h : 200 < ls.length) :
    Calls Tryd.prog 12 #[v] w fun e w' => e = .returned (.tuple #[strV (Tx.join ls).1, .int .i64 (Tx.join ls).2.2]) ∧ w' = w := by
  obtain ⟨a, cap, rfl, _⟩ := hr
  have h3 : Hid (Tx.join ls = ([], 0, 2)) := by
    show _ = _
    rw [Tx.join, if_pos h]
  obtain ⟨L, hL⟩ : ∃ L, ls.length = L := ⟨_, rfl⟩
  rw [hL] at h ⊢
  have h2 : (200 : Int) < (L : Int) := by omega
  clear hL
  go_enter Tryd.func12, Tryd.ntmps12
  go_wp2
  go_ret2
  exact ⟨by rw [h3.out]; rfl, rfl⟩

def OfI (ls : List Tx.Ln) (i : Nat) (acc : Tx.Bs) : Prop := acc.length ≤ 400 * i ∧ Tx.join ls = Tx.jgo acc (1 + i) (ls.drop i)
def OfR (inn : Bool) (fs : List Tx.Bs) (k : Nat) (t : Tx.Bs) : Prop := t.length ≤ 1 + 27 * k ∧ Tx.jline inn fs = Tx.jrow t (decide (k = 0)) (fs.drop k)
def Fin (ls : List Tx.Ln) (x : Tx.Bs) (e : Int) : Prop := (Tx.join ls).1 = x ∧ (Tx.join ls).2.2 = e
section
variable {ls : List Tx.Ln} {i k : Nat} {acc t f : Tx.Bs} {l : Tx.Ln} {inn : Bool} {fs : List Tx.Bs} {e : Int} {x : Tx.Bs}
theorem ofI_err (h : OfI ls i acc) (hd : DropL ls i l) (hj : Tx.jline l.inner l.fields = ([], e)) (he : e ≠ 0) : Fin ls [] e := by
  unfold Fin
  rw [h.2, hd, Tx.jgo, hj, if_pos he]; exact ⟨rfl, rfl⟩
theorem ofI_next (h : OfI ls i acc) (hd : DropL ls i l) (hj : Tx.jline l.inner l.fields = (x, 0)) : OfI ls (i + 1) (acc ++ x) := by
  have hl := Tx.jline_len (show (Tx.jline l.inner l.fields).2 = 0 by rw [hj])
  rw [hj] at hl
  refine ⟨?_, ?_⟩
  · have := h.1; simp; simp at hl; omega
  · rw [h.2, hd, Tx.jgo, hj, if_neg (by simp), show 1 + (i : Int) + 1 = 1 + ((i + 1 : Nat) : Int) by omega]
theorem ofI_many (h : OfI ls i acc) (hi : ls.length ≤ i) (h8 : 8000 < acc.length) : Fin ls [] 2 := by
  unfold Fin
  rw [h.2, List.drop_eq_nil_of_le hi, Tx.jgo, if_pos h8]; exact ⟨rfl, rfl⟩
theorem ofI_end (h : OfI ls i acc) (hi : ls.length ≤ i) (h8 : ¬ 8000 < acc.length) : Fin ls acc 0 := by
  unfold Fin
  rw [h.2, List.drop_eq_nil_of_le hi, Tx.jgo, if_neg h8]; exact ⟨rfl, rfl⟩
theorem ofR_err (h : OfR inn fs k t) (hd : DropIs fs k f) (he : Tx.jfErr f = e) (h0 : e ≠ 0) : Tx.jline inn fs = ([], e) := by
  subst he
  rw [h.2, hd, Tx.jrow, if_pos h0]
theorem ofR_first (h : OfR inn fs k t) (hk : k = 0) (hd : DropIs fs k f) (he : Tx.jfErr f = 0) : OfR inn fs (k + 1) (t ++ Tx.jfText f) := by
  refine ⟨?_, ?_⟩
  · have := h.1; have := Tx.jfText_len he; simp; omega
  · rw [h.2, hd, Tx.jrow, if_neg (by simp [he])]; simp [hk]
theorem ofR_next (h : OfR inn fs k t) (hk : ¬ k = 0) (hd : DropIs fs k f) (he : Tx.jfErr f = 0) : OfR inn fs (k + 1) (t ++ [32] ++ Tx.jfText f) := by
  refine ⟨?_, ?_⟩
  · have := h.1; have := Tx.jfText_len he; simp; omega
  · rw [h.2, hd, Tx.jrow, if_neg (by simp [he])]; simp [hk]
theorem ofR_end (h : OfR inn fs k t) (hk : fs.length ≤ k) : Tx.jline inn fs = (t ++ [10], 0) := by
  rw [h.2, List.drop_eq_nil_of_le hk, Tx.jrow]
end
theorem isBlank_is (c : UInt8) (w : World) {b : Bool} (h : Tx.gap c = b) :
    Calls Tryd.prog 17 #[.int .u8 (c.toNat : Int)] w fun e w' => e = .returned (.bool b) ∧ w' = w := by subst h; exact isBlank_any c w
theorem isPlain_is (c : UInt8) (w : World) {b : Bool} (h : Tx.txt c = b) :
    Calls Tryd.prog 20 #[.int .u8 (c.toNat : Int)] w fun e w' => e = .returned (.bool b) ∧ w' = w := by subst h; exact isPlain_any c w
theorem marks_snoc (s : ByteArray) (k : Nat) (h : k < s.size) : Tx.marks (s.data.toList.take (k + 1)) = (Tx.marks (s.data.toList.take k) || (Tx.gap s[k] || s[k] == 35)) := by
  rw [List.take_succ_eq_append_getElem (by simpa using h)]
  unfold Tx.marks
  rw [List.any_append]
  simp [ByteArray.getElem_eq_getElem_data]
theorem marks_all (s : ByteArray) : Tx.marks (s.data.toList.take s.size) = Tx.marks s.data.toList := by rw [List.take_of_length_le (by simp)]
theorem u8_35 (c : UInt8) : (c == 35) = ((c.toNat : Int) == 35) := (u8_eq c 35).symm
theorem strV_of (s : ByteArray) : strV s.data.toList = .string s := by unfold strV; congr 1
theorem strV_str (a : Tx.Bs) (s : ByteArray) : Value.string ((⟨a.toArray⟩ : ByteArray) ++ s) = strV (a ++ s.data.toList) := by
  unfold strV; congr 1
theorem strV_q (a : Tx.Bs) (s : ByteArray) : Value.string ((⟨a.toArray⟩ : ByteArray) ++ ((⟨#[34]⟩ : ByteArray) ++ s ++ ⟨#[34]⟩)) = strV (a ++ (34 :: (s.data.toList ++ [34]))) := by
  unfold strV; congr 1
theorem strV_1 (a : Tx.Bs) (s : ByteArray) : Value.string ((⟨a.toArray⟩ : ByteArray) ++ ⟨#[32]⟩ ++ s) = strV (a ++ [32] ++ s.data.toList) := by
  unfold strV; congr 1
theorem strV_1q (a : Tx.Bs) (s : ByteArray) : Value.string ((⟨a.toArray⟩ : ByteArray) ++ ⟨#[32]⟩ ++ ((⟨#[34]⟩ : ByteArray) ++ s ++ ⟨#[34]⟩)) = strV (a ++ [32] ++ (34 :: (s.data.toList ++ [34]))) := by
  unfold strV; congr 1

set_option maxRecDepth 100000 in
set_option maxHeartbeats 1000000 in
theorem joinOf_few (v : Value) (ls : List Tx.Ln) (w : World) (hr : RdLines w v ls) (h : ls.length ≤ 200) (hsh : Hid (∀ l ∈ ls, ∀ f ∈ l.fields, Short f)) :
    Calls Tryd.prog 12 #[v] w fun e w' => e = .returned (.tuple #[strV (Tx.join ls).1, .int .i64 (Tx.join ls).2.2]) ∧ w' = w := by
  obtain ⟨a, cap, rfl, hr⟩ := hr
  have HC := hid hr
  clear hr
  have I0 : Hid (OfI ls 0 []) := ⟨by simp, by rw [Tx.join, if_neg (by omega)]; rfl⟩
  obtain ⟨L, hL⟩ : ∃ L, ls.length = L := ⟨_, rfl⟩
  have HL := hid hL
  rw [hL] at h ⊢
  clear hL
  have h2 : ¬ (200 : Int) < (L : Int) := by omega
  go_enter Tryd.func12, Tryd.ntmps12
  go_wp2_with fail
  go_loop [4, 5] (fun s a => ∃ i : Nat, i ≤ L ∧ a = .int .i64 i ∧ ∃ acc, s = strV acc ∧ Hid (OfI ls i acc)) (fun _ a => L - (intOf a).toNat)
  case atStart => exact ⟨0, by omega, rfl, [], rfl, I0⟩
  case round =>
    clear I0
    obtain ⟨i, hi, rfl, acc, rfl, I⟩ := hrel
    have ha : acc.length ≤ 80000 := by have := I.out.1; omega
    by_cases hlt : i < L
    · obtain ⟨l, hf⟩ : ∃ l, ls[i]? = some l := ⟨_, List.getElem?_eq_getElem (by rw [HL.out]; exact hlt)⟩
      have hd : DropL ls i l := by
        show _ = _
        obtain ⟨h1, h2⟩ := List.getElem?_eq_some_iff.1 hf
        rw [List.drop_eq_getElem_cons h1, h2]
      obtain ⟨b, o, rfl, hb, hc⟩ := HC.out (by intro q; subst q; simp at hf)
      obtain ⟨c0, c1, fv, c2, rd⟩ := hc i l hf
      have HS : Hid (∀ f ∈ l.fields, Short f) := hsh.out l (List.mem_of_getElem? hf)
      obtain ⟨ln, li, lf⟩ := l
      simp only at c0 c1 c2 rd HS
      obtain ⟨fa, fcap, rfl, rd⟩ := rd
      have RD := hid rd
      clear hf hc c0 rd HC
      obtain ⟨F, hF⟩ : ∃ F, lf.length = F := ⟨_, rfl⟩
      have HF := hid hF
      rw [hF] at c2
      clear hF
      by_cases hF0 : F = 0
      · have hF0' : ((F : Int) == 0) = true := by simp [hF0]
        have E := hid (ofI_err I.out hd (show Tx.jline li lf = ([], 1) by rw [Tx.jline, if_pos (List.length_eq_zero_iff.1 (HF.out.trans hF0))]) (by decide))
        go_wp2
        go_ret2
        exact ⟨by rw [E.out.1, E.out.2]; rfl, rfl⟩
      · have hF0' : ((F : Int) == 0) = false := by simp [hF0]
        have hlf : Hid (¬ lf = []) := by
          intro q; subst q; exact hF0 HF.out.symm
        by_cases hF1 : 12 < F
        · have hF1' : (12 : Int) < (F : Int) := by omega
          have E := hid (ofI_err I.out hd (show Tx.jline li lf = ([], 2) by rw [Tx.jline, if_neg hlf.out, if_pos (by rw [HF.out]; exact hF1)]) (by decide))
          go_wp2
          go_ret2
          exact ⟨by rw [E.out.1, E.out.2]; rfl, rfl⟩
        · have hF1' : ¬ (12 : Int) < (F : Int) := by omega
          have J0 : Hid (OfR li lf 0 (if li then [32] else [])) := by
            refine ⟨by split <;> simp, ?_⟩
            rw [Tx.jline, if_neg hlf.out, if_neg (by rw [HF.out]; omega)]; rfl
          cases li
          · go_wp2_with fail
            go_loop [4, 6] (fun s a => ∃ k : Nat, k ≤ F ∧ a = .int .i64 k ∧ ∃ t, s = strV (acc ++ t) ∧ Hid (OfR false lf k t)) (fun _ a => F - (intOf a).toNat)
            case atStart => exact ⟨0, by omega, rfl, [], by first | exact strV_add acc [32] | simp, J0⟩
            case round =>
              clear J0
              obtain ⟨k, hk, rfl, t, rfl, J⟩ := hrel
              have ht : (acc ++ t).length ≤ 81000 := by have := J.out.1; simp; omega
              obtain ⟨acc2, hacc2⟩ : ∃ x, acc ++ t = x := ⟨_, rfl⟩
              rw [hacc2] at ht ⊢
              have HA2 := hid hacc2
              clear hacc2
              by_cases hkF : k < F
              · obtain ⟨f, hf⟩ : ∃ f, lf[k]? = some f := ⟨_, List.getElem?_eq_getElem (by rw [HF.out]; exact hkF)⟩
                have hdf : DropIs lf k f := by
                  show _ = _
                  obtain ⟨h1, h2⟩ := List.getElem?_eq_some_iff.1 hf
                  rw [List.drop_eq_getElem_cons h1, h2]
                obtain ⟨pb, po, rfl, pl, pc⟩ := RD.out hlf.out
                have pc1 := pc k f hf
                have hsz : Hid (Short f) := HS.out f (List.mem_of_getElem? hf)
                obtain ⟨s, rfl⟩ : ∃ s : ByteArray, f = s.data.toList := ⟨⟨f.toArray⟩, rfl⟩
                rw [strV_of] at pc1
                have hx : (s.size : Int) ≤ 9223372036854775807 := by
                  have q := hsz.out
                  unfold Short at q
                  rwa [show s.data.toList.length = s.size by simp] at q
                clear hf pc hsz
                by_cases hz : s.size = 0
                · have hne : s.toList.isEmpty = true := by
                    rw [ByteArray.toList_eq, List.isEmpty_iff]
                    exact List.length_eq_zero_iff.1 (by simpa using hz)
                  have hnil : Hid (s.data.toList = []) := List.length_eq_zero_iff.1 (by simpa using hz)
                  have E0 : Hid (Tx.jfErr s.data.toList = 0) := by show _ = _; rw [hnil.out]; decide
                  have hs24 : s.size ≤ 24 := by omega
                  have hz' : (s.size : Int) = 0 := by omega
                  clear hx
                  go_wp2_with fail
                  go_loop [8, 9] (fun q a => q = .bool true ∧ a = .int .i64 0) (fun _ _ => 0)
                  case atStart => exact ⟨rfl, rfl⟩
                  case round =>
                    obtain ⟨rfl, rfl⟩ := hrel
                    by_cases hk0 : k = 0
                    · have hk0' : ¬ (0 : Int) < (k : Int) := by omega
                      have J' := hid (ofR_first J.out hk0 hdf E0.out)
                      have TX : Hid (Tx.jfText s.data.toList = 34 :: (s.data.toList ++ [34])) := by show _ = _; rw [Tx.jfText, if_pos (.inl hnil.out)]
                      have HK0 := hid hk0
                      clear hk0
                      go_wp2
                      go_round
                      case rel => exact ⟨k + 1, by omega, by go_num, _, by rw [strV_q, TX.out, ← HA2.out, List.append_assoc], J'⟩
                      case measure => simp [intOf]; omega
                    · have hk0' : (0 : Int) < (k : Int) := by omega
                      have J' := hid (ofR_next J.out hk0 hdf E0.out)
                      have TX : Hid (Tx.jfText s.data.toList = 34 :: (s.data.toList ++ [34])) := by show _ = _; rw [Tx.jfText, if_pos (.inl hnil.out)]
                      go_wp2
                      go_round
                      case rel => exact ⟨k + 1, by omega, by go_num, _, by rw [strV_1q, TX.out, ← HA2.out]; simp, J'⟩
                      case measure => simp [intOf]; omega
                · have hne : s.toList.isEmpty = false := by
                    rw [ByteArray.toList_eq, List.isEmpty_eq_false_iff]; intro q
                    exact hz (by simpa using congrArg List.length q)
                  have hnil : Hid (¬ s.data.toList = []) := fun q => hz (by simpa using congrArg List.length q)
                  clear hz
                  go_wp2_with fail
                  go_loop [8, 9] (fun q a => ∃ n : Nat, n ≤ s.size ∧ a = .int .i64 n ∧ q = .bool (Tx.marks (s.data.toList.take n)) ∧ Hid (∀ j (hj : j < s.size), j < n → Tx.jok s[j] = true)) (fun _ a => s.size - (intOf a).toNat)
                  case atStart => exact ⟨0, Nat.zero_le _, rfl, by simp [Tx.marks], fun j _ h => absurd h (by omega)⟩
                  case round =>
                    obtain ⟨n, hn, rfl, rfl, HJ⟩ := hrel
                    by_cases hns : n < s.size
                    · have MS := hid (marks_snoc s n hns)
                      obtain ⟨c, hc⟩ : ∃ c, s[n] = c := ⟨_, rfl⟩
                      have bad : ∀ (h : Tx.jok c = false), Fin ls [] 1 := fun h => ofI_err I.out hd (ofR_err J.out hdf (by rw [Tx.jfErr, if_pos (all_false hns (by rw [hc]; exact h))]) (by decide)) (by decide)
                      have BAD := hid bad
                      clear bad
                      rw [hc] at MS
                      cases htx : Tx.txt c
                      · have HT := hid htx
                        have E := hid (BAD.out (by rw [Tx.jok, htx]; rfl))
                        clear htx BAD MS
                        go_wp2_with (go_at_call 20; refine (isPlain_is _ _ HT.out).mono ?_; rintro e w1 ⟨rfl, rfl⟩)
                        go_ret2
                        exact ⟨by rw [E.out.1, E.out.2]; rfl, rfl⟩
                      · have HT := hid htx
                        cases hq : ((c.toNat : Int) == 34)
                        · have HOK : Hid (Tx.jok s[n] = true) := by show _ = _; rw [hc, Tx.jok, htx, hq]; rfl
                          clear htx BAD
                          have hnext : ∀ (q : Bool), Tx.marks (s.data.toList.take (n + 1)) = q → (∃ n' : Nat, n' ≤ s.size ∧ Value.int .i64 ((n : Int) + 1) = .int .i64 n' ∧ Value.bool q = .bool (Tx.marks (s.data.toList.take n')) ∧ Hid (∀ j (hj : j < s.size), j < n' → Tx.jok s[j] = true)) := fun q hq => ⟨n + 1, hns, by go_num, by rw [hq], fun j hj h => by
                            by_cases e : j < n
                            · exact HJ.out j hj e
                            · obtain rfl : j = n := by omega
                              exact HOK.out⟩
                          have HN := hid hnext
                          clear hnext
                          cases hm : Tx.marks (s.data.toList.take n)
                          · cases hgp : Tx.gap c
                            · cases h35 : ((c.toNat : Int) == 35)
                              · have R := hid (HN.out false (by rw [MS.out, hm, hgp, u8_35, h35]; rfl))
                                have HG := hid hgp
                                clear hm hgp MS HN
                                go_wp2_with (first | (go_at_call 20; refine (isPlain_is _ _ HT.out).mono ?_; rintro e w1 ⟨rfl, rfl⟩) | (go_at_call 17; refine (isBlank_is _ _ HG.out).mono ?_; rintro e w1 ⟨rfl, rfl⟩))
                                go_round
                                case rel => exact R.out
                                case measure => simp [intOf]; omega
                              · have R := hid (HN.out true (by rw [MS.out, hm, hgp, u8_35, h35]; rfl))
                                have HG := hid hgp
                                clear hm hgp MS HN
                                go_wp2_with (first | (go_at_call 20; refine (isPlain_is _ _ HT.out).mono ?_; rintro e w1 ⟨rfl, rfl⟩) | (go_at_call 17; refine (isBlank_is _ _ HG.out).mono ?_; rintro e w1 ⟨rfl, rfl⟩))
                                go_round
                                case rel => exact R.out
                                case measure => simp [intOf]; omega
                            · have R := hid (HN.out true (by rw [MS.out, hm, hgp]; rfl))
                              have HG := hid hgp
                              clear hm hgp MS HN
                              go_wp2_with (first | (go_at_call 20; refine (isPlain_is _ _ HT.out).mono ?_; rintro e w1 ⟨rfl, rfl⟩) | (go_at_call 17; refine (isBlank_is _ _ HG.out).mono ?_; rintro e w1 ⟨rfl, rfl⟩))
                              go_round
                              case rel => exact R.out
                              case measure => simp [intOf]; omega
                          · have R := hid (HN.out true (by rw [MS.out, hm]; rfl))
                            clear hm MS HN
                            go_wp2_with (go_at_call 20; refine (isPlain_is _ _ HT.out).mono ?_; rintro e w1 ⟨rfl, rfl⟩)
                            go_round
                            case rel => exact R.out
                            case measure => simp [intOf]; omega
                        · have E := hid (BAD.out (by rw [Tx.jok, htx, hq]; rfl))
                          clear htx BAD MS
                          go_wp2_with (go_at_call 20; refine (isPlain_is _ _ HT.out).mono ?_; rintro e w1 ⟨rfl, rfl⟩)
                          go_ret2
                          exact ⟨by rw [E.out.1, E.out.2]; rfl, rfl⟩
                    · have AL : Hid (s.data.toList.all Tx.jok = true) := all_true fun j hj => HJ.out j hj (by omega)
                      obtain rfl : n = s.size := by omega
                      rw [marks_all]
                      clear HJ hn hns
                      by_cases h24 : s.size ≤ 24
                      · have E0 : Hid (Tx.jfErr s.data.toList = 0) := by
                          show _ = _
                          rw [Tx.jfErr, if_neg (by simp [AL.out]), if_neg (by simpa using h24)]
                        have h24' : ¬ (24 : Int) < (s.size : Int) := by omega
                        clear hx
                        cases hm : Tx.marks s.data.toList
                        · have TX : Hid (Tx.jfText s.data.toList = s.data.toList) := by
                            show _ = _
                            rw [Tx.jfText, if_neg (by rintro (q | q); · exact hnil.out q
                                                      · rw [hm] at q; cases q)]
                          clear hm
                          by_cases hk0 : k = 0
                          · have hk0' : ¬ (0 : Int) < (k : Int) := by omega
                            have J' := hid (ofR_first J.out hk0 hdf E0.out)
                            have HK0 := hid hk0
                            clear hk0
                            go_wp2
                            go_round
                            case rel => exact ⟨k + 1, by omega, by go_num, _, by rw [strV_str, TX.out, ← HA2.out, List.append_assoc], J'⟩
                            case measure => simp [intOf]; omega
                          · have hk0' : (0 : Int) < (k : Int) := by omega
                            have J' := hid (ofR_next J.out hk0 hdf E0.out)
                            go_wp2
                            go_round
                            case rel => exact ⟨k + 1, by omega, by go_num, _, by rw [strV_1, TX.out, ← HA2.out]; simp, J'⟩
                            case measure => simp [intOf]; omega
                        · have TX : Hid (Tx.jfText s.data.toList = 34 :: (s.data.toList ++ [34])) := by
                            show _ = _
                            rw [Tx.jfText, if_pos (.inr hm)]
                          clear hm
                          by_cases hk0 : k = 0
                          · have hk0' : ¬ (0 : Int) < (k : Int) := by omega
                            have J' := hid (ofR_first J.out hk0 hdf E0.out)
                            have HK0 := hid hk0
                            clear hk0
                            go_wp2
                            go_round
                            case rel => exact ⟨k + 1, by omega, by go_num, _, by rw [strV_q, TX.out, ← HA2.out, List.append_assoc], J'⟩
                            case measure => simp [intOf]; omega
                          · have hk0' : (0 : Int) < (k : Int) := by omega
                            have J' := hid (ofR_next J.out hk0 hdf E0.out)
                            go_wp2
                            go_round
                            case rel => exact ⟨k + 1, by omega, by go_num, _, by rw [strV_1q, TX.out, ← HA2.out]; simp, J'⟩
                            case measure => simp [intOf]; omega
                      · have h24' : (24 : Int) < (s.size : Int) := by omega
                        have E := hid (ofI_err I.out hd (ofR_err (e := 2) J.out hdf (by rw [Tx.jfErr, if_neg (by simp [AL.out]), if_pos (by simpa using (by omega : 24 < s.size))]) (by decide)) (by decide))
                        go_wp2
                        go_ret2
                        exact ⟨by rw [E.out.1, E.out.2]; rfl, rfl⟩
              · have I' := hid (ofI_next I.out hd (ofR_end J.out (by rw [HF.out]; omega)))
                go_wp2
                go_round
                case rel => exact ⟨i + 1, by omega, by go_num, _, by rw [← List.append_assoc, HA2.out]; exact strV_add acc2 [10], I'⟩
                case measure => simp [intOf]; omega
          · go_wp2_with fail
            go_loop [4, 6] (fun s a => ∃ k : Nat, k ≤ F ∧ a = .int .i64 k ∧ ∃ t, s = strV (acc ++ t) ∧ Hid (OfR true lf k t)) (fun _ a => F - (intOf a).toNat)
            case atStart => exact ⟨0, by omega, rfl, [32], by first | exact strV_add acc [32] | simp, J0⟩
            case round =>
              clear J0
              obtain ⟨k, hk, rfl, t, rfl, J⟩ := hrel
              have ht : (acc ++ t).length ≤ 81000 := by have := J.out.1; simp; omega
              obtain ⟨acc2, hacc2⟩ : ∃ x, acc ++ t = x := ⟨_, rfl⟩
              rw [hacc2] at ht ⊢
              have HA2 := hid hacc2
              clear hacc2
              by_cases hkF : k < F
              · obtain ⟨f, hf⟩ : ∃ f, lf[k]? = some f := ⟨_, List.getElem?_eq_getElem (by rw [HF.out]; exact hkF)⟩
                have hdf : DropIs lf k f := by
                  show _ = _
                  obtain ⟨h1, h2⟩ := List.getElem?_eq_some_iff.1 hf
                  rw [List.drop_eq_getElem_cons h1, h2]
                obtain ⟨pb, po, rfl, pl, pc⟩ := RD.out hlf.out
                have pc1 := pc k f hf
                have hsz : Hid (Short f) := HS.out f (List.mem_of_getElem? hf)
                obtain ⟨s, rfl⟩ : ∃ s : ByteArray, f = s.data.toList := ⟨⟨f.toArray⟩, rfl⟩
                rw [strV_of] at pc1
                have hx : (s.size : Int) ≤ 9223372036854775807 := by
                  have q := hsz.out
                  unfold Short at q
                  rwa [show s.data.toList.length = s.size by simp] at q
                clear hf pc hsz
                by_cases hz : s.size = 0
                · have hne : s.toList.isEmpty = true := by
                    rw [ByteArray.toList_eq, List.isEmpty_iff]
                    exact List.length_eq_zero_iff.1 (by simpa using hz)
                  have hnil : Hid (s.data.toList = []) := List.length_eq_zero_iff.1 (by simpa using hz)
                  have E0 : Hid (Tx.jfErr s.data.toList = 0) := by show _ = _; rw [hnil.out]; decide
                  have hs24 : s.size ≤ 24 := by omega
                  have hz' : (s.size : Int) = 0 := by omega
                  clear hx
                  go_wp2_with fail
                  go_loop [8, 9] (fun q a => q = .bool true ∧ a = .int .i64 0) (fun _ _ => 0)
                  case atStart => exact ⟨rfl, rfl⟩
                  case round =>
                    obtain ⟨rfl, rfl⟩ := hrel
                    by_cases hk0 : k = 0
                    · have hk0' : ¬ (0 : Int) < (k : Int) := by omega
                      have J' := hid (ofR_first J.out hk0 hdf E0.out)
                      have TX : Hid (Tx.jfText s.data.toList = 34 :: (s.data.toList ++ [34])) := by show _ = _; rw [Tx.jfText, if_pos (.inl hnil.out)]
                      have HK0 := hid hk0
                      clear hk0
                      go_wp2
                      go_round
                      case rel => exact ⟨k + 1, by omega, by go_num, _, by rw [strV_q, TX.out, ← HA2.out, List.append_assoc], J'⟩
                      case measure => simp [intOf]; omega
                    · have hk0' : (0 : Int) < (k : Int) := by omega
                      have J' := hid (ofR_next J.out hk0 hdf E0.out)
                      have TX : Hid (Tx.jfText s.data.toList = 34 :: (s.data.toList ++ [34])) := by show _ = _; rw [Tx.jfText, if_pos (.inl hnil.out)]
                      go_wp2
                      go_round
                      case rel => exact ⟨k + 1, by omega, by go_num, _, by rw [strV_1q, TX.out, ← HA2.out]; simp, J'⟩
                      case measure => simp [intOf]; omega
                · have hne : s.toList.isEmpty = false := by
                    rw [ByteArray.toList_eq, List.isEmpty_eq_false_iff]; intro q
                    exact hz (by simpa using congrArg List.length q)
                  have hnil : Hid (¬ s.data.toList = []) := fun q => hz (by simpa using congrArg List.length q)
                  clear hz
                  go_wp2_with fail
                  go_loop [8, 9] (fun q a => ∃ n : Nat, n ≤ s.size ∧ a = .int .i64 n ∧ q = .bool (Tx.marks (s.data.toList.take n)) ∧ Hid (∀ j (hj : j < s.size), j < n → Tx.jok s[j] = true)) (fun _ a => s.size - (intOf a).toNat)
                  case atStart => exact ⟨0, Nat.zero_le _, rfl, by simp [Tx.marks], fun j _ h => absurd h (by omega)⟩
                  case round =>
                    obtain ⟨n, hn, rfl, rfl, HJ⟩ := hrel
                    by_cases hns : n < s.size
                    · have MS := hid (marks_snoc s n hns)
                      obtain ⟨c, hc⟩ : ∃ c, s[n] = c := ⟨_, rfl⟩
                      have bad : ∀ (h : Tx.jok c = false), Fin ls [] 1 := fun h => ofI_err I.out hd (ofR_err J.out hdf (by rw [Tx.jfErr, if_pos (all_false hns (by rw [hc]; exact h))]) (by decide)) (by decide)
                      have BAD := hid bad
                      clear bad
                      rw [hc] at MS
                      cases htx : Tx.txt c
                      · have HT := hid htx
                        have E := hid (BAD.out (by rw [Tx.jok, htx]; rfl))
                        clear htx BAD MS
                        go_wp2_with (go_at_call 20; refine (isPlain_is _ _ HT.out).mono ?_; rintro e w1 ⟨rfl, rfl⟩)
                        go_ret2
                        exact ⟨by rw [E.out.1, E.out.2]; rfl, rfl⟩
                      · have HT := hid htx
                        cases hq : ((c.toNat : Int) == 34)
                        · have HOK : Hid (Tx.jok s[n] = true) := by show _ = _; rw [hc, Tx.jok, htx, hq]; rfl
                          clear htx BAD
                          have hnext : ∀ (q : Bool), Tx.marks (s.data.toList.take (n + 1)) = q → (∃ n' : Nat, n' ≤ s.size ∧ Value.int .i64 ((n : Int) + 1) = .int .i64 n' ∧ Value.bool q = .bool (Tx.marks (s.data.toList.take n')) ∧ Hid (∀ j (hj : j < s.size), j < n' → Tx.jok s[j] = true)) := fun q hq => ⟨n + 1, hns, by go_num, by rw [hq], fun j hj h => by
                            by_cases e : j < n
                            · exact HJ.out j hj e
                            · obtain rfl : j = n := by omega
                              exact HOK.out⟩
                          have HN := hid hnext
                          clear hnext
                          cases hm : Tx.marks (s.data.toList.take n)
                          · cases hgp : Tx.gap c
                            · cases h35 : ((c.toNat : Int) == 35)
                              · have R := hid (HN.out false (by rw [MS.out, hm, hgp, u8_35, h35]; rfl))
                                have HG := hid hgp
                                clear hm hgp MS HN
                                go_wp2_with (first | (go_at_call 20; refine (isPlain_is _ _ HT.out).mono ?_; rintro e w1 ⟨rfl, rfl⟩) | (go_at_call 17; refine (isBlank_is _ _ HG.out).mono ?_; rintro e w1 ⟨rfl, rfl⟩))
                                go_round
                                case rel => exact R.out
                                case measure => simp [intOf]; omega
                              · have R := hid (HN.out true (by rw [MS.out, hm, hgp, u8_35, h35]; rfl))
                                have HG := hid hgp
                                clear hm hgp MS HN
                                go_wp2_with (first | (go_at_call 20; refine (isPlain_is _ _ HT.out).mono ?_; rintro e w1 ⟨rfl, rfl⟩) | (go_at_call 17; refine (isBlank_is _ _ HG.out).mono ?_; rintro e w1 ⟨rfl, rfl⟩))
                                go_round
                                case rel => exact R.out
                                case measure => simp [intOf]; omega
                            · have R := hid (HN.out true (by rw [MS.out, hm, hgp]; rfl))
                              have HG := hid hgp
                              clear hm hgp MS HN
                              go_wp2_with (first | (go_at_call 20; refine (isPlain_is _ _ HT.out).mono ?_; rintro e w1 ⟨rfl, rfl⟩) | (go_at_call 17; refine (isBlank_is _ _ HG.out).mono ?_; rintro e w1 ⟨rfl, rfl⟩))
                              go_round
                              case rel => exact R.out
                              case measure => simp [intOf]; omega
                          · have R := hid (HN.out true (by rw [MS.out, hm]; rfl))
                            clear hm MS HN
                            go_wp2_with (go_at_call 20; refine (isPlain_is _ _ HT.out).mono ?_; rintro e w1 ⟨rfl, rfl⟩)
                            go_round
                            case rel => exact R.out
                            case measure => simp [intOf]; omega
                        · have E := hid (BAD.out (by rw [Tx.jok, htx, hq]; rfl))
                          clear htx BAD MS
                          go_wp2_with (go_at_call 20; refine (isPlain_is _ _ HT.out).mono ?_; rintro e w1 ⟨rfl, rfl⟩)
                          go_ret2
                          exact ⟨by rw [E.out.1, E.out.2]; rfl, rfl⟩
                    · have AL : Hid (s.data.toList.all Tx.jok = true) := all_true fun j hj => HJ.out j hj (by omega)
                      obtain rfl : n = s.size := by omega
                      rw [marks_all]
                      clear HJ hn hns
                      by_cases h24 : s.size ≤ 24
                      · have E0 : Hid (Tx.jfErr s.data.toList = 0) := by
                          show _ = _
                          rw [Tx.jfErr, if_neg (by simp [AL.out]), if_neg (by simpa using h24)]
                        have h24' : ¬ (24 : Int) < (s.size : Int) := by omega
                        clear hx
                        cases hm : Tx.marks s.data.toList
                        · have TX : Hid (Tx.jfText s.data.toList = s.data.toList) := by
                            show _ = _
                            rw [Tx.jfText, if_neg (by rintro (q | q); · exact hnil.out q
                                                      · rw [hm] at q; cases q)]
                          clear hm
                          by_cases hk0 : k = 0
                          · have hk0' : ¬ (0 : Int) < (k : Int) := by omega
                            have J' := hid (ofR_first J.out hk0 hdf E0.out)
                            have HK0 := hid hk0
                            clear hk0
                            go_wp2
                            go_round
                            case rel => exact ⟨k + 1, by omega, by go_num, _, by rw [strV_str, TX.out, ← HA2.out, List.append_assoc], J'⟩
                            case measure => simp [intOf]; omega
                          · have hk0' : (0 : Int) < (k : Int) := by omega
                            have J' := hid (ofR_next J.out hk0 hdf E0.out)
                            go_wp2
                            go_round
                            case rel => exact ⟨k + 1, by omega, by go_num, _, by rw [strV_1, TX.out, ← HA2.out]; simp, J'⟩
                            case measure => simp [intOf]; omega
                        · have TX : Hid (Tx.jfText s.data.toList = 34 :: (s.data.toList ++ [34])) := by
                            show _ = _
                            rw [Tx.jfText, if_pos (.inr hm)]
                          clear hm
                          by_cases hk0 : k = 0
                          · have hk0' : ¬ (0 : Int) < (k : Int) := by omega
                            have J' := hid (ofR_first J.out hk0 hdf E0.out)
                            have HK0 := hid hk0
                            clear hk0
                            go_wp2
                            go_round
                            case rel => exact ⟨k + 1, by omega, by go_num, _, by rw [strV_q, TX.out, ← HA2.out, List.append_assoc], J'⟩
                            case measure => simp [intOf]; omega
                          · have hk0' : (0 : Int) < (k : Int) := by omega
                            have J' := hid (ofR_next J.out hk0 hdf E0.out)
                            go_wp2
                            go_round
                            case rel => exact ⟨k + 1, by omega, by go_num, _, by rw [strV_1q, TX.out, ← HA2.out]; simp, J'⟩
                            case measure => simp [intOf]; omega
                      · have h24' : (24 : Int) < (s.size : Int) := by omega
                        have E := hid (ofI_err I.out hd (ofR_err (e := 2) J.out hdf (by rw [Tx.jfErr, if_neg (by simp [AL.out]), if_pos (by simpa using (by omega : 24 < s.size))]) (by decide)) (by decide))
                        go_wp2
                        go_ret2
                        exact ⟨by rw [E.out.1, E.out.2]; rfl, rfl⟩
              · have I' := hid (ofI_next I.out hd (ofR_end J.out (by rw [HF.out]; omega)))
                go_wp2
                go_round
                case rel => exact ⟨i + 1, by omega, by go_num, _, by rw [← List.append_assoc, HA2.out]; exact strV_add acc2 [10], I'⟩
                case measure => simp [intOf]; omega
    · clear HC
      by_cases h8 : 8000 < acc.length
      · have E := hid (ofI_many I.out (by rw [HL.out]; omega) h8)
        have h8' : (8000 : Int) < (acc.length : Int) := by omega
        go_wp2
        go_ret2
        exact ⟨by rw [E.out.1, E.out.2]; rfl, rfl⟩
      · have E := hid (ofI_end I.out (by rw [HL.out]; omega) h8)
        have h8' : ¬ (8000 : Int) < (acc.length : Int) := by omega
        go_wp2
        go_ret2
        exact ⟨by rw [E.out.1, E.out.2]; rfl, rfl⟩

theorem joinOf_any (v : Value) (ls : List Tx.Ln) (w : World) (hr : RdLines w v ls) (hsh : ∀ l ∈ ls, ∀ f ∈ l.fields, Short f) :
    Calls Tryd.prog 12 #[v] w fun e w' => e = .returned (.tuple #[strV (Tx.join ls).1, .int .i64 (Tx.join ls).2.2]) ∧ w' = w := by
  by_cases h : 200 < ls.length
  · exact joinOf_many v ls w hr h
  · exact joinOf_few v ls w hr (by omega) hsh
end Go.Proofs.YtgnopbmcnadmdabDoor
