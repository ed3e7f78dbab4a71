/- Bytes read back, in plain terms. -/
import Derived.Test.YtombhnjmelidcaaWrC
namespace Go.Proofs.Ytombhnjmelidcaa.Wr
open Tx (Bs)
open Tb (Lc Cg Tbl)
set_option linter.unusedSimpArgs false
set_option linter.unusedVariables false

def leN : Bs → Nat
  | [] => 0
  | b :: r => b.toNat + 256 * leN r
theorem byteOf_toNat (n : Int) (h : 0 ≤ n) : ((byteOf n).toNat : Int) = n % 256 := by
  unfold byteOf
  have h1 : (n % 256).toNat < 256 := by omega
  rw [UInt8.toNat_ofNat', Nat.mod_eq_of_lt (by simpa using h1)]
  omega
theorem leN_num : ∀ (k : Nat) (n : Int), 0 ≤ n → n < 256 ^ k → (leN (num k n) : Int) = n
  | 0, n, h0, h => by simp [num, leN] at h ⊢; omega
  | k + 1, n, h0, h => by
    have ih := leN_num k (n / 256) (by omega) (by rw [Int.pow_succ] at h; omega)
    have hb := byteOf_toNat n h0
    simp only [num, leN]
    omega
theorem leN_lt : ∀ (l : Bs), leN l < 256 ^ l.length
  | [] => by simp [leN]
  | b :: r => by
    have := leN_lt r
    have hb := b.toNat_lt
    simp only [leN, List.length_cons, Nat.pow_succ]
    have : b.toNat < 256 := hb
    omega
theorem leN_snoc : ∀ (l : Bs) (c : UInt8), leN (l ++ [c]) = leN l + c.toNat * 256 ^ l.length
  | [], c => by simp [leN]
  | b :: r, c => by
    simp only [List.cons_append, leN, leN_snoc r c, List.length_cons, Nat.pow_succ]
    rw [show c.toNat * (256 ^ r.length * 256) = 256 * (c.toNat * 256 ^ r.length) by rw [Nat.mul_comm 256, Nat.mul_assoc]]
    omega
theorem p1 : (256 : Int) ^ 1 = 256 := by decide
theorem p2 : (256 : Int) ^ 2 = 65536 := by decide
theorem p3 : (256 : Int) ^ 3 = 16777216 := by decide
theorem p5 : (256 : Int) ^ 5 = 1099511627776 := by decide
def pNum (k : Nat) (s : Bs) : Option (Nat × Bs) := if k ≤ s.length then some (leN (s.take k), s.drop k) else none
theorem pNum_some {k : Nat} {s : Bs} (h : k ≤ s.length) : pNum k s = some (leN (s.take k), s.drop k) := if_pos h
theorem pNum_none {k : Nat} {s : Bs} (h : ¬ k ≤ s.length) : pNum k s = none := if_neg h
def pLoc (s : Bs) : Option (Lc × Bs) :=
  match pNum 3 s with
  | none => none
  | some (a, s1) => match pNum 2 s1 with
    | none => none
    | some (b, s2) => match pNum 1 s2 with
      | none => none
      | some (n, s3) => if n ≤ s3.length then some (⟨(a : Int) - 100000, b, s3.take n⟩, s3.drop n) else none
def pLocs : Nat → Bs → Option (List Lc × Bs)
  | 0, s => some ([], s)
  | k + 1, s => match pLoc s with
    | none => none
    | some (l, s1) => match pLocs k s1 with
      | none => none
      | some (r, s2) => some (l :: r, s2)
def pKind (ks : List Lc) (s : Bs) : Option (Lc × Bs) :=
  match pNum 2 s with
  | none => none
  | some (i, s1) => match ks[i]? with
    | none => none
    | some l => some (l, s1)
def pCh (ks : List Lc) (s : Bs) : Option (Cg × Bs) :=
  match pNum 5 s with
  | none => none
  | some (a, s1) => match pKind ks s1 with
    | none => none
    | some (l, s2) => some (⟨(a : Int) - 274877906944, l⟩, s2)
def pChs (ks : List Lc) : Nat → Bs → Option (List Cg × Bs)
  | 0, s => some ([], s)
  | k + 1, s => match pCh ks s with
    | none => none
    | some (c, s1) => match pChs ks k s1 with
      | none => none
      | some (r, s2) => some (c :: r, s2)
def parse (s : Bs) : Option Tbl :=
  match pNum 2 s with
  | none => none
  | some (n, s1) => match pLocs n s1 with
    | none => none
    | some (ks, s2) => match pKind ks s2 with
      | none => none
      | some (f, s3) => match pNum 2 s3 with
        | none => none
        | some (m, s4) => match pChs ks m s4 with
          | none => none
          | some (ch, _) => some ⟨f, ch⟩
/- what is written is read -/
theorem pNum_num (k : Nat) (n : Int) (r : Bs) (h0 : 0 ≤ n) (h : n < 256 ^ k) : pNum k (num k n ++ r) = some (n.toNat, r) := by
  have l := num_len k n
  rw [pNum_some (by simp [l])]
  rw [show (num k n ++ r).take k = num k n by rw [List.take_append_of_le_length (by omega), List.take_of_length_le (by omega)], List.drop_append_of_le_length (by omega), List.drop_eq_nil_of_le (by omega)]
  have := leN_num k n h0 h
  simp
  omega
theorem pLoc_kind (l : Lc) (r : Bs) (h : Tb.localE l = 0) : pLoc (kindB l ++ r) = some (l, r) := by
  obtain ⟨g1, g2, g3, g4, g5, g6, g7⟩ := Tb.goodL_bd h
  unfold pLoc kindB
  rw [List.append_assoc, List.append_assoc, List.append_assoc, pNum_num 3 _ _ (by omega) (by rw [p3]; omega)]
  simp only
  rw [pNum_num 2 _ _ (by omega) (by rw [p2]; omega)]
  simp only
  rw [pNum_num 1 _ _ (by omega) (by rw [p1]; omega)]
  simp only
  rw [if_pos (by simp)]
  obtain ⟨a, b, c⟩ := l
  simp
  simp only at g1 g2 g3 g4
  omega
theorem pLocs_kinds : ∀ (ks : List Lc) (r : Bs), (∀ l ∈ ks, Tb.localE l = 0) → pLocs ks.length (kindsB ks ++ r) = some (ks, r)
  | [], r, _ => rfl
  | l :: ks, r, h => by
    simp only [List.length_cons, pLocs, kindsB, List.append_assoc]
    rw [pLoc_kind l _ (h l (by simp))]
    simp only
    rw [pLocs_kinds ks r (fun x hx => h x (by simp [hx]))]
theorem place_get (l : Lc) : ∀ (ks : List Lc), place l ks < ks.length → ks[place l ks]? = some l
  | [], h => by simp at h
  | x :: ks, h => by
    simp only [place] at h ⊢
    split
    · rename_i q; simp [q]
    · rename_i q
      rw [if_neg q] at h
      simp only [List.getElem?_cons_succ]
      exact place_get l ks (by simp at h; omega)
theorem pKind_place (ks : List Lc) (l : Lc) (r : Bs) (h : place l ks < ks.length) (hk : ks.length ≤ 1001) : pKind ks (num 2 (place l ks : Int) ++ r) = some (l, r) := by
  unfold pKind
  rw [pNum_num 2 _ _ (by omega) (by rw [p2]; omega)]
  simp only [Int.toNat_natCast]
  rw [place_get l ks h]
theorem pChs_body (ks : List Lc) (hk : ks.length ≤ 1001) : ∀ (ch : List Cg) (r : Bs), (∀ c ∈ ch, Tb.least ≤ c.at_ ∧ c.at_ ≤ Tb.most ∧ place c.lc ks < ks.length) → pChs ks ch.length (bodyK ks ch ++ r) = some (ch, r)
  | [], r, _ => rfl
  | c :: ch, r, h => by
    obtain ⟨h1, h2, h3⟩ := h c (by simp)
    have h1' : (-62135596800 : Int) ≤ c.at_ := h1
    have h2' : c.at_ ≤ (253402300799 : Int) := h2
    simp only [List.length_cons, pChs, bodyK, List.append_assoc, change, pCh]
    rw [pNum_num 5 _ _ (by omega) (by rw [p5]; omega)]
    simp only
    rw [pKind_place ks c.lc _ h3 hk]
    simp only
    rw [pChs_body ks hk ch r (fun x hx => h x (by simp [hx]))]
    obtain ⟨a, l⟩ := c
    simp
    simp only at h1' h2'
    omega
theorem parse_encode (t : Tbl) (h : Tb.tableE t = 0) : parse (encode t) = some t := by
  obtain ⟨f, ch⟩ := t
  obtain ⟨g1, g2, g3⟩ := Tb.good_parts h
  simp only at g1 g2 g3
  have cb := (Tb.goE_rise ch f none g3).2.1
  have pf := place_first f ch
  have pin := place_in ch [f]
  have lk : (kinds [f] ch).length ≤ 1001 := by have := kinds_len ch [f]; simp at this; omega
  have kb : ∀ l ∈ kinds [f] ch, Tb.localE l = 0 := by
    intro l hl
    rcases kinds_mem ch [f] l hl with q | ⟨c, hc, rfl⟩
    · simp at q; subst q; exact g2
    · exact (cb c hc).2.2
  have hb := body_K ch [f]
  unfold encode parse
  simp only
  rw [hb]
  obtain ⟨K, hK⟩ : ∃ K, kinds [f] ch = K := ⟨_, rfl⟩
  rw [hK] at pf pin lk kb ⊢
  rw [List.append_assoc, List.append_assoc, List.append_assoc, pNum_num 2 _ _ (by omega) (by rw [p2]; omega)]
  simp only [Int.toNat_natCast]
  rw [pLocs_kinds K _ kb]
  simp only
  have := pKind_place K f (num 2 (ch.length : Int) ++ bodyK K ch) (by rw [pf.1]; exact pf.2) lk
  rw [pf.1] at this
  simp only [Int.natCast_zero, List.append_assoc] at this ⊢
  rw [this]
  simp only
  rw [pNum_num 2 _ _ (by omega) (by rw [p2]; omega)]
  simp only [Int.toNat_natCast]
  have := pChs_body K lk ch [] (fun c hc => ⟨(cb c hc).1, (cb c hc).2.1, pin c hc⟩)
  rw [List.append_nil] at this
  rw [this]
end Go.Proofs.Ytombhnjmelidcaa.Wr
