/- Tables as bytes, in plain terms. -/
import Derived.Test.YtombhnjmelidcaaTb
namespace Go.Proofs.Ytombhnjmelidcaa.Wr
open Tx (Bs)
open Tb (Lc Cg Tbl)
set_option linter.unusedSimpArgs false
set_option linter.unusedVariables false

def byteOf (n : Int) : UInt8 := UInt8.ofNat (n % 256).toNat
/- a number, the lesser bytes first -/
def num : Nat → Int → Bs
  | 0, _ => []
  | k + 1, n => byteOf n :: num k (n / 256)
theorem num_len : ∀ (k : Nat) (n : Int), (num k n).length = k
  | 0, _ => rfl
  | k + 1, n => by simp [num, num_len k]
/- which kind it is: the place of the first that is the same -/
def place (l : Lc) : List Lc → Nat
  | [] => 0
  | x :: r => if x = l then 0 else place l r + 1
def addK (ks : List Lc) (l : Lc) : List Lc := if place l ks = ks.length then ks ++ [l] else ks
/- kinds in the order in which they come -/
def kinds : List Lc → List Cg → List Lc
  | ks, [] => ks
  | ks, c :: r => kinds (addK ks c.lc) r
def change (ks : List Lc) (c : Cg) : Bs := num 5 (c.at_ + 274877906944) ++ num 2 (place c.lc ks)
def body : List Lc → List Cg → Bs
  | _, [] => []
  | ks, c :: r => change ks c ++ body (addK ks c.lc) r
def kindB (l : Lc) : Bs := num 3 (l.shift + 100000) ++ num 2 l.save ++ num 1 l.name.length ++ l.name
def kindsB : List Lc → Bs
  | [] => []
  | l :: r => kindB l ++ kindsB r
def encode (t : Tbl) : Bs := num 2 ((kinds [t.first] t.ch).length : Int) ++ kindsB (kinds [t.first] t.ch) ++ num 2 0 ++ num 2 (t.ch.length : Int) ++ body [t.first] t.ch
theorem place_le (l : Lc) : ∀ ks : List Lc, place l ks ≤ ks.length
  | [] => Nat.le_refl _
  | x :: r => by
    simp only [place]
    split
    · omega
    · have := place_le l r; simp; omega
theorem addK_len (ks : List Lc) (l : Lc) : (addK ks l).length ≤ ks.length + 1 := by unfold addK; split <;> simp
theorem place_drop {l x : Lc} {ks : List Lc} {k : Nat} (h : ks[k]? = some x) : place l (ks.drop k) = if x = l then 0 else place l (ks.drop (k + 1)) + 1 := by
  rw [Tb.drop_get h]; rfl
theorem place_end {l : Lc} {ks : List Lc} {k : Nat} (h : ¬ k < ks.length) : place l (ks.drop k) = 0 := by
  rw [List.drop_eq_nil_of_le (by omega)]; rfl
theorem kinds_len : ∀ (l : List Cg) (ks : List Lc), (kinds ks l).length ≤ ks.length + l.length
  | [], ks => Nat.le_refl _
  | c :: r, ks => by
    have := kinds_len r (addK ks c.lc)
    have := addK_len ks c.lc
    simp only [kinds, List.length_cons]; omega
theorem kinds_next {ch : List Cg} {i : Nat} {c : Cg} {ks K : List Lc} (h : ch[i]? = some c) (hK : K = kinds ks (ch.drop i)) : K = kinds (addK ks c.lc) (ch.drop (i + 1)) := by
  rw [hK, Tb.drop_get h]; rfl
theorem body_next {ch : List Cg} {i : Nat} {c : Cg} {ks : List Lc} {acc B : Bs} (h : ch[i]? = some c) (hB : B = acc ++ body ks (ch.drop i)) : B = (acc ++ change ks c) ++ body (addK ks c.lc) (ch.drop (i + 1)) := by
  rw [hB, Tb.drop_get h, List.append_assoc]; rfl
theorem kindsB_next {ks : List Lc} {i : Nat} {l : Lc} {acc B : Bs} (h : ks[i]? = some l) (hB : B = acc ++ kindsB (ks.drop i)) : B = (acc ++ kindB l) ++ kindsB (ks.drop (i + 1)) := by
  rw [hB, Tb.drop_get h, List.append_assoc]; rfl
/- what kinds there are: the first one, and those of changes -/
theorem kinds_mem : ∀ (l : List Cg) (ks : List Lc) (x : Lc), x ∈ kinds ks l → x ∈ ks ∨ ∃ c ∈ l, c.lc = x
  | [], ks, x, h => .inl h
  | c :: r, ks, x, h => by
    rcases kinds_mem r (addK ks c.lc) x h with q | ⟨d, hd, e⟩
    · unfold addK at q
      split at q
      · simp at q
        rcases q with q | q
        · exact .inl q
        · exact .inr ⟨c, by simp, q.symm⟩
      · exact .inl q
    · exact .inr ⟨d, by simp [hd], e⟩
end Go.Proofs.Ytombhnjmelidcaa.Wr
