/- What is read: step by step; how long it is. -/
import Derived.Test.YtombhnjmelidcaaWrD
namespace Go.Proofs.Ytombhnjmelidcaa.Wr
open Tx (Bs)
open Tb (Lc Cg Tbl)
set_option linter.unusedSimpArgs false
set_option linter.unusedVariables false

theorem pNum_len {k n : Nat} {s s' : Bs} (h : pNum k s = some (n, s')) : s'.length ≤ s.length ∧ n < 256 ^ k := by
  unfold pNum at h
  split at h
  · rename_i q
    simp at h
    obtain ⟨rfl, rfl⟩ := h
    refine ⟨by simp, ?_⟩
    have := leN_lt (s.take k)
    rw [List.length_take, Nat.min_eq_left q] at this
    exact this
  · cases h
theorem pLoc_len {s s' : Bs} {l : Lc} (h : pLoc s = some (l, s')) : s'.length ≤ s.length ∧ l.name.length ≤ 255 := by
  unfold pLoc at h
  cases h1 : pNum 3 s with
  | none => rw [h1] at h; cases h
  | some p =>
    obtain ⟨a, s1⟩ := p
    rw [h1] at h
    simp only at h
    cases h2 : pNum 2 s1 with
    | none => rw [h2] at h; cases h
    | some p =>
      obtain ⟨b, s2⟩ := p
      rw [h2] at h
      simp only at h
      cases h3 : pNum 1 s2 with
      | none => rw [h3] at h; cases h
      | some p =>
        obtain ⟨n, s3⟩ := p
        rw [h3] at h
        simp only at h
        split at h
        · simp at h
          obtain ⟨rfl, rfl⟩ := h
          have a1 := pNum_len h1
          have a2 := pNum_len h2
          have a3 := pNum_len h3
          refine ⟨by simp; omega, ?_⟩
          simp
          have : n < 256 := by simpa using a3.2
          omega
        · cases h
theorem pKind_len {ks : List Lc} {s s' : Bs} {l : Lc} (h : pKind ks s = some (l, s')) : s'.length ≤ s.length ∧ l ∈ ks := by
  unfold pKind at h
  cases h1 : pNum 2 s with
  | none => rw [h1] at h; cases h
  | some p =>
    obtain ⟨a, s1⟩ := p
    rw [h1] at h
    simp only at h
    cases h2 : ks[a]? with
    | none => rw [h2] at h; cases h
    | some x =>
      rw [h2] at h
      simp at h
      obtain ⟨rfl, rfl⟩ := h
      exact ⟨(pNum_len h1).1, List.mem_of_getElem? h2⟩
theorem pCh_len {ks : List Lc} {s s' : Bs} {c : Cg} (h : pCh ks s = some (c, s')) : s'.length ≤ s.length ∧ c.lc ∈ ks := by
  unfold pCh at h
  cases h1 : pNum 5 s with
  | none => rw [h1] at h; cases h
  | some p =>
    obtain ⟨a, s1⟩ := p
    rw [h1] at h
    simp only at h
    cases h2 : pKind ks s1 with
    | none => rw [h2] at h; cases h
    | some p =>
      obtain ⟨l, s2⟩ := p
      rw [h2] at h
      simp at h
      obtain ⟨rfl, rfl⟩ := h
      exact ⟨Nat.le_trans (pKind_len h2).1 (pNum_len h1).1, (pKind_len h2).2⟩
/- what is left to read, behind what was read -/
def locsFrom (n : Nat) (s : Bs) (ks : List Lc) (i : Nat) (s' : Bs) : Prop := pLocs n s = (pLocs (n - i) s').map (fun p => (ks ++ p.1, p.2))
theorem locs_start (n : Nat) (s : Bs) : locsFrom n s [] 0 s := by unfold locsFrom; cases pLocs n s <;> simp [*]
theorem locs_next {n i : Nat} {s s' s2 : Bs} {ks : List Lc} {l : Lc} (h : locsFrom n s ks i s') (hi : i < n) (hp : pLoc s' = some (l, s2)) : locsFrom n s (ks ++ [l]) (i + 1) s2 := by
  unfold locsFrom at h ⊢
  rw [h, show n - i = (n - (i + 1)) + 1 by omega]
  simp only [pLocs, hp]
  cases pLocs (n - (i + 1)) s2 with
  | none => rfl
  | some p => simp
theorem locs_bad {n i : Nat} {s s' : Bs} {ks : List Lc} (h : locsFrom n s ks i s') (hi : i < n) (hp : pLoc s' = none) : pLocs n s = none := by
  unfold locsFrom at h
  rw [h, show n - i = (n - (i + 1)) + 1 by omega]
  simp [pLocs, hp]
theorem locs_end {n : Nat} {s s' : Bs} {ks : List Lc} (h : locsFrom n s ks n s') : pLocs n s = some (ks, s') := by
  unfold locsFrom at h
  rw [h]
  simp [pLocs]
def chsFrom (K : List Lc) (n : Nat) (s : Bs) (ks : List Cg) (i : Nat) (s' : Bs) : Prop := pChs K n s = (pChs K (n - i) s').map (fun p => (ks ++ p.1, p.2))
theorem chs_start (K : List Lc) (n : Nat) (s : Bs) : chsFrom K n s [] 0 s := by unfold chsFrom; cases pChs K n s <;> simp [*]
theorem chs_next {K : List Lc} {n i : Nat} {s s' s2 : Bs} {ks : List Cg} {l : Cg} (h : chsFrom K n s ks i s') (hi : i < n) (hp : pCh K s' = some (l, s2)) : chsFrom K n s (ks ++ [l]) (i + 1) s2 := by
  unfold chsFrom at h ⊢
  rw [h, show n - i = (n - (i + 1)) + 1 by omega]
  simp only [pChs, hp]
  cases pChs K (n - (i + 1)) s2 with
  | none => rfl
  | some p => simp
theorem chs_bad {K : List Lc} {n i : Nat} {s s' : Bs} {ks : List Cg} (h : chsFrom K n s ks i s') (hi : i < n) (hp : pCh K s' = none) : pChs K n s = none := by
  unfold chsFrom at h
  rw [h, show n - i = (n - (i + 1)) + 1 by omega]
  simp [pChs, hp]
theorem chs_end {K : List Lc} {n : Nat} {s s' : Bs} {ks : List Cg} (h : chsFrom K n s ks n s') : pChs K n s = some (ks, s') := by
  unfold chsFrom at h
  rw [h]
  simp [pChs]
end Go.Proofs.Ytombhnjmelidcaa.Wr
