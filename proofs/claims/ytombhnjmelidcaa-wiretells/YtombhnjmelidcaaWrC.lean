/- Which kind is which: places in the end are places when they came. -/
import Derived.Test.YtombhnjmelidcaaWr
namespace Go.Proofs.Ytombhnjmelidcaa.Wr
open Tx (Bs)
open Tb (Lc Cg Tbl)
set_option linter.unusedSimpArgs false
set_option linter.unusedVariables false

theorem place_app (l : Lc) : ∀ (ks r : List Lc), place l ks < ks.length → place l (ks ++ r) = place l ks
  | [], r, h => by simp at h
  | x :: ks, r, h => by
    simp only [place, List.cons_append] at h ⊢
    split
    · rfl
    · rename_i q
      rw [if_neg q] at h
      rw [place_app l ks r (by simp at h; omega)]
theorem place_new (l : Lc) : ∀ (ks : List Lc), place l ks = ks.length → place l (ks ++ [l]) = ks.length
  | [], _ => by simp [place]
  | x :: ks, h => by
    simp only [place, List.cons_append, List.length_cons] at h ⊢
    split
    · rename_i q; rw [if_pos q] at h; omega
    · rename_i q
      rw [if_neg q] at h
      rw [place_new l ks (by omega)]
theorem place_other {l x : Lc} (hne : ¬ l = x) : ∀ (ks : List Lc), place l ks = ks.length → place l (ks ++ [x]) = (ks ++ [x]).length
  | [], _ => by
    have : ¬ x = l := fun q => hne q.symm
    simp [place, this]
  | y :: ks, h => by
    simp only [place, List.cons_append, List.length_cons] at h ⊢
    split
    · rename_i q; rw [if_pos q] at h; omega
    · rename_i q
      rw [if_neg q] at h
      rw [place_other hne ks (by omega)]
theorem place_addK (ks : List Lc) (l : Lc) : place l (addK ks l) = place l ks ∧ place l ks < (addK ks l).length := by
  unfold addK
  split
  · rename_i q
    rw [place_new l ks q, q]
    simp
  · rename_i q
    have := place_le l ks
    exact ⟨rfl, by omega⟩
theorem addK_pre (ks : List Lc) (l : Lc) : ∃ r, addK ks l = ks ++ r := by
  unfold addK
  split
  · exact ⟨[l], rfl⟩
  · exact ⟨[], by simp⟩
theorem kinds_pre : ∀ (ch : List Cg) (ks : List Lc), ∃ r, kinds ks ch = ks ++ r
  | [], ks => ⟨[], by simp [kinds]⟩
  | c :: r, ks => by
    obtain ⟨a, ha⟩ := addK_pre ks c.lc
    obtain ⟨b, hb⟩ := kinds_pre r (addK ks c.lc)
    exact ⟨a ++ b, by rw [kinds, hb, ha, List.append_assoc]⟩
theorem place_kinds (l : Lc) (ch : List Cg) (ks : List Lc) (h : place l ks < ks.length) : place l (kinds ks ch) = place l ks := by
  obtain ⟨r, hr⟩ := kinds_pre ch ks
  rw [hr, place_app l ks r h]
/- bytes of changes, by the kinds that there are in the end -/
def bodyK (K : List Lc) : List Cg → Bs
  | [] => []
  | c :: r => change K c ++ bodyK K r
theorem body_K : ∀ (ch : List Cg) (ks : List Lc), body ks ch = bodyK (kinds ks ch) ch
  | [], ks => rfl
  | c :: r, ks => by
    obtain ⟨h1, h2⟩ := place_addK ks c.lc
    simp only [body, bodyK, kinds]
    rw [body_K r (addK ks c.lc)]
    congr 1
    unfold change
    rw [place_kinds c.lc r (addK ks c.lc) (by rw [h1]; exact h2), h1]
theorem place_in : ∀ (ch : List Cg) (ks : List Lc), ∀ c ∈ ch, place c.lc (kinds ks ch) < (kinds ks ch).length
  | [], ks, c, hc => by simp at hc
  | d :: r, ks, c, hc => by
    obtain ⟨h1, h2⟩ := place_addK ks d.lc
    simp only [kinds]
    simp at hc
    rcases hc with rfl | hc
    · rw [place_kinds _ r _ (by rw [h1]; exact h2), h1]
      obtain ⟨x, hx⟩ := kinds_pre r (addK ks c.lc)
      rw [hx, List.length_append]
      omega
    · exact place_in r (addK ks d.lc) c hc
theorem place_first (f : Lc) (ch : List Cg) : place f (kinds [f] ch) = 0 ∧ 0 < (kinds [f] ch).length := by
  rw [place_kinds f ch [f] (by simp [place])]
  obtain ⟨r, hr⟩ := kinds_pre ch [f]
  rw [hr]
  simp [place]
theorem addK_nil (f : Lc) : addK [] f = [f] := by simp [addK, place]
/- how many bytes -/
theorem body_len : ∀ (ch : List Cg) (ks : List Lc), (body ks ch).length = 7 * ch.length
  | [], ks => rfl
  | c :: r, ks => by simp [body, change, num_len, body_len r]; omega
theorem kindsB_app : ∀ (a b : List Lc), kindsB (a ++ b) = kindsB a ++ kindsB b
  | [], b => rfl
  | x :: a, b => by simp [kindsB, kindsB_app a b, List.append_assoc]
theorem kindB_len (l : Lc) : (kindB l).length = 6 + l.name.length := by simp [kindB, num_len]; omega
theorem bodyK_next {K : List Lc} {ch : List Cg} {i : Nat} {c : Cg} {acc B : Bs} (h : ch[i]? = some c) (hB : B = acc ++ bodyK K (ch.drop i)) : B = (acc ++ change K c) ++ bodyK K (ch.drop (i + 1)) := by
  rw [hB, Tb.drop_get h, List.append_assoc]; rfl
end Go.Proofs.Ytombhnjmelidcaa.Wr
