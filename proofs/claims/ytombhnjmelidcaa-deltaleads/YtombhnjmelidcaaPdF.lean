/- What may be handed to delta's calls; tableIs; the small tables. -/
import Derived.Test.YtombhnjmelidcaaPdE
import Derived.Test.YtombhnjmelidcaaTbR
import Derived.Test.YtombhnjmelidcaaTbQ
import Derived.Test.YtombhnjmelidcaaLcA
namespace Go.Proofs.Ytombhnjmelidcaa
open Go.RowKit Go.Lib
set_option linter.unusedVariables false
set_option linter.unusedSimpArgs false

structure ArgT (w : World) (t : Tb.Tbl) (v : Value) : Prop where
  rd : RdCh w v t.ch
  sized : Tb.Sized t
  caps : ∀ a n c, v = .slice a n c → n ≤ c ∧ c ≤ maxLen
structure ArgP (w : World) (p : Tb.Pt) (v : Value) : Prop where
  rd : RdCh w v p.put
  len : p.put.length ≤ maxLen
  first : p.first.name.length ≤ maxLen
  names : ∀ c ∈ p.put, c.lc.name.length ≤ maxLen
  nums : ∀ k : Int, k = p.head ∨ k = p.tail → -9223372036854775808 ≤ k ∧ k ≤ 9223372036854775807
theorem argT_below {w w' : World} {t : Tb.Tbl} {v : Value} (h : ArgT w t v) (hb : Below w.heap.size w w') : ArgT w' t v := ⟨rdCh_below h.rd hb, h.sized, h.caps⟩
theorem argP_below {w w' : World} {p : Tb.Pt} {v : Value} (h : ArgP w p v) (hb : Below w.heap.size w w') : ArgP w' p v := ⟨rdCh_below h.rd hb, h.len, h.first, h.names, h.nums⟩
theorem argT_own {w : World} {B : Nat} {f : Tb.Lc} {l : List Tb.Cg} {v : Value} (ho : OwnCh w B v l) (hs : Tb.Sized ⟨f, l⟩) : ArgT w ⟨f, l⟩ v := by
  refine ⟨ownCh_rd ho, hs, fun a n c e => ?_⟩
  rcases ho.2 with ⟨rfl, h0⟩ | ⟨g, cap, cur, rfl, _, _, h1, h2, _⟩
  · simp at e; obtain ⟨_, rfl, rfl⟩ := e; exact ⟨Nat.le_refl _, Nat.zero_le _⟩
  · simp at e; obtain ⟨_, rfl, rfl⟩ := e; exact ⟨h1, h2⟩
theorem argP_diff {w : World} {B : Nat} {t u : Tb.Tbl} {p : Tb.Pt} {v : Value} (ho : OwnCh w B v p.put) (hd : Tb.IsDiff t u p) (hs : Tb.Sized u) (hl : t.ch.length ≤ 1000) : ArgP w p v := by
  obtain ⟨a, b, c, d, e, f⟩ := Tb.diff_fits hd
  exact ⟨ownCh_rd ho, Nat.le_trans e hs.ch, by rw [hd.first]; exact hs.first, fun c hc => hs.names c (f c hc), fun k hk => by rcases hk with rfl | rfl <;> omega⟩
theorem pDiff' {w : World} {t u : Tb.Tbl} {v v' : Value} (h : ArgT w t v) (h' : ArgT w u v') : Calls Try.prog 19 #[tbV t.first v, tbV u.first v'] w (DiffEnd t u w) := pDiff_any t u v v' w h.rd h'.rd h.sized h'.sized h.caps h'.caps
theorem pApply' {w : World} {t : Tb.Tbl} {p : Tb.Pt} {v v' : Value} (h : ArgT w t v) (h' : ArgP w p v') : Calls Try.prog 18 #[tbV t.first v, ptV p.first p.head p.tail v'] w (PApplyEnd t p w) := pApply_any t p v v' w h.rd h'.rd h.caps h.sized h'.len h'.first h'.names h'.nums

set_option maxRecDepth 100000 in
set_option maxHeartbeats 2000000 in
theorem tableIs_yes (f g : Tb.Lc) (u v : Value) (l m : List Tb.Cg) (E : Int) (w : World) (hu : RdCh w u l) (hv : RdCh w v m) (hl : l.length ≤ 1000000) (h0 : E = 0 → f = g ∧ l = m) (h1 : E ≠ 0 → f = ⟨0, 0, []⟩ ∧ l = []) :
    Calls Try.prog 15 #[tbV f u, .int .i64 E, .int .i64 E, tbV g v] w fun e w' => e = .returned (.bool true) ∧ Below w.heap.size w w' := by
  by_cases q : E = 0
  · obtain ⟨rfl, rfl⟩ := h0 q
    subst q
    have hb : Below w.heap.size w ((w.alloc (.cells (tbC f u).toArray 26)).alloc (.cells (tbC f v).toArray 26)) := ((Below.refl _ _).alloc (Nat.le_refl _) _).alloc (by simp) _
    have HU := hid (rdCh_below hu hb)
    have HV := hid (rdCh_below hv hb)
    have HB := hid hb
    obtain ⟨ua, ucap, rfl, _⟩ := hu
    obtain ⟨va, vcap, rfl, _⟩ := hv
    clear hb h0 h1
    go_enter Try.func15, Try.ntmps15
    go_wp2_with (go_at_call 16; refine (sameTable_yes f _ _ l _ HU.out HV.out hl).mono ?_; rintro e w1 ⟨rfl, hb1⟩)
    go_ret
    exact ⟨rfl, HB.out.trans (hb1.mono HB.out.size)⟩
  · obtain ⟨rfl, rfl⟩ := h1 q
    have q' : (E != 0) = true := by simp [q]
    clear h0 h1
    obtain ⟨W, hW⟩ : ∃ W, ((w.alloc (.cells (tbC ⟨0, 0, []⟩ u).toArray 26)).alloc (.cells (tbC ⟨0, 0, []⟩ (.slice none 0 0)).toArray 26)) = W := ⟨_, rfl⟩
    have hb : Below w.heap.size w W := by rw [← hW]; exact ((Below.refl _ _).alloc (Nat.le_refl _) _).alloc (by simp) _
    have HU := hid (rdCh_below hu hb)
    have HB := hid hb
    have HW := hid hW
    have HNL : Hid (RdCh W (.slice none 0 0) []) := rd_nil
    obtain ⟨ua, ucap, rfl, _⟩ := hu
    obtain ⟨va, vcap, rfl, _⟩ := hv
    clear hb hW
    go_enter Try.func15, Try.ntmps15
    go_wp2_with fail
    rw [show (w.alloc (.cells #[.int .i64 0, .int .i64 0, .string ⟨#[]⟩, .slice ua 0 ucap] 26)).alloc (.cells #[.int .i64 0, .int .i64 0, .string ⟨#[]⟩, .slice none 0 0] 26) = W from HW.out]
    refine (sameTable_yes ⟨0, 0, []⟩ _ _ [] W HU.out HNL.out (by simp)).mono ?_
    rintro e w1 ⟨rfl, hb1⟩
    go_wp2
    go_ret
    exact ⟨rfl, HB.out.trans (hb1.mono HB.out.size)⟩
/- the smaller small table -/
def smu : Tb.Tbl := ⟨smA, [⟨100, smB⟩]⟩
theorem smu_good : Tb.tableE smu = 0 := by decide
theorem smu_sized : Tb.Sized smu := ⟨by unfold maxLen; decide, by unfold maxLen; decide, by intro c hc; unfold maxLen; simp [smu, smB] at hc; subst hc; decide⟩
theorem sm_diff : Tb.IsDiff sm smu ⟨smA, 1, 0, []⟩ := by
  refine ⟨rfl, 1, 0, rfl, rfl, ⟨by decide, by decide, fun i hi => ?_, fun _ q => absurd q (by decide)⟩, ⟨by decide, by decide, fun i hi => by omega, fun _ q => absurd q (by decide)⟩, rfl⟩
  have : i = 0 := by omega
  subst this
  rfl
set_option maxRecDepth 100000 in
set_option maxHeartbeats 1000000 in
theorem small_arg (w : World) : Calls Try.prog 23 #[] w fun e w' => ∃ b, e = .returned (tbV sm.first (.slice (some ⟨b, 0, none⟩) 2 2)) ∧ ArgT w' sm (.slice (some ⟨b, 0, none⟩) 2 2) ∧ Below w.heap.size w w' := by
  go_enter Try.func23, Try.ntmps23
  go_wp2
  refine bodyPost_ret (v := tbV sm.first (.slice (some ⟨w.heap.size + 1 + 1 + 1, 0, none⟩) 2 2)) (by simp [results, Try.results23, go_sem, sm, smA, *]) rfl ⟨_, rfl, ⟨?_, sm_sized, fun a n c e => by simp at e; obtain ⟨_, rfl, rfl⟩ := e; exact ⟨Nat.le_refl _, by unfold maxLen; decide⟩⟩, ?_⟩
  · have := World.ownsRow_lit (base := 0) (e := 32) (size := 4) (((w.alloc (.cells #[.int .i64 3600, .int .i64 0, .string ⟨#[65]⟩, .slice (some ⟨w.heap.size + 1 + 1 + 1, 0, none⟩) 2 2] 26)).alloc (.cells #[.int .i64 3600, .int .i64 0, .string ⟨#[65]⟩] 23)).alloc (.cells #[.int .i64 7200, .int .i64 3600, .string ⟨#[66]⟩] 23)) #[.int .i64 100, .int .i64 7200, .int .i64 3600, .string ⟨#[66]⟩, .int .i64 90000, .int .i64 3600, .int .i64 0, .string ⟨#[65]⟩] 2 (Nat.zero_le _) (by unfold maxLen; decide) rfl
    simp only [World.size_alloc] at this
    exact own_rd cgCells_len (xs := sm.ch) this
  · exact ((((Below.refl _ _).alloc (Nat.le_refl _) _).alloc (by simp) _).alloc (by simp; omega) _).alloc (by simp; omega) _
theorem smu_arg {w : World} {b : Nat} (h : ArgT w sm (.slice (some ⟨b, 0, none⟩) 2 2)) : ArgT w smu (.slice (some ⟨b, 0, none⟩) 1 2) :=
  ⟨rdCh_take (c' := 2) (l := sm.ch) h.rd 1 (by decide), smu_sized, fun a n c e => by simp at e; obtain ⟨_, rfl, rfl⟩ := e; exact ⟨by decide, by unfold maxLen; decide⟩⟩
end Go.Proofs.Ytombhnjmelidcaa
