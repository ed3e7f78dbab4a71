/- A table that may be handed on; the laws' small table; tableIs; a table's box. -/
import Derived.Test.YtombhnjmelidcaaLcA
import Derived.Test.YtombhnjmelidcaaTbS
import Derived.Test.YtombhnjmelidcaaTbE
namespace Go.Proofs.Ytombhnjmelidcaa
open Go.RowKit Go.Lib
set_option linter.unusedVariables false
set_option linter.unusedSimpArgs false

structure ArgT (w : World) (t : Tb.Tbl) (v : Value) : Prop where
  rd : RdCh w v t.ch
  sized : Tb.Sized t
  caps : ∀ a n c, v = .slice a n c → n ≤ c ∧ c ≤ maxLen
theorem argT_below {w w' : World} {t : Tb.Tbl} {v : Value} (h : ArgT w t v) (hb : Below w.heap.size w w') : ArgT w' t v := ⟨rdCh_below h.rd hb, h.sized, h.caps⟩
theorem argT_own {w : World} {B : Nat} {f : Tb.Lc} {l : List Tb.Cg} {v : Value} (ho : OwnCh w B v l) (hs : Tb.Sized ⟨f, l⟩) : ArgT w ⟨f, l⟩ v := by
  refine ⟨ownCh_rd ho, hs, fun a n c e => ?_⟩
  rcases ho.2 with ⟨rfl, h0⟩ | ⟨g, cap, cur, rfl, _, _, h1, h2, _⟩
  · simp at e; obtain ⟨_, rfl, rfl⟩ := e; exact ⟨Nat.le_refl _, Nat.zero_le _⟩
  · simp at e; obtain ⟨_, rfl, rfl⟩ := e; exact ⟨h1, h2⟩
theorem below_drew (w : World) (B : Nat) : Below B w w.drew := ⟨rfl, rfl, rfl, Nat.le_refl _, fun _ _ => rfl⟩
set_option maxRecDepth 100000 in
set_option maxHeartbeats 2000000 in
theorem tableIs_yes (f g : Tb.Lc) (u v : Value) (l m : List Tb.Cg) (E : Int) (w : World) (hu : RdCh w u l) (hv : RdCh w v m) (hl : l.length ≤ 1000000) (h0 : E = 0 → f = g ∧ l = m) (h1 : E ≠ 0 → f = ⟨0, 0, []⟩ ∧ l = []) :
    Calls Try.prog 15 #[tbV f u, .int .i64 E, .int .i64 E, tbV g v] w fun e w' => e = .returned (.bool true) ∧ Below w.heap.size w w' := by
  by_cases q : E = 0
  · obtain ⟨rfl, rfl⟩ := h0 q
    subst q
    have hb : Below w.heap.size w ((w.alloc (.cells (tbC f u).toArray 26)).alloc (.cells (tbC f v).toArray 26)) := ((Below.refl _ _).alloc (Nat.le_refl _) _).alloc (by simp) _
    have HU := hid (rdCh_below hu hb)
    have HV := hid (rdCh_below hv hb)
    have HB := hid hb
    obtain ⟨ua, ucap, rfl, _⟩ := hu
    obtain ⟨va, vcap, rfl, _⟩ := hv
    clear hb h0 h1
    go_enter Try.func15, Try.ntmps15
    go_wp2_with (go_at_call 16; refine (sameTable_yes f _ _ l _ HU.out HV.out hl).mono ?_; rintro e w1 ⟨rfl, hb1⟩)
    go_ret
    exact ⟨rfl, HB.out.trans (hb1.mono HB.out.size)⟩
  · obtain ⟨rfl, rfl⟩ := h1 q
    have q' : (E != 0) = true := by simp [q]
    clear h0 h1
    obtain ⟨W, hW⟩ : ∃ W, ((w.alloc (.cells (tbC ⟨0, 0, []⟩ u).toArray 26)).alloc (.cells (tbC ⟨0, 0, []⟩ (.slice none 0 0)).toArray 26)) = W := ⟨_, rfl⟩
    have hb : Below w.heap.size w W := by rw [← hW]; exact ((Below.refl _ _).alloc (Nat.le_refl _) _).alloc (by simp) _
    have HU := hid (rdCh_below hu hb)
    have HB := hid hb
    have HW := hid hW
    have HNL : Hid (RdCh W (.slice none 0 0) []) := rd_nil
    obtain ⟨ua, ucap, rfl, _⟩ := hu
    obtain ⟨va, vcap, rfl, _⟩ := hv
    clear hb hW
    go_enter Try.func15, Try.ntmps15
    go_wp2_with fail
    rw [show (w.alloc (.cells #[.int .i64 0, .int .i64 0, .string ⟨#[]⟩, .slice ua 0 ucap] 26)).alloc (.cells #[.int .i64 0, .int .i64 0, .string ⟨#[]⟩, .slice none 0 0] 26) = W from HW.out]
    refine (sameTable_yes ⟨0, 0, []⟩ _ _ [] W HU.out HNL.out (by simp)).mono ?_
    rintro e w1 ⟨rfl, hb1⟩
    go_wp2
    go_ret
    exact ⟨rfl, HB.out.trans (hb1.mono HB.out.size)⟩
set_option maxRecDepth 100000 in
set_option maxHeartbeats 1000000 in
theorem small_arg (w : World) : Calls Try.prog 23 #[] w fun e w' => ∃ b, e = .returned (tbV sm.first (.slice (some ⟨b, 0, none⟩) 2 2)) ∧ ArgT w' sm (.slice (some ⟨b, 0, none⟩) 2 2) ∧ Below w.heap.size w w' := by
  go_enter Try.func23, Try.ntmps23
  go_wp2
  refine bodyPost_ret (v := tbV sm.first (.slice (some ⟨w.heap.size + 1 + 1 + 1, 0, none⟩) 2 2)) (by simp [results, Try.results23, go_sem, sm, smA, *]) rfl ⟨_, rfl, ⟨?_, sm_sized, fun a n c e => by simp at e; obtain ⟨_, rfl, rfl⟩ := e; exact ⟨Nat.le_refl _, by unfold maxLen; decide⟩⟩, ?_⟩
  · have := World.ownsRow_lit (base := 0) (e := 32) (size := 4) (((w.alloc (.cells #[.int .i64 3600, .int .i64 0, .string ⟨#[65]⟩, .slice (some ⟨w.heap.size + 1 + 1 + 1, 0, none⟩) 2 2] 26)).alloc (.cells #[.int .i64 3600, .int .i64 0, .string ⟨#[65]⟩] 23)).alloc (.cells #[.int .i64 7200, .int .i64 3600, .string ⟨#[66]⟩] 23)) #[.int .i64 100, .int .i64 7200, .int .i64 3600, .string ⟨#[66]⟩, .int .i64 90000, .int .i64 3600, .int .i64 0, .string ⟨#[65]⟩] 2 (Nat.zero_le _) (by unfold maxLen; decide) rfl
    simp only [World.size_alloc] at this
    exact own_rd cgCells_len (xs := sm.ch) this
  · exact ((((Below.refl _ _).alloc (Nat.le_refl _) _).alloc (by simp) _).alloc (by simp; omega) _).alloc (by simp; omega) _
abbrev Tb4 (X : Nat) (f : Tb.Lc) (v : Value) (w : World) : Prop :=
  w.cell? ⟨X, 0, none⟩ = some (.int .i64 f.shift) ∧ w.cell? ⟨X, 1, none⟩ = some (.int .i64 f.save) ∧ w.cell? ⟨X, 2, none⟩ = some (strV f.name) ∧ w.cell? ⟨X, 3, none⟩ = some v
theorem tb4_kept {X : Nat} {f : Tb.Lc} {v : Value} {w w' : World} (h : Tb4 X f v w) (e : ∀ o, w'.cell? ⟨X, o, none⟩ = w.cell? ⟨X, o, none⟩) : Tb4 X f v w' := ⟨(e _).trans h.1, (e _).trans h.2.1, (e _).trans h.2.2.1, (e _).trans h.2.2.2⟩
theorem tb4_alloc {X : Nat} {f : Tb.Lc} {v : Value} {w : World} (h : Tb4 X f v w) (hs : X < w.heap.size) (o : Obj) : Tb4 X f v (w.alloc o) := tb4_kept h fun _ => World.cell?_of_block (Below.heap_alloc _ _ _ hs)
theorem tb4_set {X q o : Nat} {f : Tb.Lc} {v u : Value} {w : World} (h : Tb4 X f v w) (hq : X < q) : Tb4 X f v (w.setCell ⟨q, o, none⟩ u) := tb4_kept h fun _ => World.cell?_of_block (Below.heap_setCell _ _ _ _ (by show X ≠ q; omega))
theorem tb4_of {X : Nat} {f : Tb.Lc} {v : Value} {w : World} (h : CellsAt w X (tbC f v)) : Tb4 X f v w := ⟨(ca_at h 0 rfl).1, (ca_at h 1 rfl).1, (ca_at h 2 rfl).1, (ca_at h 3 rfl).1⟩
/- behind a call from a world on -/
theorem tb4_arm {X : Nat} {f : Tb.Lc} {v : Value} {V W w3 : World} (hc : CellsAt V X (tbC f v)) (hV : Below V.heap.size V W) (hb : Below W.heap.size W w3) : Below V.heap.size V w3 ∧ Tb4 X f v w3 ∧ X < w3.heap.size :=
  ⟨hV.trans (hb.mono hV.size), tb4_of (ca_below hc (hV.trans (hb.mono hV.size))), (ca_below hc (hV.trans (hb.mono hV.size))).1⟩
theorem argT_of {W : World} {t : Tb.Tbl} {a : Option Addr} {n cap : Nat} (r : RdCh W (.slice a n cap) t.ch) (k : n ≤ cap) (m : cap ≤ maxLen) (z : Tb.Sized t) : ArgT W t (.slice a n cap) :=
  ⟨r, z, fun a' n' c' e => by simp at e; obtain ⟨_, rfl, rfl⟩ := e; exact ⟨k, m⟩⟩
end Go.Proofs.Ytombhnjmelidcaa
