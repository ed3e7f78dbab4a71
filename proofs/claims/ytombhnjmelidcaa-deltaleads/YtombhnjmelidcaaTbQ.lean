/- The contract of the document's SamePatch, at what is the same. -/
import Derived.Test.YtombhnjmelidcaaTbS
import Derived.Test.YtombhnjmelidcaaTbE
namespace Go.Proofs.Ytombhnjmelidcaa
open Go.RowKit
set_option linter.unusedVariables false
set_option linter.unusedSimpArgs false

set_option maxRecDepth 100000 in
set_option maxHeartbeats 2000000 in
theorem samePatch_yes (f : Tb.Lc) (H T : Int) (u v : Value) (l : List Tb.Cg) (w : World) (hu : RdCh w u l) (hv : RdCh w v l) (hl : l.length ≤ 1000000) :
    Calls Try.prog 22 #[ptV f H T u, ptV f H T v] w fun e w' => e = .returned (.bool true) ∧ Below w.heap.size w w' := by
  have hb : Below w.heap.size w ((w.alloc (.cells (ptC f H T u).toArray 42)).alloc (.cells (ptC f H T v).toArray 42)) := ((Below.refl _ _).alloc (Nat.le_refl _) _).alloc (by simp) _
  have HU := hid (rdCh_below hu hb)
  have HV := hid (rdCh_below hv hb)
  have HB := hid hb
  obtain ⟨ua, ucap, rfl, _⟩ := hu
  obtain ⟨va, vcap, rfl, _⟩ := hv
  clear hb
  go_enter Try.func22, Try.ntmps22
  go_wp2_with (go_at_call 16; refine (sameTable_yes f _ _ l _ HU.out HV.out hl).mono ?_; rintro e w1 ⟨rfl, hb1⟩)
  go_ret
  exact ⟨rfl, HB.out.trans (hb1.mono HB.out.size)⟩
end Go.Proofs.Ytombhnjmelidcaa
