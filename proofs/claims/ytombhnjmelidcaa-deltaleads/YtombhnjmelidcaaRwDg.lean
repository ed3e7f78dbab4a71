/- Proved: for every three tables, what delta's Diff answers leads by Apply from one to the other, by way of a third one too, and of two that are the same nothing is put (the law DeltaLeads); no condition. -/
import Derived.Test.YtombhnjmelidcaaPdJ
import Derived.Test.YtombhnjmelidcaaOpP
import Derived.Test.YtombhnjmelidcaaOpT
namespace Go.Proofs.Ytombhnjmelidcaa
open Go.ChangeShapes Go.WideShapes Go.ChangeAt Go.RowKit Go.Joins
set_option linter.unusedVariables false

set_option maxRecDepth 100000 in
theorem deltaLeads_lifted (os : Os) (started : os.Started) (H : Type) (enc : TypeId × Value → H) :
    ReturnsInHanded {} Try.checked os 8 .any (Rows.deltaLeadsSpec.pre6 enc Try.prog Try.f8 Rows.deltaLeadsRow.domain false) (Rows.deltaLeadsSpec.post enc Try.prog Try.f8 false true false false) := by
  refine returnsInHanded_of_change (C := Try.checked) own started (by kernel_rfl) Try.func8
    (ChangeSpec.witness6 (enc := enc) (C := Try.checked) false ⟨#[], #[.agg #[.int .i64 0, .int .i64 0, .string ⟨#[]⟩, .slice none 0 0], .agg #[.int .i64 0, .int .i64 0, .string ⟨#[]⟩, .slice none 0 0], .agg #[.int .i64 0, .int .i64 0, .string ⟨#[]⟩, .slice none 0 0]], []⟩ 8 (by kernel_rfl) (by kernel_rfl) (by kernel_rfl) (by kernel_rfl)) ?_
  intro W base args ds gs before hval0 hW hcnd _
  have hval : ∀ (j : Nat) t v, Try.f8.params[j]? = some t → args[j]? = some v → Value.okWide Try.prog W .any base t v := hval0
  have hW' := hW
  obtain ⟨p, q, hA0, hV, rfl, hfz, hnd⟩ := hW
  have hA : DataW.TrodAll enc Try.prog W 0 (fun _ => true) true Try.f8.params.toList args.toList ds p := hA0
  rw [Try.params8] at hA hval
  obtain ⟨v0, v1, v2, d0, d1, d2, p0, p1, p2, rfl, rfl, rfl, h0, h1, h2⟩ := trodAll_three hA
  obtain ⟨rfl, rfl⟩ := trodVars_none hV
  obtain ⟨⟨t0, s0, n0, c0, rfl, r0, k0, m0, z0⟩, lt0⟩ := open_table_arg (hval 0 26 v0 rfl rfl) h0
  obtain ⟨⟨t1, s1, n1, c1, rfl, r1, k1, m1, z1⟩, lt1⟩ := open_table_arg (hval 1 26 v1 rfl rfl) h1
  obtain ⟨⟨t2, s2, n2, c2, rfl, r2, k2, m2, z2⟩, lt2⟩ := open_table_arg (hval 2 26 v2 rfl rfl) h2
  clear hA0 hval0
  refine (deltaLeads_is t0 (.slice s0 n0 c0) t1 (.slice s1 n1 c1) t2 (.slice s2 n2 c2) W (argT_of r0 k0 m0 z0) (argT_of r1 k1 m1 z1) (argT_of r2 k2 m2 z2)).mono fun e W' ⟨he, bel⟩ => ?_
  subst he
  exact ⟨_, rfl, _, _, _, [], _, [], hW', trodAll_mk1 (shut_bool Try.underlying4 _), trodAll_mk3 (table_stays h0 bel lt0) (table_stays h1 bel lt1) (table_stays h2 bel lt2), rfl, bel.frame _, fun h => by cases h⟩

theorem deltaLeads_holds : Rows.DeltaLeadsSaid :=
  OpenClaim.holds_of_wide 8 Try.f8 rfl rfl rfl rfl rfl rfl rfl ⟨rfl, rfl, rfl, rfl, rfl⟩ rfl rfl rfl rfl rfl (by kernel_rfl) Try.func8 (by kernel_rfl)
    (of_decide_eq_true (by kernel_rfl)) (by unfold Func.isWrapper; first | (rw [if_pos (by decide +kernel)]; kernel_rfl) | (rw [if_neg (by decide +kernel)]; exact ⟨rfl, rfl⟩))
    (fun os started H enc _ => deltaLeads_lifted os started H enc)
#print axioms deltaLeads_holds
end Go.Proofs.Ytombhnjmelidcaa
