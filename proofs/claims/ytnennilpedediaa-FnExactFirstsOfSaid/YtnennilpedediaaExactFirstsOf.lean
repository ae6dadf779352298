/- FnExactFirstsOf returns true for every argument, small or not, and leaves its arguments as they were: no condition. -/
import Derived.Test.YtnennilpedediaaFrame
import Derived.Test.YtnennilpedediaaWExactFirstsOf
import Derived.Test.YtnennilpedediaaFit
import Derived.ChangeMaps5
namespace Go.Proofs.Ytnennilpedediaa
open Go.ChangeMaps (open_string shut_string)
open Go.ChangeShapes Go.WideShapes Go.ChangeAt Go.RowKit Go.Deep
set_option linter.unusedVariables false

set_option maxRecDepth 100000 in
theorem lifted_FnExactFirstsOf (os : Os) (started : os.Started) (H : Type) (enc : TypeId × Value → H) :
    ReturnsInHanded {} Try.checked os 7 .any (Rows.fnExactFirstsOfSpec.pre6 enc Try.prog Try.f7 Rows.fnExactFirstsOfRow.domain false) (Rows.fnExactFirstsOfSpec.post enc Try.prog Try.f7 false true false false) := by
  refine returnsInHanded_of_change (C := Try.checked) own started (by kernel_rfl) Try.func7
    (ChangeSpec.witness6 (enc := enc) (C := Try.checked) false ⟨#[], #[.string ⟨#[]⟩], []⟩ 8 (by kernel_rfl) (by kernel_rfl) (by kernel_rfl) (by kernel_rfl)) ?_
  intro W base args ds gs before hval0 hW hcnd _
  have hval : ∀ (j : Nat) t v, Try.f7.params[j]? = some t → args[j]? = some v → Value.okWide Try.prog W .any base t v := hval0
  have hW' := hW
  obtain ⟨p, q, hA0, hV, rfl, hfz, hnd⟩ := hW
  have hA : DataW.TrodAll enc Try.prog W 0 (fun _ => true) true Try.f7.params.toList args.toList ds p := hA0
  rw [Try.params7] at hA hval
  obtain ⟨v0, vs0, d0, ds0, p0, q0, hargs, rfl, rfl, h0, r0⟩ := trodAll_cons hA
  obtain ⟨rfl, rfl, rfl⟩ := trodAll_nil r0
  obtain rfl : args = #[v0] := by cases args; simp_all
  obtain ⟨rfl, rfl⟩ := trodVars_none hV
  obtain ⟨s0, rfl, rfl, rfl, z0⟩ := open_string Try.underlying9 (hval 0 9 v0 rfl rfl) h0
  obtain ⟨u0, rfl⟩ : ∃ u, s0 = bs u := ⟨_, bs_of s0⟩
  clear hA0 hval0
  refine (fnExactFirstsOf_walk u0 W (by rw [size_bs, maxLen_is] at z0; exact z0)).mono fun e W' ⟨he, bel⟩ => ?_
  subst he
  exact ⟨_, rfl, _, _, _, [], _, [], hW', trodAll_mk1 (shut_bool Try.underlying4 _), (trodAll_cons_mk (shut_string Try.underlying9 z0) trodAll_mk0), rfl, bel.frame _, fun h => by cases h⟩

theorem closed_FnExactFirstsOf : joinedFacts Try.pinned.checked.prog 7 Try.f7 Rows.fnExactFirstsOfSpec Rows.fnExactFirstsOfRow = true := by
  unfold joinedFacts
  rw [fit_enter, fit_final, fit_make]
  kernel_rfl

theorem fnExactFirstsOf_holds : Rows.FnExactFirstsOfSaid :=
  OpenClaim.holds_of_wide 7 Try.f7 rfl rfl rfl rfl rfl rfl rfl ⟨rfl, rfl, rfl, rfl, rfl⟩ rfl rfl rfl rfl rfl (by kernel_rfl) Try.func7 closed_FnExactFirstsOf
    (of_decide_eq_true (by kernel_rfl)) (by unfold Func.isWrapper; first | (rw [if_pos (by decide +kernel)]; kernel_rfl) | (rw [if_neg (by decide +kernel)]; exact ⟨rfl, rfl⟩))
    (fun os started H enc _ => lifted_FnExactFirstsOf os started H enc)

#print axioms fnExactFirstsOf_holds
end Go.Proofs.Ytnennilpedediaa
