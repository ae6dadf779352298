/- FnExactGroupedOk returns true for every table, small or not, and leaves its argument as it was: no condition. -/
import Derived.Test.YthiiniahkfjgmaaFrame
import Derived.Test.YthiiniahkfjgmaaHelp
import Derived.Test.YthiiniahkfjgmaaEq
import Derived.Test.YthiiniahkfjgmaaTab
import Derived.Test.YthiiniahkfjgmaaGrp
import Derived.Test.YthiiniahkfjgmaaSgrp
namespace Go.Proofs.Ythiiniahkfjgmaa
open Go.ChangeShapes Go.WideShapes Go.ChangeAt Go.RowKit Go.Deep
set_option linter.unusedVariables false

set_option maxHeartbeats 1000000 in
theorem exactGroupedOk_walk (A : Option Addr) (c : Nat) (T : List (List Int)) (w : World) (h : Mat w 0 w.heap.size A T) (hS : Sized T) :
    Calls Try.prog 11 #[.slice A T.length c] w fun e w' => e = .returned (.bool true) ∧ Below w.heap.size w w' := by
  by_cases hz : szT T 1048576 < 0
  · go_enter Try.func11, Try.ntmps11
    go_wp2_with (go_at_call 40; refine (szIntSS_any _ _ _ _ _ _ h hS).mono ?_; rintro e w' ⟨rfl, rfl⟩)
    go_ret
    exact ⟨rfl, Below.refl _ _⟩
  · have hs := szT_small (by omega : 0 ≤ szT T 1048576)
    go_enter Try.func11, Try.ntmps11
    go_wp2_with fail
    refine (szIntSS_any _ _ _ _ _ _ h hS).mono ?_
    rintro e w' ⟨rfl, rfl⟩
    go_wp2_with fail
    refine (toIntSS_any _ _ _ _ _ _ h hs (Nat.le_refl _)).mono ?_
    rintro e w1 ⟨rfl, b1, o1⟩
    go_wp2_with fail
    refine (sGroupedOk_any _ _ _ _ _ _ o1.mat hs).mono ?_
    rintro e w2 ⟨rfl, q2⟩
    have b2 := b1.trans (q2.below _)
    go_wp2_with fail
    refine (toIntSS_any _ _ _ _ _ _ (h.below b2 (Nat.le_refl _)) hs b2.size).mono ?_
    rintro e w3 ⟨rfl, b23, o3⟩
    have b3 := b2.trans (b23.mono b2.size)
    go_wp2_with fail
    refine (iGroupedOk_any _ _ _ _ _ _ o3.mat (Nat.le_refl _) hs).mono ?_
    rintro e w4 ⟨rfl, b34⟩
    have b4 := b3.trans (b34.mono b3.size)
    have o4 := o3.below b34 (Nat.le_refl _)
    cases hb : grpT T
    all_goals
      go_wp2_with fail
      refine (toIntSS_any _ _ _ _ _ _ (h.below b4 (Nat.le_refl _)) hs b4.size).mono ?_
      rintro e w5 ⟨rfl, b45, o5⟩
      have b5 := b4.trans (b45.mono b4.size)
      go_wp2_with fail
      refine (eqIntSS_same _ _ _ _ _ _ _ _ _ _ (o4.mat.below b45 b34.size) o5.mat hs).mono ?_
      rintro e w6 ⟨rfl, q6⟩
      go_wp2
      go_ret
      exact ⟨rfl, b5.trans (q6.below _)⟩

set_option maxRecDepth 100000 in
theorem lifted_FnExactGroupedOk (os : Os) (started : os.Started) (H : Type) (enc : TypeId × Value → H) :
    ReturnsInHanded {} Try.checked os 11 .any (Rows.fnExactGroupedOkSpec.pre6 enc Try.prog Try.f11 Rows.fnExactGroupedOkRow.domain false) (Rows.fnExactGroupedOkSpec.post enc Try.prog Try.f11 false true false false) := by
  refine returnsInHanded_of_change (C := Try.checked) own started (by kernel_rfl) Try.func11
    (ChangeSpec.witness6 (enc := enc) (C := Try.checked) false ⟨#[], #[.slice none 0 0], []⟩ 8 (by kernel_rfl) (by kernel_rfl) (by kernel_rfl) (by kernel_rfl)) ?_
  intro W base args ds gs before hval0 hW hcnd _
  have hval : ∀ (j : Nat) t v, Try.f11.params[j]? = some t → args[j]? = some v → Value.okWide Try.prog W .any base t v := hval0
  have hW' := hW
  obtain ⟨p, q, hA0, hV, rfl, hfz, hnd⟩ := hW
  have hA : DataW.TrodAll enc Try.prog W 0 (fun _ => true) true Try.f11.params.toList args.toList ds p := hA0
  rw [Try.params11] at hA hval
  obtain ⟨v0, vs0, d0, ds0, p0, q0, hargs, rfl, rfl, h0, r0⟩ := trodAll_cons hA
  obtain ⟨rfl, rfl, rfl⟩ := trodAll_nil r0
  obtain rfl : args = #[v0] := by cases args; simp_all
  obtain ⟨rfl, rfl⟩ := trodVars_none hV
  obtain ⟨a0, len0, cap0, rfl⟩ := okWide_slice Try.underlying23 (hval 0 23 v0 rfl rfl)
  have k0 := h0
  have lt0 : ∀ x ∈ p0, x.block < W.heap.size := by obtain ⟨m, hm⟩ := k0; exact DataW.trod_lt m _ _ _ hm
  obtain ⟨fuel0, hf0⟩ := h0
  obtain ⟨T0, hl0, hS0, hT0⟩ := open_tab hf0
  subst hl0
  clear hA0 hval0
  refine (exactGroupedOk_walk a0 cap0 T0 W hT0 hS0).mono fun e W' ⟨he, bel⟩ => ?_
  subst he
  exact ⟨_, rfl, _, _, _, [], _, [], hW', trodAll_mk1 (shut_bool Try.underlying4 _), (trodAll_cons_mk (Below.trod laidOut (by kernel_rfl) (of_decide_eq_true (by kernel_rfl)) k0 bel lt0) trodAll_mk0), rfl, bel.frame _, fun h => by cases h⟩

theorem fnExactGroupedOk_holds : Rows.FnExactGroupedOkSaid :=
  OpenClaim.holds_of_wide 11 Try.f11 rfl rfl rfl rfl rfl rfl rfl ⟨rfl, rfl, rfl, rfl, rfl⟩ rfl rfl rfl rfl rfl (by kernel_rfl) Try.func11 (by kernel_rfl)
    (of_decide_eq_true (by kernel_rfl)) (by unfold Func.isWrapper; first | (rw [if_pos (by decide +kernel)]; kernel_rfl) | (rw [if_neg (by decide +kernel)]; exact ⟨rfl, rfl⟩))
    (fun os started H enc _ => lifted_FnExactGroupedOk os started H enc)

#print axioms fnExactGroupedOk_holds
end Go.Proofs.Ythiiniahkfjgmaa
