
/- FnExactRightOk returns true for every table, small or not, and leaves its argument as it was: no condition. -/
import Derived.Test.YtcegjiiondmchabFrame
import Derived.Test.YtcegjiiondmchabHelp
import Derived.Test.YtcegjiiondmchabEq
import Derived.Test.YtcegjiiondmchabTab
import Derived.Test.YtcegjiiondmchabSband
import Derived.Test.YtcegjiiondmchabIband
import Derived.Test.YtcegjiiondmchabFit
namespace Go.Proofs.Ytcegjiiondmchab
open Go.ChangeShapes Go.WideShapes Go.ChangeAt Go.RowKit Go.Deep
set_option linter.unusedVariables false

set_option maxHeartbeats 2000000 in
theorem fnExactRightOk_walk (A0 : Option Addr) (c0 : Nat) (T0 : List (List Int)) (w : World) (h0 : Mat w 0 w.heap.size A0 T0) (hS0 : Sized T0) :
    Calls Try.prog 12 #[.slice A0 T0.length c0] w fun e w' => e = .returned (.bool true) ∧ Below w.heap.size w w' := by
  by_cases hz : szT T0 1048576 < 0
  · go_enter Try.func12, Try.ntmps12
    go_wp2_with (go_at_call 40; refine (szIntSS_any _ _ _ _ _ _ h0 hS0).mono ?_; rintro e w' ⟨rfl, rfl⟩)
    go_ret
    exact ⟨rfl, Below.refl _ _⟩
  · have hs0 := szT_small (by omega : 0 ≤ szT T0 1048576)
    have r3 := hs0.len
    have B0 := Below.refl w.heap.size w
    go_enter Try.func12, Try.ntmps12
    go_wp2_with fail
    refine (szIntSS_any _ _ _ _ _ _ h0 hS0).mono ?_
    rintro e w_ ⟨rfl, rfl⟩
    go_wp2_with fail
    refine (toIntSS_any _ _ _ _ _ _ (h0.below B0 (Nat.le_refl _)) hs0 (by omega)).mono ?_
    rintro e w1 ⟨rfl, b1, o1⟩
    have z1 := b1.size
    have B1 : Below w.heap.size w w1 := B0.trans (b1.mono (by omega))
    go_wp2_with fail
    refine (sRightOk_any _ _ _ _ _ _ o1.mat (by omega) hs0).mono ?_
    rintro e w2 ⟨rfl, b2⟩
    have z2 := b2.size
    have B2 : Below w.heap.size w w2 := B1.trans (b2.mono (by omega))
    replace o1 := o1.below b2 (by omega)
    go_wp2_with fail
    refine (toIntSS_any _ _ _ _ _ _ (h0.below B2 (Nat.le_refl _)) hs0 (by omega)).mono ?_
    rintro e w3 ⟨rfl, b3, o2⟩
    have z3 := b3.size
    have B3 : Below w.heap.size w w3 := B2.trans (b3.mono (by omega))
    replace o1 := o1.below b3 (by omega)
    go_wp2_with fail
    refine (iRightOk_any _ _ _ _ _ _ o2.mat (by omega) hs0).mono ?_
    rintro e w4 ⟨rfl, b4⟩
    have z4 := b4.size
    have B4 : Below w.heap.size w w4 := B3.trans (b4.mono (by omega))
    replace o1 := o1.below b4 (by omega)
    replace o2 := o2.below b4 (by omega)
    cases hb : rightT T0
    all_goals
      go_wp2_with fail
      refine (toIntSS_any _ _ _ _ _ _ (h0.below B4 (Nat.le_refl _)) hs0 (by omega)).mono ?_
      rintro e w5 ⟨rfl, b5, o3⟩
      have z5 := b5.size
      have B5 : Below w.heap.size w w5 := B4.trans (b5.mono (by omega))
      replace o1 := o1.below b5 (by omega)
      replace o2 := o2.below b5 (by omega)
      go_wp2_with fail
      refine (eqIntSS_same _ _ _ _ _ _ _ _ _ _ o2.mat o3.mat hs0).mono ?_
      rintro e w6 ⟨rfl, q6⟩
      have b6 := q6.below w5.heap.size
      have z6 := b6.size
      have B6 : Below w.heap.size w w6 := B5.trans (b6.mono (by omega))
      replace o1 := o1.below b6 (by omega)
      replace o2 := o2.below b6 (by omega)
      replace o3 := o3.below b6 (by omega)
      go_wp2
      go_ret
      exact ⟨rfl, B6⟩

set_option maxRecDepth 100000 in
theorem lifted_FnExactRightOk (os : Os) (started : os.Started) (H : Type) (enc : TypeId × Value → H) :
    ReturnsInHanded {} Try.checked os 12 .any (Rows.fnExactRightOkSpec.pre6 enc Try.prog Try.f12 Rows.fnExactRightOkRow.domain false) (Rows.fnExactRightOkSpec.post enc Try.prog Try.f12 false true false false) := by
  refine returnsInHanded_of_change (C := Try.checked) own started (by kernel_rfl) Try.func12
    (ChangeSpec.witness6 (enc := enc) (C := Try.checked) false ⟨#[], #[.slice none 0 0], []⟩ 8 (by kernel_rfl) (by kernel_rfl) (by kernel_rfl) (by kernel_rfl)) ?_
  intro W base args ds gs before hval0 hW hcnd _
  have hval : ∀ (j : Nat) t v, Try.f12.params[j]? = some t → args[j]? = some v → Value.okWide Try.prog W .any base t v := hval0
  have hW' := hW
  obtain ⟨p, q, hA0, hV, rfl, hfz, hnd⟩ := hW
  have hA : DataW.TrodAll enc Try.prog W 0 (fun _ => true) true Try.f12.params.toList args.toList ds p := hA0
  rw [Try.params12] at hA hval
  obtain ⟨v0, vs0, d0, ds0, p0, q0, hargs, rfl, rfl, h0, r0⟩ := trodAll_cons hA
  obtain ⟨rfl, rfl, rfl⟩ := trodAll_nil r0
  obtain rfl : args = #[v0] := by cases args; simp_all
  obtain ⟨rfl, rfl⟩ := trodVars_none hV
  obtain ⟨a0, len0, cap0, rfl⟩ := okWide_slice Try.underlying23 (hval 0 23 v0 rfl rfl)
  have k0 := h0
  have lt0 : ∀ x ∈ p0, x.block < W.heap.size := by obtain ⟨m, hm⟩ := k0; exact DataW.trod_lt m _ _ _ hm
  obtain ⟨fuel0, hf0⟩ := h0
  obtain ⟨T0, hl0, hS0, hT0⟩ := open_tab hf0
  subst hl0
  clear hA0 hval0
  refine (fnExactRightOk_walk a0 cap0 T0 W hT0 hS0).mono fun e W' ⟨he, bel⟩ => ?_
  subst he
  exact ⟨_, rfl, _, _, _, [], _, [], hW', trodAll_mk1 (shut_bool Try.underlying4 _), (trodAll_cons_mk (Below.trod laidOut (by kernel_rfl) (of_decide_eq_true (by kernel_rfl)) k0 bel lt0) trodAll_mk0), rfl, bel.frame _, fun h => by cases h⟩

theorem closed_FnExactRightOk : joinedFacts Try.pinned.checked.prog 12 Try.f12 Rows.fnExactRightOkSpec Rows.fnExactRightOkRow = true := by
  unfold joinedFacts
  rw [fit_enter, fit_final, fit_make]
  kernel_rfl

theorem fnExactRightOk_holds : Rows.FnExactRightOkSaid :=
  OpenClaim.holds_of_wide 12 Try.f12 rfl rfl rfl rfl rfl rfl rfl ⟨rfl, rfl, rfl, rfl, rfl⟩ rfl rfl rfl rfl rfl (by kernel_rfl) Try.func12 closed_FnExactRightOk
    (of_decide_eq_true (by kernel_rfl)) (by unfold Func.isWrapper; first | (rw [if_pos (by decide +kernel)]; kernel_rfl) | (rw [if_neg (by decide +kernel)]; exact ⟨rfl, rfl⟩))
    (fun os started H enc _ => lifted_FnExactRightOk os started H enc)

#print axioms fnExactRightOk_holds
end Go.Proofs.Ytcegjiiondmchab
