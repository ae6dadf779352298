
/- FnRightOk returns true for every input, and leaves it as it was: no condition. -/
import Derived.Test.YtcegjiiondmchabFrameB
import Derived.Test.YtcegjiiondmchabEq
import Derived.Test.YtcegjiiondmchabIband
import Derived.Test.YtcegjiiondmchabSband
import Derived.Test.YtcegjiiondmchabDrawBands
import Derived.Test.YtcegjiiondmchabPureX
import Derived.Test.YtcegjiiondmchabFit
namespace Go.Proofs.Ytcegjiiondmchab
open Go.ChangeShapes Go.WideShapes Go.ChangeAt Go.RowKit Go.Deep
set_option linter.unusedVariables false

set_option maxRecDepth 20000 in
set_option maxHeartbeats 4000000 in
theorem fnRightOk_walk (A : Option Addr) (n c : Nat) (w : World) (h : Bytes w w.heap.size A n) (hc : n ≤ c) (hc2 : c ≤ 9223372036854775807) :
    Calls Try.prog 6 #[.slice A n c] w fun e w' => e = .returned (.bool true) ∧ Below w.heap.size w w' := by
  by_cases hn : (1048576 : Int) < (n : Int)
  · go_enter Try.func6, Try.ntmps6
    go_wp2
    go_ret
    exact ⟨rfl, Below.refl _ _⟩
  · go_enter Try.func6, Try.ntmps6
    go_wp2_with fail
    refine (drawRightOk_any A n c w h hc hc2).mono ?_
    rintro e w1 ⟨A1, c1, T, rfl, B1, m1, hS⟩
    have hlT := hS.len
    go_wp2_with fail
    refine (iRightOk_any _ _ _ _ _ _ m1 (by omega) hS).mono ?_
    rintro e w2 ⟨rfl, b2⟩
    have B2 := B1.trans (b2.mono B1.size)
    have m2 := m1.below b2 (by omega)
    have z2 := b2.size
    go_wp2_with fail
    refine (sRightOk_any _ _ _ _ _ _ m2 (by omega) hS).mono ?_
    rintro e w3 ⟨rfl, b3⟩
    have B3 := B2.trans (b3.mono B2.size)
    have m3 := m2.below b3 (by omega)
    have z3 := b3.size
    cases hk : okT T
    · rw [right_not hk]
      go_wp2_with fail
      refine (iTableOk_any _ _ _ _ _ _ m3 hS).mono ?_
      rintro e w4 ⟨rfl, rfl⟩
      rw [hk]
      go_wp2_with fail
      refine (alive_any _).mono ?_
      rintro e w5 ⟨rfl, b5⟩
      go_wp2
      go_ret
      exact ⟨rfl, B3.trans (b5.mono B3.size)⟩
    · have HR := hide (right_turn hk)
      have hT2 := small_turnT (T := T)
      go_wp2_with fail
      all_goals
        refine (iTableOk_any _ _ _ _ _ _ m3 hS).mono ?_
        rintro e w4 ⟨rfl, rfl⟩
        rw [hk]
        cases hr : rightT T
        all_goals
          go_wp2_with fail
          refine (iTurnedOf_any _ _ _ _ _ _ m3 (by omega) hS).mono ?_
          rintro e w5 ⟨A5, c5, rfl, b5, o5⟩
          have B5 := B3.trans (b5.mono B3.size)
          have m5 := m3.below b5 (by omega)
          have z5 := b5.size
          go_wp2_with fail
          refine (iRightOk_any _ _ _ _ _ _ o5.mat (Nat.le_refl _) hT2).mono ?_
          rw [HR.out]
          rintro e w6 ⟨rfl, b6⟩
          have B6 := B5.trans (b6.mono B5.size)
          have m6 := m5.below b6 (by omega)
          have z6 := b6.size
          go_wp2_with fail
          refine (iLeftOk_any _ _ _ _ _ _ m6 (by omega) hS).mono ?_
          rintro e w7 ⟨rfl, b7⟩
          have B7 := B6.trans (b7.mono B6.size)
          cases hl : leftT T
          all_goals
            go_wp2_with fail
            refine (alive_any _).mono ?_
            rintro e w8 ⟨rfl, b8⟩
            go_wp2
            go_ret
            exact ⟨rfl, B7.trans (b8.mono B7.size)⟩

set_option maxRecDepth 100000 in
theorem lifted_FnRightOk (os : Os) (started : os.Started) (H : Type) (enc : TypeId × Value → H) :
    ReturnsInHanded {} Try.checked os 6 .any (Rows.fnRightOkSpec.pre6 enc Try.prog Try.f6 Rows.fnRightOkRow.domain false) (Rows.fnRightOkSpec.post enc Try.prog Try.f6 false true false false) := by
  refine returnsInHanded_of_change (C := Try.checked) own started (by kernel_rfl) Try.func6
    (ChangeSpec.witness6 (enc := enc) (C := Try.checked) false ⟨#[], #[.slice none 0 0], []⟩ 8 (by kernel_rfl) (by kernel_rfl) (by kernel_rfl) (by kernel_rfl)) ?_
  intro W base args ds gs before hval0 hW hcnd _
  have hval : ∀ (j : Nat) t v, Try.f6.params[j]? = some t → args[j]? = some v → Value.okWide Try.prog W .any base t v := hval0
  have hW' := hW
  obtain ⟨p, q, hA0, hV, rfl, hfz, hnd⟩ := hW
  have hA : DataW.TrodAll enc Try.prog W 0 (fun _ => true) true Try.f6.params.toList args.toList ds p := hA0
  rw [Try.params6] at hA hval
  obtain ⟨v0, vs0, d0, ds0, p0, q0, hargs, rfl, rfl, h0, r0⟩ := trodAll_cons hA
  obtain ⟨rfl, rfl, rfl⟩ := trodAll_nil r0
  obtain rfl : args = #[v0] := by cases args; simp_all
  obtain ⟨rfl, rfl⟩ := trodVars_none hV
  obtain ⟨a0, len0, cap0, rfl⟩ := okWide_slice Try.underlying22 (hval 0 22 v0 rfl rfl)
  have k0 := h0
  have lt0 : ∀ x ∈ p0, x.block < W.heap.size := by obtain ⟨m, hm⟩ := k0; exact DataW.trod_lt m _ _ _ hm
  obtain ⟨fuel0, hf0⟩ := h0
  obtain ⟨hl0, hS0, hT0⟩ := open_bytes hf0
  clear hA0 hval0
  refine (fnRightOk_walk a0 len0 cap0 W hT0 hl0 hS0).mono fun e W' ⟨he, bel⟩ => ?_
  subst he
  exact ⟨_, rfl, _, _, _, [], _, [], hW', trodAll_mk1 (shut_bool Try.underlying4 _), (trodAll_cons_mk (Below.trod laidOut (by kernel_rfl) (of_decide_eq_true (by kernel_rfl)) k0 bel lt0) trodAll_mk0), rfl, bel.frame _, fun h => by cases h⟩

theorem closed_FnRightOk : joinedFacts Try.pinned.checked.prog 6 Try.f6 Rows.fnRightOkSpec Rows.fnRightOkRow = true := by
  unfold joinedFacts
  rw [fit_enter, fit_final, fit_make]
  kernel_rfl

theorem fnRightOk_holds : Rows.FnRightOkSaid :=
  OpenClaim.holds_of_wide 6 Try.f6 rfl rfl rfl rfl rfl rfl rfl ⟨rfl, rfl, rfl, rfl, rfl⟩ rfl rfl rfl rfl rfl (by kernel_rfl) Try.func6 closed_FnRightOk
    (of_decide_eq_true (by kernel_rfl)) (by unfold Func.isWrapper; first | (rw [if_pos (by decide +kernel)]; kernel_rfl) | (rw [if_neg (by decide +kernel)]; exact ⟨rfl, rfl⟩))
    (fun os started H enc _ => lifted_FnRightOk os started H enc)

#print axioms fnRightOk_holds
end Go.Proofs.Ytcegjiiondmchab
