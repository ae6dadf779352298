/- FnTurnedOf returns true for every input, and leaves it as it was: no condition. -/
import Derived.Test.YthiiniahkfjgmaaFrameB
import Derived.Test.YthiiniahkfjgmaaEq
import Derived.Test.YthiiniahkfjgmaaPureT
import Derived.Test.YthiiniahkfjgmaaDrawAll
namespace Go.Proofs.Ythiiniahkfjgmaa
open Go.ChangeShapes Go.WideShapes Go.ChangeAt Go.RowKit Go.Deep
set_option linter.unusedVariables false

set_option maxHeartbeats 2000000 in
theorem fnTurnedOf_walk (A : Option Addr) (n c : Nat) (w : World) (h : Bytes w w.heap.size A n) (hc : n ≤ c) (hc2 : c ≤ 9223372036854775807) :
    Calls Try.prog 6 #[.slice A n c] w fun e w' => e = .returned (.bool true) ∧ Below w.heap.size w w' := by
  by_cases hn : (1048576 : Int) < (n : Int)
  · go_enter Try.func6, Try.ntmps6
    go_wp2
    go_ret
    exact ⟨rfl, Below.refl _ _⟩
  · go_enter Try.func6, Try.ntmps6
    go_wp2_with fail
    refine (drawTurnedOf_any A n c w h hc hc2).mono ?_
    rintro e w1 ⟨A1, c1, T, rfl, B1, m1, hS⟩
    have hT := small_turnT (T := T)
    have hl := hT.len
    go_wp2_with fail
    refine (iTurnedOf_any _ _ _ _ _ _ m1 (Nat.le_refl _) hS).mono ?_
    rintro e w2 ⟨A2, c2, rfl, b2, o2⟩
    have B2 := B1.trans (b2.mono B1.size)
    have m2 := m1.below b2 (Nat.le_refl _)
    go_wp2_with fail
    refine (sTurnedOf_any _ _ _ _ _ _ m2 b2.size hS).mono ?_
    rintro e w3 ⟨A3, c3, rfl, b3, m3⟩
    have B3 := B2.trans (b3.mono B2.size)
    have m2' := m2.below b3 b2.size
    have o2' := o2.below b3 (Nat.le_refl _)
    go_wp2_with fail
    refine (sameRows_same _ _ _ _ _ _ _ _ _ _ o2'.mat m3 hT).mono ?_
    rintro e w4 ⟨rfl, q4⟩
    have B4 := B3.trans (q4.below w.heap.size)
    have m4 := m2'.quiet q4
    have o4 := o2'.quiet q4
    have z4 : w1.heap.size ≤ w4.heap.size := Nat.le_trans b2.size (Nat.le_trans b3.size (q4.below 0).size)
    have z4' : w2.heap.size ≤ w4.heap.size := Nat.le_trans b3.size (q4.below 0).size
    cases hk : okT T
    · have h0 := turnT_nil.2 hk
      have hz : (((turnT T).length : Int) == 0) = true := by simp [h0]
      clear h0
      go_wp2_with fail
      refine (iTableOk_any _ _ _ _ _ _ m4 hS).mono ?_
      rintro e w5 ⟨rfl, rfl⟩
      rw [hk]
      go_wp2_with fail
      refine (alive_any _).mono ?_
      rintro e w5 ⟨rfl, b5⟩
      go_wp2
      go_ret
      exact ⟨rfl, B4.trans (b5.mono B4.size)⟩
    · have h0 : (turnT T).length ≠ 0 := fun e => by rw [turnT_nil.1 e] at hk; cases hk
      have hz : (((turnT T).length : Int) == 0) = false := beq_eq_false_iff_ne.2 (by omega)
      have H2 := hide (turnT_turnT hk)
      clear h0
      go_wp2_with fail
      refine (iTurnedOf_any _ _ _ _ _ _ o4.mat z4' hT).mono ?_
      rw [H2.out]
      rintro e w5 ⟨A5, c5, rfl, b5, o5⟩
      go_wp2_with fail
      refine (sameRows_same _ _ _ _ _ _ _ _ _ _ o5.mat (m4.below b5 z4) hS).mono ?_
      rintro e w6 ⟨rfl, q6⟩
      go_wp2
      go_ret
      exact ⟨rfl, (B4.trans (b5.mono B4.size)).trans (q6.below _)⟩

set_option maxRecDepth 100000 in
theorem lifted_FnTurnedOf (os : Os) (started : os.Started) (H : Type) (enc : TypeId × Value → H) :
    ReturnsInHanded {} Try.checked os 6 .any (Rows.fnTurnedOfSpec.pre6 enc Try.prog Try.f6 Rows.fnTurnedOfRow.domain false) (Rows.fnTurnedOfSpec.post enc Try.prog Try.f6 false true false false) := by
  refine returnsInHanded_of_change (C := Try.checked) own started (by kernel_rfl) Try.func6
    (ChangeSpec.witness6 (enc := enc) (C := Try.checked) false ⟨#[], #[.slice none 0 0], []⟩ 8 (by kernel_rfl) (by kernel_rfl) (by kernel_rfl) (by kernel_rfl)) ?_
  intro W base args ds gs before hval0 hW hcnd _
  have hval : ∀ (j : Nat) t v, Try.f6.params[j]? = some t → args[j]? = some v → Value.okWide Try.prog W .any base t v := hval0
  have hW' := hW
  obtain ⟨p, q, hA0, hV, rfl, hfz, hnd⟩ := hW
  have hA : DataW.TrodAll enc Try.prog W 0 (fun _ => true) true Try.f6.params.toList args.toList ds p := hA0
  rw [Try.params6] at hA hval
  obtain ⟨v0, vs0, d0, ds0, p0, q0, hargs, rfl, rfl, h0, r0⟩ := trodAll_cons hA
  obtain ⟨rfl, rfl, rfl⟩ := trodAll_nil r0
  obtain rfl : args = #[v0] := by cases args; simp_all
  obtain ⟨rfl, rfl⟩ := trodVars_none hV
  obtain ⟨a0, len0, cap0, rfl⟩ := okWide_slice Try.underlying22 (hval 0 22 v0 rfl rfl)
  have k0 := h0
  have lt0 : ∀ x ∈ p0, x.block < W.heap.size := by obtain ⟨m, hm⟩ := k0; exact DataW.trod_lt m _ _ _ hm
  obtain ⟨fuel0, hf0⟩ := h0
  obtain ⟨hl0, hS0, hT0⟩ := open_bytes hf0
  clear hA0 hval0
  refine (fnTurnedOf_walk a0 len0 cap0 W hT0 hl0 hS0).mono fun e W' ⟨he, bel⟩ => ?_
  subst he
  exact ⟨_, rfl, _, _, _, [], _, [], hW', trodAll_mk1 (shut_bool Try.underlying4 _), (trodAll_cons_mk (Below.trod laidOut (by kernel_rfl) (of_decide_eq_true (by kernel_rfl)) k0 bel lt0) trodAll_mk0), rfl, bel.frame _, fun h => by cases h⟩

theorem fnTurnedOf_holds : Rows.FnTurnedOfSaid :=
  OpenClaim.holds_of_wide 6 Try.f6 rfl rfl rfl rfl rfl rfl rfl ⟨rfl, rfl, rfl, rfl, rfl⟩ rfl rfl rfl rfl rfl (by kernel_rfl) Try.func6 (by kernel_rfl)
    (of_decide_eq_true (by kernel_rfl)) (by unfold Func.isWrapper; first | (rw [if_pos (by decide +kernel)]; kernel_rfl) | (rw [if_neg (by decide +kernel)]; exact ⟨rfl, rfl⟩))
    (fun os started H enc _ => lifted_FnTurnedOf os started H enc)

#print axioms fnTurnedOf_holds
end Go.Proofs.Ythiiniahkfjgmaa
