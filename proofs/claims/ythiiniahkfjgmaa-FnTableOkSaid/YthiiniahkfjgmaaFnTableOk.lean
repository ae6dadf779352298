/- FnTableOk returns true for every input, and leaves it as it was: no condition. -/
import Derived.Test.YthiiniahkfjgmaaFrameB
import Derived.Test.YthiiniahkfjgmaaEq
import Derived.Test.YthiiniahkfjgmaaPureT
import Derived.Test.YthiiniahkfjgmaaDrawAll
namespace Go.Proofs.Ythiiniahkfjgmaa
open Go.ChangeShapes Go.WideShapes Go.ChangeAt Go.RowKit Go.Deep
set_option linter.unusedVariables false

set_option maxHeartbeats 2000000 in
theorem fnTableOk_walk (A : Option Addr) (n c : Nat) (w : World) (h : Bytes w w.heap.size A n) (hc : n ≤ c) (hc2 : c ≤ 9223372036854775807) :
    Calls Try.prog 3 #[.slice A n c] w fun e w' => e = .returned (.bool true) ∧ Below w.heap.size w w' := by
  by_cases hn : (1048576 : Int) < (n : Int)
  · go_enter Try.func3, Try.ntmps3
    go_wp2
    go_ret
    exact ⟨rfl, Below.refl _ _⟩
  · go_enter Try.func3, Try.ntmps3
    go_wp2_with fail
    refine (drawTableOk_any A n c w h hc hc2).mono ?_
    rintro e w1 ⟨A1, c1, T, rfl, B1, m1, hS⟩
    go_wp2_with fail
    refine (iTableOk_any _ _ _ _ _ _ m1 hS).mono ?_
    rintro e w2 ⟨rfl, rfl⟩
    go_wp2_with fail
    refine (sTableOk_any _ _ _ _ _ _ m1 hS).mono ?_
    rintro e w2 ⟨rfl, rfl⟩
    have b2 := ((Below.refl w1.heap.size w1).more (.cells #[.int .i64 0] 3)).more (.cells #[.slice (some ⟨w1.heap.size, 0, none⟩) 1 1] 26)
    have B2 := B1.trans (b2.mono B1.size)
    have m2 := m1.below b2 (Nat.le_refl _)
    have l1 := lit1 (W := w1) 0 rfl
    cases hk : okT T
    · go_wp2_with fail
      refine (iTableOk_any _ 1 _ _ [[0]] _ l1 (small1 0)).mono ?_
      rintro e w2 ⟨rfl, rfl⟩
      rw [show okT [[0]] = true from by decide]
      go_wp2_with fail
      refine (alive_any _).mono ?_
      rintro e w5 ⟨rfl, b5⟩
      go_wp2
      go_ret
      exact ⟨rfl, B2.trans (b5.mono B2.size)⟩
    · have hk2 := okT_iff.2 (isT_turnT hk)
      go_wp2_with fail
      refine (iTableOk_any _ 1 _ _ [[0]] _ l1 (small1 0)).mono ?_
      rintro e w2 ⟨rfl, rfl⟩
      rw [show okT [[0]] = true from by decide]
      go_wp2_with fail
      refine (iTurnedOf_any _ _ _ _ _ _ m2 b2.size hS).mono ?_
      rintro e w3 ⟨A3, c3, rfl, b3, o3⟩
      have B3 := B2.trans (b3.mono B2.size)
      go_wp2_with fail
      refine (iTableOk_any _ _ _ _ _ _ o3.mat small_turnT).mono ?_
      rintro e w4 ⟨rfl, rfl⟩
      rw [hk2]
      go_wp2_with fail
      refine (alive_any _).mono ?_
      rintro e w5 ⟨rfl, b5⟩
      go_wp2
      go_ret
      exact ⟨rfl, B3.trans (b5.mono B3.size)⟩

set_option maxRecDepth 100000 in
theorem lifted_FnTableOk (os : Os) (started : os.Started) (H : Type) (enc : TypeId × Value → H) :
    ReturnsInHanded {} Try.checked os 3 .any (Rows.fnTableOkSpec.pre6 enc Try.prog Try.f3 Rows.fnTableOkRow.domain false) (Rows.fnTableOkSpec.post enc Try.prog Try.f3 false true false false) := by
  refine returnsInHanded_of_change (C := Try.checked) own started (by kernel_rfl) Try.func3
    (ChangeSpec.witness6 (enc := enc) (C := Try.checked) false ⟨#[], #[.slice none 0 0], []⟩ 8 (by kernel_rfl) (by kernel_rfl) (by kernel_rfl) (by kernel_rfl)) ?_
  intro W base args ds gs before hval0 hW hcnd _
  have hval : ∀ (j : Nat) t v, Try.f3.params[j]? = some t → args[j]? = some v → Value.okWide Try.prog W .any base t v := hval0
  have hW' := hW
  obtain ⟨p, q, hA0, hV, rfl, hfz, hnd⟩ := hW
  have hA : DataW.TrodAll enc Try.prog W 0 (fun _ => true) true Try.f3.params.toList args.toList ds p := hA0
  rw [Try.params3] at hA hval
  obtain ⟨v0, vs0, d0, ds0, p0, q0, hargs, rfl, rfl, h0, r0⟩ := trodAll_cons hA
  obtain ⟨rfl, rfl, rfl⟩ := trodAll_nil r0
  obtain rfl : args = #[v0] := by cases args; simp_all
  obtain ⟨rfl, rfl⟩ := trodVars_none hV
  obtain ⟨a0, len0, cap0, rfl⟩ := okWide_slice Try.underlying22 (hval 0 22 v0 rfl rfl)
  have k0 := h0
  have lt0 : ∀ x ∈ p0, x.block < W.heap.size := by obtain ⟨m, hm⟩ := k0; exact DataW.trod_lt m _ _ _ hm
  obtain ⟨fuel0, hf0⟩ := h0
  obtain ⟨hl0, hS0, hT0⟩ := open_bytes hf0
  clear hA0 hval0
  refine (fnTableOk_walk a0 len0 cap0 W hT0 hl0 hS0).mono fun e W' ⟨he, bel⟩ => ?_
  subst he
  exact ⟨_, rfl, _, _, _, [], _, [], hW', trodAll_mk1 (shut_bool Try.underlying4 _), (trodAll_cons_mk (Below.trod laidOut (by kernel_rfl) (of_decide_eq_true (by kernel_rfl)) k0 bel lt0) trodAll_mk0), rfl, bel.frame _, fun h => by cases h⟩

theorem fnTableOk_holds : Rows.FnTableOkSaid :=
  OpenClaim.holds_of_wide 3 Try.f3 rfl rfl rfl rfl rfl rfl rfl ⟨rfl, rfl, rfl, rfl, rfl⟩ rfl rfl rfl rfl rfl (by kernel_rfl) Try.func3 (by kernel_rfl)
    (of_decide_eq_true (by kernel_rfl)) (by unfold Func.isWrapper; first | (rw [if_pos (by decide +kernel)]; kernel_rfl) | (rw [if_neg (by decide +kernel)]; exact ⟨rfl, rfl⟩))
    (fun os started H enc _ => lifted_FnTableOk os started H enc)

#print axioms fnTableOk_holds
end Go.Proofs.Ythiiniahkfjgmaa
