
/- FnFirstOk returns true for every input, and leaves it as it was: no condition. -/
import Derived.Test.YtcegjiiondmchabFrameB
import Derived.Test.YtcegjiiondmchabEq
import Derived.Test.YtcegjiiondmchabIband
import Derived.Test.YtcegjiiondmchabSband
import Derived.Test.YtcegjiiondmchabDrawBands
import Derived.Test.YtcegjiiondmchabPureX
import Derived.Test.YtcegjiiondmchabFit
namespace Go.Proofs.Ytcegjiiondmchab
open Go.ChangeShapes Go.WideShapes Go.ChangeAt Go.RowKit Go.Deep
set_option linter.unusedVariables false

set_option maxRecDepth 20000 in
set_option maxHeartbeats 4000000 in
theorem fnFirstOk_walk (A : Option Addr) (n c : Nat) (w : World) (h : Bytes w w.heap.size A n) (hc : n ≤ c) (hc2 : c ≤ 9223372036854775807) :
    Calls Try.prog 4 #[.slice A n c] w fun e w' => e = .returned (.bool true) ∧ Below w.heap.size w w' := by
  by_cases hn : (1048576 : Int) < (n : Int)
  · go_enter Try.func4, Try.ntmps4
    go_wp2
    go_ret
    exact ⟨rfl, Below.refl _ _⟩
  · go_enter Try.func4, Try.ntmps4
    go_wp2_with fail
    refine (drawFirstOk_any A n c w h hc hc2).mono ?_
    rintro e w1 ⟨A1, c1, T, rfl, B1, m1, hS⟩
    have hlT := hS.len
    go_wp2_with fail
    refine (iFirstOk_any _ _ _ _ _ _ m1 (by omega) hS).mono ?_
    rintro e w2 ⟨rfl, b2⟩
    have B2 := B1.trans (b2.mono B1.size)
    have m2 := m1.below b2 (by omega)
    have z2 := b2.size
    go_wp2_with fail
    refine (sFirstOk_any _ _ _ _ _ _ m2 hS).mono ?_
    rintro e w3 ⟨rfl, q3⟩
    have B3 := B2.trans (q3.below w.heap.size)
    have m3 := m2.quiet q3
    have z3 := q3.below 0 |>.size
    cases hf : firstT T
    · have c9 := (((Below.refl w3.heap.size w3).more (.cells #[.int .i64 0, .int .i64 0] 3)).more (.cells #[.int .i64 1, .int .i64 1] 3)).more (.cells #[.slice (some ⟨w3.heap.size, 0, none⟩) 2 2, .slice (some ⟨w3.heap.size + 1, 0, none⟩) 2 2] 28)
      have l9 := lit2 (W := w3) 0 0 1 1 rfl
      have HLF := hide lit_first
      go_wp2_with fail
      refine (iFirstOk_any _ 2 _ _ [[0, 0], [1, 1]] _ l9 (by simp) (small2 0 0 1 1)).mono ?_
      rw [HLF.out]
      rintro e w9 ⟨rfl, b9⟩
      go_wp2
      go_ret
      exact ⟨rfl, (B3.trans (c9.mono B3.size)).trans (b9.mono (B3.trans (c9.mono B3.size)).size)⟩
    · have hl := first_left hf
      by_cases h1 : T.length = 1
      · have hb : ((T.length : Int) == 1) = true := by simp [h1]
        clear h1
        go_wp2_with fail
        refine (iLeftOk_any _ _ _ _ _ _ m3 (by omega) hS).mono ?_
        rw [hl]
        rintro e w4 ⟨rfl, b4⟩
        have B4 := B3.trans (b4.mono B3.size)
        have m4 := m3.below b4 (by omega)
        have z4 := b4.size
        have c9 := (((Below.refl w4.heap.size w4).more (.cells #[.int .i64 0, .int .i64 0] 3)).more (.cells #[.int .i64 1, .int .i64 1] 3)).more (.cells #[.slice (some ⟨w4.heap.size, 0, none⟩) 2 2, .slice (some ⟨w4.heap.size + 1, 0, none⟩) 2 2] 28)
        have l9 := lit2 (W := w4) 0 0 1 1 rfl
        have HLF := hide lit_first
        go_wp2_with fail
        refine (iFirstOk_any _ 2 _ _ [[0, 0], [1, 1]] _ l9 (by simp) (small2 0 0 1 1)).mono ?_
        rw [HLF.out]
        rintro e w9 ⟨rfl, b9⟩
        go_wp2
        go_ret
        exact ⟨rfl, (B4.trans (c9.mono B4.size)).trans (b9.mono (B4.trans (c9.mono B4.size)).size)⟩
      · have hm := first_meet hf h1
        have hb : ((T.length : Int) == 1) = false := beq_eq_false_iff_ne.2 (by omega)
        clear h1
        go_wp2_with fail
        refine (iLeftOk_any _ _ _ _ _ _ m3 (by omega) hS).mono ?_
        rw [hl]
        rintro e w4 ⟨rfl, b4⟩
        have B4 := B3.trans (b4.mono B3.size)
        have m4 := m3.below b4 (by omega)
        have z4 := b4.size
        go_wp2_with fail
        refine (iMeetingOk_any _ _ _ _ _ _ m4 (by omega) hS).mono ?_
        rw [hm]
        rintro e w5 ⟨rfl, b5⟩
        have B5 := B4.trans (b5.mono B4.size)
        have m5 := m4.below b5 (by omega)
        have z5 := b5.size
        have c9 := (((Below.refl w5.heap.size w5).more (.cells #[.int .i64 0, .int .i64 0] 3)).more (.cells #[.int .i64 1, .int .i64 1] 3)).more (.cells #[.slice (some ⟨w5.heap.size, 0, none⟩) 2 2, .slice (some ⟨w5.heap.size + 1, 0, none⟩) 2 2] 28)
        have l9 := lit2 (W := w5) 0 0 1 1 rfl
        have HLF := hide lit_first
        go_wp2_with fail
        refine (iFirstOk_any _ 2 _ _ [[0, 0], [1, 1]] _ l9 (by simp) (small2 0 0 1 1)).mono ?_
        rw [HLF.out]
        rintro e w9 ⟨rfl, b9⟩
        go_wp2
        go_ret
        exact ⟨rfl, (B5.trans (c9.mono B5.size)).trans (b9.mono (B5.trans (c9.mono B5.size)).size)⟩

set_option maxRecDepth 100000 in
theorem lifted_FnFirstOk (os : Os) (started : os.Started) (H : Type) (enc : TypeId × Value → H) :
    ReturnsInHanded {} Try.checked os 4 .any (Rows.fnFirstOkSpec.pre6 enc Try.prog Try.f4 Rows.fnFirstOkRow.domain false) (Rows.fnFirstOkSpec.post enc Try.prog Try.f4 false true false false) := by
  refine returnsInHanded_of_change (C := Try.checked) own started (by kernel_rfl) Try.func4
    (ChangeSpec.witness6 (enc := enc) (C := Try.checked) false ⟨#[], #[.slice none 0 0], []⟩ 8 (by kernel_rfl) (by kernel_rfl) (by kernel_rfl) (by kernel_rfl)) ?_
  intro W base args ds gs before hval0 hW hcnd _
  have hval : ∀ (j : Nat) t v, Try.f4.params[j]? = some t → args[j]? = some v → Value.okWide Try.prog W .any base t v := hval0
  have hW' := hW
  obtain ⟨p, q, hA0, hV, rfl, hfz, hnd⟩ := hW
  have hA : DataW.TrodAll enc Try.prog W 0 (fun _ => true) true Try.f4.params.toList args.toList ds p := hA0
  rw [Try.params4] at hA hval
  obtain ⟨v0, vs0, d0, ds0, p0, q0, hargs, rfl, rfl, h0, r0⟩ := trodAll_cons hA
  obtain ⟨rfl, rfl, rfl⟩ := trodAll_nil r0
  obtain rfl : args = #[v0] := by cases args; simp_all
  obtain ⟨rfl, rfl⟩ := trodVars_none hV
  obtain ⟨a0, len0, cap0, rfl⟩ := okWide_slice Try.underlying22 (hval 0 22 v0 rfl rfl)
  have k0 := h0
  have lt0 : ∀ x ∈ p0, x.block < W.heap.size := by obtain ⟨m, hm⟩ := k0; exact DataW.trod_lt m _ _ _ hm
  obtain ⟨fuel0, hf0⟩ := h0
  obtain ⟨hl0, hS0, hT0⟩ := open_bytes hf0
  clear hA0 hval0
  refine (fnFirstOk_walk a0 len0 cap0 W hT0 hl0 hS0).mono fun e W' ⟨he, bel⟩ => ?_
  subst he
  exact ⟨_, rfl, _, _, _, [], _, [], hW', trodAll_mk1 (shut_bool Try.underlying4 _), (trodAll_cons_mk (Below.trod laidOut (by kernel_rfl) (of_decide_eq_true (by kernel_rfl)) k0 bel lt0) trodAll_mk0), rfl, bel.frame _, fun h => by cases h⟩

theorem closed_FnFirstOk : joinedFacts Try.pinned.checked.prog 4 Try.f4 Rows.fnFirstOkSpec Rows.fnFirstOkRow = true := by
  unfold joinedFacts
  rw [fit_enter, fit_final, fit_make]
  kernel_rfl

theorem fnFirstOk_holds : Rows.FnFirstOkSaid :=
  OpenClaim.holds_of_wide 4 Try.f4 rfl rfl rfl rfl rfl rfl rfl ⟨rfl, rfl, rfl, rfl, rfl⟩ rfl rfl rfl rfl rfl (by kernel_rfl) Try.func4 closed_FnFirstOk
    (of_decide_eq_true (by kernel_rfl)) (by unfold Func.isWrapper; first | (rw [if_pos (by decide +kernel)]; kernel_rfl) | (rw [if_neg (by decide +kernel)]; exact ⟨rfl, rfl⟩))
    (fun os started H enc _ => lifted_FnFirstOk os started H enc)

#print axioms fnFirstOk_holds
end Go.Proofs.Ytcegjiiondmchab
