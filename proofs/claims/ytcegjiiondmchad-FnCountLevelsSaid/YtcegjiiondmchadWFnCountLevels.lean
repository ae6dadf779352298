/- The walk of FnCountLevels. -/
import Derived.Test.YtcegjiiondmchadEq
import Derived.Test.YtcegjiiondmchadPureX
import Derived.Test.YtcegjiiondmchadIband
import Derived.Test.YtcegjiiondmchadIlev2
import Derived.Test.YtcegjiiondmchadIrectOk
import Derived.Test.YtcegjiiondmchadDrawLevs
namespace Go.Proofs.Ytcegjiiondmchad
open Go.RowKit
set_option linter.unusedVariables false

set_option maxRecDepth 20000 in
set_option maxHeartbeats 8000000 in
theorem fnCountLevels_walk (A : Option Addr) (n c : Nat) (w : World) (h : Bytes w w.heap.size A n) (hc : n ≤ c) (hc2 : c ≤ 9223372036854775807) :
    Calls Try.prog 4 #[.slice A n c] w fun e w' => e = .returned (.bool true) ∧ Below w.heap.size w w' := by
  by_cases hn : (1048576 : Int) < (n : Int)
  · go_enter Try.func4, Try.ntmps4
    go_wp2
    go_ret
    exact ⟨rfl, Below.refl _ _⟩
  · go_enter Try.func4, Try.ntmps4
    go_wp2_with fail
    refine (drawCountLevels_any A n c w h hc hc2).mono ?_
    rintro e w1 ⟨A1, c1, T, rfl, B1, m1, hS⟩
    have hlT := hS.len
    go_wp2_with fail
    refine (iCountLevels_any _ _ _ _ _ _ m1 (by omega) hS).mono ?_
    rintro e w2 ⟨rfl, b2⟩
    have B2 := B1.trans (b2.mono B1.size)
    have m2 := m1.below b2 (by omega)
    have z2 := b2.size
    go_wp2_with fail
    refine (sCountLevels_any _ _ _ _ _ _ m2 (by omega) hS).mono ?_
    rintro e w3 ⟨rfl, b3⟩
    have B3 := B2.trans (b3.mono B2.size)
    have m3 := m2.below b3 (by omega)
    have z3 := b3.size
    cases hr : bandT T
    · have HR := hide (show countT T = -1 from by unfold countT; rw [hr]; rfl)
      rw [HR.out]
      go_wp2_with fail
      refine (iBandOk_any _ _ _ _ _ _ m3 (by omega) hS).mono ?_
      rw [hr]
      rintro e w4 ⟨rfl, b4⟩
      have B4 := B3.trans (b4.mono B3.size)
      have m4 := m3.below b4 (by omega)
      have z4 := b4.size
      go_wp2_with fail
      refine (alive_any _).mono ?_
      rintro e w5 ⟨rfl, b5⟩
      go_wp2
      go_ret
      exact ⟨rfl, B4.trans (b5.mono B4.size)⟩
    · have HR := hide (show countT T = ((nL T : Nat) : Int) from by unfold countT; rw [hr]; rfl)
      have k9 := (band_tab hr).hi
      have n1 := nL_pos hr
      have n2 := nL_le T
      have i1 := nL_meet hr
      have i2 := nL_rect hr
      rw [HR.out]
      have n1i : (1 : Int) ≤ ((nL T : Nat) : Int) := by omega
      have n2i : ((nL T : Nat) : Int) ≤ (T.length : Int) := by omega
      cases hm : meetT T
      all_goals
        cases hx : rectT T
        all_goals
          have e1 : (((nL T : Nat) : Int) == (T.length : Int)) = meetT T := by
            rw [Bool.eq_iff_iff, beq_iff_eq, ← i1]; omega
          have e2 : (((nL T : Nat) : Int) == 1) = rectT T := by
            rw [Bool.eq_iff_iff, beq_iff_eq, ← i2]; omega
          rw [hm] at e1
          rw [hx] at e2
          clear i1 i2
          go_wp2_with fail
          refine (iMeetingOk_any _ _ _ _ _ _ m3 (by omega) hS).mono ?_
          rw [hm]
          rintro e w4 ⟨rfl, b4⟩
          have B4 := B3.trans (b4.mono B3.size)
          have m4 := m3.below b4 (by omega)
          have z4 := b4.size
          go_wp2_with fail
          refine (iRectangularOk_any _ _ _ _ _ _ m4 (by omega) hS).mono ?_
          rw [hx]
          rintro e w5 ⟨rfl, b5⟩
          have B5 := B4.trans (b5.mono B4.size)
          have m5 := m4.below b5 (by omega)
          have z5 := b5.size
          go_wp2
          go_ret
          exact ⟨rfl, B5⟩

end Go.Proofs.Ytcegjiiondmchad
