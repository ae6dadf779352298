/- The walk of FnHighOf. -/
import Derived.Test.YtcegjiiondmchaaEq
import Derived.Test.YtcegjiiondmchaaPureX
import Derived.Test.YtcegjiiondmchaaIband
import Derived.Test.YtcegjiiondmchaaIord
import Derived.Test.YtcegjiiondmchaaSord
import Derived.Test.YtcegjiiondmchaaDrawOrds
import Derived.Test.YtcegjiiondmchaaHighP
import Derived.Test.YtcegjiiondmchaaIrectOk
import Derived.Test.YtcegjiiondmchaaIlev
namespace Go.Proofs.Ytcegjiiondmchaa
open Go.RowKit
set_option linter.unusedVariables false

set_option maxRecDepth 20000 in
set_option maxHeartbeats 8000000 in
theorem fnHighOf_walk (A : Option Addr) (n c : Nat) (w : World) (h : Bytes w w.heap.size A n) (hc : n ≤ c) (hc2 : c ≤ 9223372036854775807) :
    Calls Try.prog 6 #[.slice A n c] w fun e w' => e = .returned (.bool true) ∧ Below w.heap.size w w' := by
  by_cases hn : (1048576 : Int) < (n : Int)
  · go_enter Try.func6, Try.ntmps6
    go_wp2
    go_ret
    exact ⟨rfl, Below.refl _ _⟩
  · go_enter Try.func6, Try.ntmps6
    go_wp2_with fail
    refine (drawHighOf_any A n c w h hc hc2).mono ?_
    rintro e w1 ⟨A1, c1, T, rfl, B1, m1, hS⟩
    have hlT := hS.len
    cases hb : bandT T
    · have HE := hide (highT_not hb)
      go_wp2_with fail
      refine (iHighOf_any _ _ _ _ _  _ m1 (by omega) hS).mono ?_
      rw [HE.out]
      rintro e w2 ⟨rfl, b2⟩
      have B2 := B1.trans (b2.mono B1.size)
      have m2 := m1.below b2 (by omega)
      have z2 := b2.size
      go_wp2_with fail
      refine (sHighOf_any _ _ _ _ _ _ m2 (by omega) hS).mono ?_
      rw [HE.out]
      rintro e w3 ⟨rfl, b3⟩
      have B3 := B2.trans (b3.mono B2.size)
      have m3 := m2.below b3 (by omega)
      have z3 := b3.size
      go_wp2_with fail
      refine (iBandOk_any _ _ _ _ _  _ m3 (by omega) hS).mono ?_
      rw [hb]
      rintro e w4 ⟨rfl, b4⟩
      have B4 := B3.trans (b4.mono B3.size)
      have m4 := m3.below b4 (by omega)
      have z4 := b4.size
      go_wp2_with fail
      refine (alive_any _).mono ?_
      rintro e w5 ⟨rfl, b5⟩
      go_wp2
      go_ret
      exact ⟨rfl, B4.trans (b5.mono B4.size)⟩
    · obtain ⟨v, hv⟩ := hi_ex hb
      have HE := hide (highT_of hb hv)
      have k9 := (band_tab hb).hi
      have n1 := hv.one
      have n2 := hv.levels hb
      have n3 := nL_le T
      have HC := hide (show countT T = ((nL T : Nat) : Int) from by unfold countT; rw [hb]; rfl)
      have fl := hv.flat hb
      have n1i : (1 : Int) ≤ ((v : Nat) : Int) := by omega
      have n2i : ((v : Nat) : Int) ≤ ((nL T : Nat) : Int) := by omega
      have n3i : ¬ ((v : Nat) : Int) < 0 := by omega
      cases hx : rectT T
      all_goals
        have e2 : (((v : Nat) : Int) == 1) = rectT T := by
          rw [Bool.eq_iff_iff, beq_iff_eq, ← fl]; omega
        rw [hx] at e2
        clear fl hv
        go_wp2_with fail
        refine (iHighOf_any _ _ _ _ _  _ m1 (by omega) hS).mono ?_
        rw [HE.out]
        rintro e w2 ⟨rfl, b2⟩
        have B2 := B1.trans (b2.mono B1.size)
        have m2 := m1.below b2 (by omega)
        have z2 := b2.size
        go_wp2_with fail
        refine (sHighOf_any _ _ _ _ _ _ m2 (by omega) hS).mono ?_
        rw [HE.out]
        rintro e w3 ⟨rfl, b3⟩
        have B3 := B2.trans (b3.mono B2.size)
        have m3 := m2.below b3 (by omega)
        have z3 := b3.size
        go_wp2_with fail
        refine (iRectangularOk_any _ _ _ _ _  _ m3 (by omega) hS).mono ?_
        rw [hx]
        rintro e w4 ⟨rfl, b4⟩
        have B4 := B3.trans (b4.mono B3.size)
        have m4 := m3.below b4 (by omega)
        have z4 := b4.size
        go_wp2_with fail
        refine (iCountLevels_any _ _ _ _ _  _ m4 (by omega) hS).mono ?_
        rw [HC.out]
        rintro e w5 ⟨rfl, b5⟩
        have B5 := B4.trans (b5.mono B4.size)
        have m5 := m4.below b5 (by omega)
        have z5 := b5.size
        go_wp2
        go_ret
        exact ⟨rfl, B5⟩

end Go.Proofs.Ytcegjiiondmchaa
