/- The walk of FnSidesOf. -/
import Derived.Test.YtcegjiiondmchacEq
import Derived.Test.YtcegjiiondmchacPureX
import Derived.Test.YtcegjiiondmchacIband
import Derived.Test.YtcegjiiondmchacIrect
import Derived.Test.YtcegjiiondmchacDrawRects
namespace Go.Proofs.Ytcegjiiondmchac
open Go.RowKit
set_option linter.unusedVariables false

set_option maxRecDepth 20000 in
set_option maxHeartbeats 8000000 in
theorem fnSidesOf_walk (A : Option Addr) (n c : Nat) (w : World) (h : Bytes w w.heap.size A n) (hc : n ≤ c) (hc2 : c ≤ 9223372036854775807) :
    Calls Try.prog 7 #[.slice A n c] w fun e w' => e = .returned (.bool true) ∧ Below w.heap.size w w' := by
  by_cases hn : (1048576 : Int) < (n : Int)
  · go_enter Try.func7, Try.ntmps7
    go_wp2
    go_ret
    exact ⟨rfl, Below.refl _ _⟩
  · go_enter Try.func7, Try.ntmps7
    go_wp2_with fail
    refine (drawSidesOf_any A n c w h hc hc2).mono ?_
    rintro e w1 ⟨A1, c1, T, rfl, B1, m1, hS⟩
    have hlT := hS.len
    go_wp2_with fail
    refine (iSidesOf_any _ _ _ _ _ _ m1 (by omega) hS).mono ?_
    rintro e w2 ⟨rfl, b2⟩
    have B2 := B1.trans (b2.mono B1.size)
    have m2 := m1.below b2 (by omega)
    have z2 := b2.size
    go_wp2_with fail
    refine (sSidesOf_any _ _ _ _ _ _ m2 (by omega) hS).mono ?_
    rintro e w3 ⟨rfl, b3⟩
    have B3 := B2.trans (b3.mono B2.size)
    have m3 := m2.below b3 (by omega)
    have z3 := b3.size
    cases hr : rectT T
    · have HR := hide (show sidesR T = -1 from by unfold sidesR; rw [hr]; rfl)
      have HC := hide (show sidesC T = -1 from by unfold sidesC; rw [hr]; rfl)
      rw [HR.out, HC.out]
      go_wp2_with fail
      refine (alive_any _).mono ?_
      rintro e w5 ⟨rfl, b5⟩
      go_wp2
      go_ret
      exact ⟨rfl, B3.trans (b5.mono B3.size)⟩
    · have HR := hide (show sidesR T = (nR T : Nat) from by unfold sidesR; rw [hr]; rfl)
      have HC := hide (show sidesC T = (nC T : Nat) from by unfold sidesC; rw [hr]; rfl)
      have ho := rect_ok hr
      have hrt := rect_turn hr
      have HR2 := hide (show sidesR (turnT T) = (nC T : Nat) from by unfold sidesR; rw [hrt, nC_turn ho]; rfl)
      have HC2 := hide (show sidesC (turnT T) = (nR T : Nat) from by unfold sidesC; rw [hrt, nR_turn ho]; rfl)
      have HT2 := hide hrt
      have hT2 := small_turnT (T := T)
      have k9 := (rect_tab hr).hi
      have n1 : nR T ≤ 9 := Nat.le_trans (ct_le_ _ _) k9
      have n2 : nC T ≤ 9 := Nat.le_trans (ct_le_ _ _) k9
      have hmul : ((nR T : Nat) : Int) * ((nC T : Nat) : Int) = (T.length : Int) := by rw [← Int.natCast_mul, rect_count hr]
      obtain ⟨y0, y1⟩ := mulB (by omega : (0 : Int) ≤ ((nR T : Nat) : Int)) (by omega) (by omega : (0 : Int) ≤ ((nC T : Nat) : Int)) (by omega)
      have HM := hide hmul
      clear hrt hmul
      rw [HR.out, HC.out]
      go_wp2_with fail
      refine (iTurnedOf_any _ _ _ _ _ _ m3 (by omega) hS).mono ?_
      rintro e w5 ⟨A5, c5, rfl, b5, o5⟩
      have B5 := B3.trans (b5.mono B3.size)
      have hmul := HM.out
      go_wp2_with fail
      refine (iSidesOf_any _ _ _ _ _ _ o5.mat (Nat.le_refl _) hT2).mono ?_
      rw [HR2.out, HC2.out, HT2.out]
      rintro e w6 ⟨rfl, b6⟩
      go_wp2
      go_ret
      exact ⟨rfl, B5.trans (b6.mono B5.size)⟩

end Go.Proofs.Ytcegjiiondmchac
