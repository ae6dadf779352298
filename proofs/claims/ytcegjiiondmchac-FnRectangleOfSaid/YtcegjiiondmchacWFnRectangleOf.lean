/- The walk of FnRectangleOf. -/
import Derived.Test.YtcegjiiondmchacEq
import Derived.Test.YtcegjiiondmchacPureX
import Derived.Test.YtcegjiiondmchacIband
import Derived.Test.YtcegjiiondmchacIrect
import Derived.Test.YtcegjiiondmchacDrawRects
namespace Go.Proofs.Ytcegjiiondmchac
open Go.RowKit
set_option linter.unusedVariables false

set_option maxRecDepth 20000 in
set_option maxHeartbeats 8000000 in
theorem fnRectangleOf_walk (A : Option Addr) (n c : Nat) (w : World) (h : Bytes w w.heap.size A n) (hc : n ≤ c) (hc2 : c ≤ 9223372036854775807) :
    Calls Try.prog 3 #[.slice A n c] w fun e w' => e = .returned (.bool true) ∧ Below w.heap.size w w' := by
  by_cases hn : (1048576 : Int) < (n : Int)
  · go_enter Try.func3, Try.ntmps3
    go_wp2
    go_ret
    exact ⟨rfl, Below.refl _ _⟩
  · go_enter Try.func3, Try.ntmps3
    go_wp2_with fail
    refine (drawRectangleOf_any A n c w h hc hc2).mono ?_
    rintro e w1 ⟨a, b, rfl, B1, ha9, hb9⟩
    have hr := small_rectOf (r := ((a : Nat) : Int)) (c := ((b : Nat) : Int))
    have hlr := hr.len
    go_wp2_with fail
    refine (iRectangleOf_any _ _ w1).mono ?_
    rintro e w2 ⟨A2, c2, rfl, b2, o2⟩
    have B2 := B1.trans (b2.mono B1.size)
    have z2 := b2.size
    go_wp2_with fail
    refine (sRectangleOf_any _ _ w2).mono ?_
    rintro e w3 ⟨A3, c3, rfl, b3, o3⟩
    have B3 := B2.trans (b3.mono B2.size)
    have g3 := o2.below b3 (Nat.le_refl _)
    have z3 := b3.size
    go_wp2_with fail
    refine (sameRows_same _ _ _ _ _ _ _ _ _ _ g3.mat o3 hr).mono ?_
    rintro e w4 ⟨rfl, q4⟩
    have B4 := B3.trans (q4.below w.heap.size)
    have g4 := g3.quiet q4
    have z4 := q4.below 0 |>.size
    cases hcan : canR ((a : Nat) : Int) ((b : Nat) : Int)
    · have h0 : (rectOf ((a : Nat) : Int) ((b : Nat) : Int)).length = 0 := by rw [rectOf_not hcan]; rfl
      have hz : (((rectOf ((a : Nat) : Int) ((b : Nat) : Int)).length : Int) == 0) = true := by simp [h0]
      clear h0
      go_wp2_with fail
      refine (alive_any _).mono ?_
      rintro e w5 ⟨rfl, b5⟩
      go_wp2
      go_ret
      exact ⟨rfl, B4.trans (b5.mono B4.size)⟩
    · have hcan2 : canR ((b : Nat) : Int) ((a : Nat) : Int) = true := by rw [canR_comm]; exact hcan
      have hrr := rect_rectOf hcan
      have hrr2 := rect_rectOf hcan2
      have ho2 := rect_ok hrr2
      have HRR := hide hrr
      have HR1 := hide (show sidesR (rectOf ((a : Nat) : Int) ((b : Nat) : Int)) = (a : Nat) from by unfold sidesR; rw [hrr, nR_rectOf hcan]; rfl)
      have HC1 := hide (show sidesC (rectOf ((a : Nat) : Int) ((b : Nat) : Int)) = (b : Nat) from by unfold sidesC; rw [hrr, nC_rectOf hcan]; rfl)
      have HRR3 := hide (rect_turn hrr2)
      have HR3 := hide (show sidesR (turnT (rectOf ((b : Nat) : Int) ((a : Nat) : Int))) = (a : Nat) from by unfold sidesR; rw [rect_turn hrr2, ← nC_turn ho2, nC_rectOf hcan2]; rfl)
      have HC3 := hide (show sidesC (turnT (rectOf ((b : Nat) : Int) ((a : Nat) : Int))) = (b : Nat) from by unfold sidesC; rw [rect_turn hrr2, nR_turn ho2, nR_rectOf hcan2]; rfl)
      have HCAN2 := hide hcan2
      have HF := hide (show b = 1 → firstT (rectOf ((a : Nat) : Int) ((b : Nat) : Int)) = true from fun e => first_rectOf hcan e)
      have hb1 : 1 ≤ b := (canR_nat hcan).2.2.1
      clear hrr hrr2 ho2 hcan2 hcan
      go_wp2_with fail
      refine (iSidesOf_any _ _ _ _ _ _ g4.mat (by omega) hr).mono ?_
      rw [HR1.out, HC1.out, HRR.out]
      rintro e w5 ⟨rfl, b5⟩
      have B5 := B4.trans (b5.mono B4.size)
      have g5 := g4.below b5 (by omega)
      have z5 := b5.size
      go_wp2_with fail
      refine (iRectangleOf_any _ _ w5).mono ?_
      rw [HCAN2.out]
      rintro e w6 ⟨A6, c6, rfl, b6, o6⟩
      have B6 := B5.trans (b6.mono B5.size)
      have g6 := g5.below b6 (by omega)
      have z6 := b6.size
      go_wp2_with fail
      refine (iTurnedOf_any _ _ _ _ _ _ o6.mat (Nat.le_refl _) small_rectOf).mono ?_
      rintro e w7 ⟨A7, c7, rfl, b7, o7⟩
      have B7 := B6.trans (b7.mono B6.size)
      have g7 := g6.below b7 (by omega)
      have z7 := b7.size
      go_wp2_with fail
      refine (iSidesOf_any _ _ _ _ _ _ o7.mat (Nat.le_refl _) small_turnT).mono ?_
      rw [HR3.out, HC3.out, HRR3.out]
      rintro e w8 ⟨rfl, b8⟩
      have B8 := B7.trans (b8.mono B7.size)
      have g8 := g7.below b8 (by omega)
      have z8 := b8.size
      by_cases hb : 1 < b
      · have hbi : (1 : Int) < (b : Int) := by omega
        go_wp2_with fail
        refine (iRectangularOk_any _ _ _ _ _ _ g8.mat (by omega) hr).mono ?_
        rw [HRR.out]
        rintro e w9 ⟨rfl, b9⟩
        go_wp2
        go_ret
        exact ⟨rfl, B8.trans (b9.mono B8.size)⟩
      · have hbi : ¬ (1 : Int) < (b : Int) := by omega
        have HFF := hide (HF.out (by omega))
        go_wp2_with fail
        refine (iRectangularOk_any _ _ _ _ _ _ g8.mat (by omega) hr).mono ?_
        rw [HRR.out]
        rintro e w9 ⟨rfl, b9⟩
        have B9 := B8.trans (b9.mono B8.size)
        have g9 := g8.below b9 (by omega)
        have z9 := b9.size
        go_wp2_with fail
        refine (iFirstOk_any _ _ _ _ _ _ g9.mat (by omega) hr).mono ?_
        rw [HFF.out]
        rintro e w10 ⟨rfl, b10⟩
        go_wp2
        go_ret
        exact ⟨rfl, B9.trans (b10.mono B9.size)⟩

end Go.Proofs.Ytcegjiiondmchac
