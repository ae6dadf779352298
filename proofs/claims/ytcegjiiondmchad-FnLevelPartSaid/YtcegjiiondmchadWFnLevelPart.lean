/- The walk of FnLevelPart. -/
import Derived.Test.YtcegjiiondmchadEq
import Derived.Test.YtcegjiiondmchadPureX
import Derived.Test.YtcegjiiondmchadIband
import Derived.Test.YtcegjiiondmchadIlev5
import Derived.Test.YtcegjiiondmchadDrawLevs
namespace Go.Proofs.Ytcegjiiondmchad
open Go.RowKit
set_option linter.unusedVariables false

set_option maxRecDepth 20000 in
set_option maxHeartbeats 8000000 in
theorem fnLevelPart_walk (A : Option Addr) (n c : Nat) (w : World) (h : Bytes w w.heap.size A n) (hc : n ≤ c) (hc2 : c ≤ 9223372036854775807) :
    Calls Try.prog 7 #[.slice A n c] w fun e w' => e = .returned (.bool true) ∧ Below w.heap.size w w' := by
  by_cases hn : (1048576 : Int) < (n : Int)
  · go_enter Try.func7, Try.ntmps7
    go_wp2
    go_ret
    exact ⟨rfl, Below.refl _ _⟩
  · go_enter Try.func7, Try.ntmps7
    go_wp2_with fail
    refine (drawLevelPart_any A n c w h hc hc2).mono ?_
    rintro e w1 ⟨A1, c1, T, z, rfl, B1, m1, hS⟩
    have hlT := hS.len
    have hr := small_levP (T := T) (l := z)
    have hlr := hr.len
    go_wp2_with fail
    refine (iLevelPart_any _ _ _ _ _ _ w1 m1 (Nat.le_refl _) hS).mono ?_
    rintro e w2 ⟨A2, c2, rfl, b2, o2⟩
    have B2 := B1.trans (b2.mono B1.size)
    have m2 := m1.below b2 (Nat.le_refl _)
    have z2 := b2.size
    go_wp2_with fail
    refine (sLevelPart_any _ _ _ _ _ _ w2 m2 (by omega) hS).mono ?_
    rintro e w3 ⟨A3, c3, rfl, b3, o3⟩
    have B3 := B2.trans (b3.mono B2.size)
    have m3 := m2.below b3 (by omega)
    have g3 := o2.below b3 (Nat.le_refl _)
    have z3 := b3.size
    go_wp2_with fail
    refine (sameRows_same _ _ _ _ _ _ _ _ _ _ g3.mat o3 hr).mono ?_
    rintro e w4 ⟨rfl, q4⟩
    have B4 := B3.trans (q4.below w.heap.size)
    have m4 := m3.quiet q4
    have g4 := g3.quiet q4
    have z4 := q4.below 0 |>.size
    clear m1 m2 m3 g3 o2 o3 b2 b3 q4 B1 B2 B3
    rcases levS_or T z with ⟨es, _⟩ | ⟨v, rfl, hb, hv, es, kP⟩
    · have h0 : (levP T z).length = 0 := by rw [levP_not es]; rfl
      have hz : (((levP T z).length : Int) == 0) = true := by simp [h0]
      clear h0
      go_wp2_with fail
      refine (sLevelSet_any _ _ _ _ _ _ w4 m4 (by omega) hS).mono ?_
      rw [es]
      rintro e w5 ⟨rfl, b5⟩
      have B5 := B4.trans (b5.mono B4.size)
      go_wp2_with fail
      refine (alive_any _).mono ?_
      rintro e w6 ⟨rfl, b6⟩
      go_wp2
      go_ret
      exact ⟨rfl, B5.trans (b6.mono B5.size)⟩
    · have hl : (levP T v).length = (thk (levB T v) 9).length := by rw [levP_ok hb hv, len_part kP]
      have hp := kP.pos
      have hz : (((levP T v).length : Int) == 0) = false := beq_eq_false_iff_ne.2 (by omega)
      have hx : rectT (levP T v) = true := by rw [levP_ok hb hv]; exact rect_levP hb hv
      clear hl hp
      go_wp2_with fail
      refine (iRectangularOk_any _ _ _ _ _ w4 g4.mat (by omega) hr).mono ?_
      rw [hx]
      rintro e w5 ⟨rfl, b5⟩
      have B5 := B4.trans (b5.mono B4.size)
      have m5 := m4.below b5 (by omega)
      have z5 := b5.size
      go_wp2_with fail
      refine (iBandOk_any _ _ _ _ _ _ m5 (by omega) hS).mono ?_
      rw [hb]
      rintro e w6 ⟨rfl, b6⟩
      have B6 := B5.trans (b6.mono B5.size)
      have m6 := m5.below b6 (by omega)
      have z6 := b6.size
      go_wp2
      go_ret
      exact ⟨rfl, B6⟩

end Go.Proofs.Ytcegjiiondmchad
