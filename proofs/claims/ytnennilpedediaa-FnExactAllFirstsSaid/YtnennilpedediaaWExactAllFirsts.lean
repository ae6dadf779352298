/- The walk of FnExactAllFirsts. -/
import Derived.Test.YtnennilpedediaaStrMark
import Derived.Test.YtnennilpedediaaSafirst
import Derived.Test.YtnennilpedediaaIsignE
namespace Go.Proofs.Ytnennilpedediaa
open Go.RowKit
set_option linter.unusedVariables false

set_option maxHeartbeats 2000000 in
theorem fnExactAllFirsts_walk (a0 : Int) (w : World) (h0 : (Lit.int .i64 a0).wf = true) :
    Calls Try.prog 8 #[.int .i64 a0] w fun e w' => e = .returned (.bool true) ∧ Below w.heap.size w w' := by
  have hr : (afW a0).length ≤ 1048576 := Nat.le_trans (len_afW a0) (by decide)
  have B0 := Below.refl w.heap.size w
  go_enter Try.func8, Try.ntmps8
  go_wp2_with fail
  refine (sAllFirsts_any a0 _).mono ?_
  rintro e w1 ⟨A1, c1, rfl, b1, m1, _, _⟩
  have z1 := b1.size
  have B1 : Below w.heap.size w w1 := B0.trans (b1.mono (by omega))
  go_wp2_with fail
  refine (iAllFirsts_any a0 _).mono ?_
  rintro e w2 ⟨A2, c2, rfl, b2, g1, _, _⟩
  have z2 := b2.size
  have B2 : Below w.heap.size w w2 := B1.trans (b2.mono (by omega))
  replace m1 := m1.below b2 (by omega)
  go_wp2_with fail
  refine (eqStringS_same _ _ _ _ _ _ _ _ _ _ g1.row m1 hr).mono ?_
  rintro e w3 ⟨rfl, q3⟩
  have b3 := q3.below w2.heap.size
  have z3 := b3.size
  have B3 : Below w.heap.size w w3 := B2.trans (b3.mono (by omega))
  replace m1 := m1.below b3 (by omega)
  replace g1 := g1.below b3 (by omega)
  go_wp2_with fail
  refine (markStr_any _ _ _ _ _ 1 _ g1 (by omega) hr (by omega) (by omega)).mono ?_
  rintro e w4 ⟨rfl, b4, g1m⟩
  have z4 := b4.size
  have B4 : Below w.heap.size w w4 := B3.trans (b4.below (by omega) (by omega))
  replace m1 := m1.only b4 (by omega) (by omega)
  go_wp2_with fail
  refine (heldStringS_any _ _ _ _ _ 1 _ g1m.row (by omega) hr (by omega) (by omega)).mono ?_
  rintro e w5 ⟨rfl, b5⟩
  have z5 := b5.size
  have B5 : Below w.heap.size w w5 := B4.trans (b5.mono (by omega))
  replace m1 := m1.below b5 (by omega)
  replace g1m := g1m.below b5 (by omega)
  go_wp2_with fail
  refine (iAllFirsts_any a0 _).mono ?_
  rintro e w6 ⟨A3, c3, rfl, b6, g2, _, _⟩
  have z6 := b6.size
  have B6 : Below w.heap.size w w6 := B5.trans (b6.mono (by omega))
  replace m1 := m1.below b6 (by omega)
  replace g1m := g1m.below b6 (by omega)
  go_wp2_with fail
  refine (eqStringS_same _ _ _ _ _ _ _ _ _ _ g2.row m1 hr).mono ?_
  rintro e w7 ⟨rfl, q7⟩
  have b7 := q7.below w6.heap.size
  have z7 := b7.size
  have B7 : Below w.heap.size w w7 := B6.trans (b7.mono (by omega))
  replace m1 := m1.below b7 (by omega)
  replace g1m := g1m.below b7 (by omega)
  replace g2 := g2.below b7 (by omega)
  go_wp2_with fail
  refine (heldStringS_any _ _ _ _ _ 1 _ g1m.row (by omega) hr (by omega) (by omega)).mono ?_
  rintro e w8 ⟨rfl, b8⟩
  have z8 := b8.size
  have B8 : Below w.heap.size w w8 := B7.trans (b8.mono (by omega))
  replace m1 := m1.below b8 (by omega)
  replace g1m := g1m.below b8 (by omega)
  replace g2 := g2.below b8 (by omega)
  go_wp2
  go_ret
  exact ⟨rfl, B8⟩
end Go.Proofs.Ytnennilpedediaa
