/- The walk of FnExactSignTable. -/
import Derived.Test.YtnennilpedediaaHelp
import Derived.Test.YtnennilpedediaaEq
import Derived.Test.YtnennilpedediaaMark
import Derived.Test.YtnennilpedediaaSsignT
import Derived.Test.YtnennilpedediaaIsignC
namespace Go.Proofs.Ytnennilpedediaa
open Go.RowKit
set_option linter.unusedVariables false

set_option maxHeartbeats 2000000 in
theorem fnExactSignTable_walk (a0 : Int) (w : World) (h0 : (Lit.int .i64 a0).wf = true) :
    Calls Try.prog 6 #[.int .i64 a0] w fun e w' => e = .returned (.bool true) ∧ Below w.heap.size w w' := by
  have hr := small_sgT a0
  have r0 := off_le hr _ (Nat.le_refl _)
  have r2 := hr.len
  have B0 := Below.refl w.heap.size w
  go_enter Try.func6, Try.ntmps6
  go_wp2_with fail
  refine (sSignTable_any a0 _).mono ?_
  rintro e w1 ⟨A1, c1, rfl, b1, m1⟩
  have z1 := b1.size
  have B1 : Below w.heap.size w w1 := B0.trans (b1.mono (by omega))
  go_wp2_with fail
  refine (iSignTable_any a0 _).mono ?_
  rintro e w2 ⟨A2, c2, rfl, b2, g1⟩
  have z2 := b2.size
  have B2 : Below w.heap.size w w2 := B1.trans (b2.mono (by omega))
  replace m1 := m1.below b2 (by omega)
  go_wp2_with fail
  refine (eqIntSS_same _ _ _ _ _ _ _ _ _ _ g1.mat m1 hr).mono ?_
  rintro e w3 ⟨rfl, q3⟩
  have b3 := q3.below w2.heap.size
  have z3 := b3.size
  have B3 : Below w.heap.size w w3 := B2.trans (b3.mono (by omega))
  replace m1 := m1.below b3 (by omega)
  replace g1 := g1.below b3 (by omega)
  go_wp2_with fail
  refine (markIntSS_any _ _ _ _ _ _ g1 (by omega) hr 1 (by omega) (by omega)).mono ?_
  rintro e w4 ⟨rfl, b4, g1m⟩
  have z4 := b4.size
  have B4 : Below w.heap.size w w4 := B3.trans (b4.below (by omega) (by omega))
  replace m1 := m1.only b4 (by omega) (by omega)
  go_wp2_with fail
  refine (heldIntSS_any _ _ _ _ _ _ _ g1m.mat hr (by omega) (by omega)).mono ?_
  rintro e w_ ⟨rfl, rfl⟩
  go_wp2_with fail
  refine (iSignTable_any a0 _).mono ?_
  rintro e w5 ⟨A3, c3, rfl, b5, g2⟩
  have z5 := b5.size
  have B5 : Below w.heap.size w w5 := B4.trans (b5.mono (by omega))
  replace m1 := m1.below b5 (by omega)
  replace g1m := g1m.below b5 (by omega)
  go_wp2_with fail
  refine (eqIntSS_same _ _ _ _ _ _ _ _ _ _ g2.mat m1 hr).mono ?_
  rintro e w6 ⟨rfl, q6⟩
  have b6 := q6.below w5.heap.size
  have z6 := b6.size
  have B6 : Below w.heap.size w w6 := B5.trans (b6.mono (by omega))
  replace m1 := m1.below b6 (by omega)
  replace g1m := g1m.below b6 (by omega)
  replace g2 := g2.below b6 (by omega)
  go_wp2_with fail
  refine (heldIntSS_any _ _ _ _ _ _ _ g1m.mat hr (by omega) (by omega)).mono ?_
  rintro e w_ ⟨rfl, rfl⟩
  go_wp2
  go_ret
  exact ⟨rfl, B6⟩
end Go.Proofs.Ytnennilpedediaa
