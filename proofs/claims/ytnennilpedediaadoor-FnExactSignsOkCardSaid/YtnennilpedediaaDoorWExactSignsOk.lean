/- The walk of FnExactSignsOk. -/
import Derived.Test.YtnennilpedediaaDoorSsignT
import Derived.Test.YtnennilpedediaaDoorIsignB
namespace Go.Proofs.YtnennilpedediaaDoor
open Go.RowKit
set_option linter.unusedVariables false

set_option maxHeartbeats 2000000 in
theorem fnExactSignsOk_walk (u0 : List UInt8) (w : World) (h0 : u0.length ≤ 9223372036854775807) :
    Calls Tryd.prog 6 #[.string (bs u0)] w fun e w' => e = .returned (.bool true) ∧ Below w.heap.size w w' := by
  have hsz0 := size_bs u0
  by_cases hz0 : (1048576 : Int) < (u0.length : Int)
  · go_enter Tryd.func6, Tryd.ntmps6
    go_wp2
    go_ret
    exact ⟨rfl, Below.refl _ _⟩
  · have hn0 : u0.length ≤ 1048576 := by omega
    go_enter Tryd.func6, Tryd.ntmps6
    go_wp2_with fail
    refine (sSignsOk_any u0 _ hn0).mono ?_
    rintro e w1 ⟨rfl, rfl⟩
    have B1 := Below.refl w.heap.size w
    have z1 := B1.size
    go_wp2_with fail
    refine (iSignsOk_any u0 _ hn0).mono ?_
    rintro e w2 ⟨rfl, b2⟩
    go_wp2
    go_ret
    exact ⟨rfl, B1.trans (b2.mono z1)⟩

end Go.Proofs.YtnennilpedediaaDoor
