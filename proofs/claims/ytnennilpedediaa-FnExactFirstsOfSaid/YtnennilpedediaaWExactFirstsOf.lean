/- The walk of FnExactFirstsOf. -/
import Derived.Test.YtnennilpedediaaSsignT
import Derived.Test.YtnennilpedediaaIsignD
namespace Go.Proofs.Ytnennilpedediaa
open Go.RowKit
set_option linter.unusedVariables false

set_option maxHeartbeats 2000000 in
theorem fnExactFirstsOf_walk (u0 : List UInt8) (w : World) (h0 : u0.length ≤ 9223372036854775807) :
    Calls Try.prog 7 #[.string (bs u0)] w fun e w' => e = .returned (.bool true) ∧ Below w.heap.size w w' := by
  have hsz0 := size_bs u0
  by_cases hz0 : (1048576 : Int) < (u0.length : Int)
  · go_enter Try.func7, Try.ntmps7
    go_wp2
    go_ret
    exact ⟨rfl, Below.refl _ _⟩
  · have hn0 : u0.length ≤ 1048576 := by omega
    go_enter Try.func7, Try.ntmps7
    go_wp2_with fail
    refine (sFirstsOf_any u0 _ hn0).mono ?_
    rintro e w1 ⟨rfl, q1⟩
    have B1 := q1.below w.heap.size
    have z1 := B1.size
    go_wp2_with fail
    refine (iFirstsOf_any u0 _ hn0).mono ?_
    rintro e w2 ⟨rfl, b2⟩
    go_wp2
    go_ret
    exact ⟨rfl, B1.trans (b2.mono z1)⟩

end Go.Proofs.Ytnennilpedediaa
