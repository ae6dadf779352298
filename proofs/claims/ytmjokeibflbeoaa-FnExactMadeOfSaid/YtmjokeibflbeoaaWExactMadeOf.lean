/- The walk of FnExactMadeOf. -/
import Derived.Test.YtmjokeibflbeoaaSsame
import Derived.Test.YtmjokeibflbeoaaIsame
namespace Go.Proofs.Ytmjokeibflbeoaa
open Go.RowKit
set_option linter.unusedVariables false

set_option maxHeartbeats 2000000 in
theorem fnExactMadeOf_walk (u0 : List UInt8) (w : World) (h0 : u0.length ≤ 9223372036854775807) :
    Calls Try.prog 8 #[.string (bs u0)] w fun e w' => e = .returned (.bool true) ∧ Below w.heap.size w w' := by
  have hsz0 := size_bs u0
  by_cases hz0 : (1048576 : Int) < (u0.length : Int)
  · go_enter Try.func8, Try.ntmps8
    go_wp2
    go_ret
    exact ⟨rfl, Below.refl _ _⟩
  · have hn0 : u0.length ≤ 1048576 := by omega
    go_enter Try.func8, Try.ntmps8
    go_wp2_with fail
    refine (sMadeOf_any u0 _ hn0).mono ?_
    rintro e w1 ⟨rfl, q1⟩
    have B1 := q1.below w.heap.size
    have z1 := B1.size
    go_wp2_with fail
    refine (iMadeOf_any u0 _ hn0).mono ?_
    rintro e w2 ⟨rfl, b2⟩
    go_wp2
    go_ret
    exact ⟨rfl, B1.trans (b2.mono z1)⟩

end Go.Proofs.Ytmjokeibflbeoaa
