/- The walk of FnExactWordOk. -/
import Derived.Test.YtjpdfkmlcjkcmaaSword
import Derived.Test.YtjpdfkmlcjkcmaaIword
namespace Go.Proofs.Ytjpdfkmlcjkcmaa
open Go.RowKit
set_option linter.unusedVariables false

set_option maxHeartbeats 2000000 in
theorem fnExactWordOk_walk (u0 : List UInt8) (w : World) (h0 : u0.length ≤ 9223372036854775807) :
    Calls Try.prog 9 #[.string (bs u0)] w fun e w' => e = .returned (.bool true) ∧ Below w.heap.size w w' := by
  have hsz := size_bs u0
  by_cases hz : (1048576 : Int) < (u0.length : Int)
  · go_enter Try.func9, Try.ntmps9
    go_wp2
    go_ret
    exact ⟨rfl, Below.refl _ _⟩
  · have hn : u0.length ≤ 1048576 := by omega
    go_enter Try.func9, Try.ntmps9
    go_wp2_with fail
    refine (sWordOk_any u0 _ hn).mono ?_
    rintro e w1 ⟨rfl, rfl⟩
    have B1 := Below.refl w.heap.size w
    have z1 := B1.size
    go_wp2_with fail
    refine (iWordOk_any u0 _ hn).mono ?_
    rintro e w2 ⟨rfl, b2⟩
    go_wp2
    go_ret
    exact ⟨rfl, B1.trans (b2.mono z1)⟩

end Go.Proofs.Ytjpdfkmlcjkcmaa
