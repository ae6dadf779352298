/- The walk of FnExactAlwaysOk. -/
import Derived.Test.YthllbekoidogpaaSidenT
import Derived.Test.YthllbekoidogpaaIiden
namespace Go.Proofs.Ythllbekoidogpaa
open Go.RowKit
set_option linter.unusedVariables false

set_option maxHeartbeats 2000000 in
theorem fnExactAlwaysOk_walk (u0 : List UInt8) (u1 : List UInt8) (w : World) (h0 : u0.length ≤ 9223372036854775807) (h1 : u1.length ≤ 9223372036854775807) :
    Calls Try.prog 12 #[.string (bs u0), .string (bs u1)] w fun e w' => e = .returned (.bool true) ∧ Below w.heap.size w w' := by
  have hsz0 := size_bs u0
  by_cases hz0 : (1048576 : Int) < (u0.length : Int)
  · go_enter Try.func12, Try.ntmps12
    go_wp2
    go_ret
    exact ⟨rfl, Below.refl _ _⟩
  · have hn0 : u0.length ≤ 1048576 := by omega
    have hsz1 := size_bs u1
    by_cases hz1 : (1048576 : Int) < (u1.length : Int)
    · go_enter Try.func12, Try.ntmps12
      go_wp2
      go_ret
      exact ⟨rfl, Below.refl _ _⟩
    · have hn1 : u1.length ≤ 1048576 := by omega
      go_enter Try.func12, Try.ntmps12
      go_wp2_with fail
      refine (sAlwaysOk_any u0 u1 _ hn0 hn1).mono ?_
      rintro e w1 ⟨rfl, q1⟩
      have B1 := q1.below w.heap.size
      have z1 := B1.size
      go_wp2_with fail
      refine (iAlwaysOk_any u0 u1 _ hn0 hn1).mono ?_
      rintro e w2 ⟨rfl, b2⟩
      go_wp2
      go_ret
      exact ⟨rfl, B1.trans (b2.mono z1)⟩

end Go.Proofs.Ythllbekoidogpaa
