
/- Whether a table is a rectangle: the program's. -/
import Derived.Test.YthllbekoidogpaaRectP
import Derived.Test.YthllbekoidogpaaIband
namespace Go.Proofs.Ythllbekoidogpaa
open Go.RowKit
set_option linter.unusedVariables false

set_option maxHeartbeats 1000000 in
theorem iRectangularOk_any (A : Option Addr) (c lo hi : Nat) (T : List (List Int)) (w : World) (h : Mat w lo hi A T) (hh : hi ≤ w.heap.size) (hS : Small T) :
    Calls Try.prog 37 #[.slice A T.length c] w fun e w' => e = .returned (.bool (rectT T)) ∧ Below w.heap.size w w' := by
  go_enter Try.func37, Try.ntmps37
  go_wp2_with fail
  refine (bandKeeping_any A c lo hi _ T kBack _ rRect w h hh hS findBack callBack ruleFBack).mono ?_
  rintro e w1 ⟨rfl, b1⟩
  go_wp2
  go_ret
  exact ⟨rfl, b1⟩
end Go.Proofs.Ythllbekoidogpaa
