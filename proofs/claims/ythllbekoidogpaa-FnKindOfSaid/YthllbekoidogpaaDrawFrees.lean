
/- What chapter 8's laws draw. -/
import Derived.Test.YthllbekoidogpaaDrawOrds
namespace Go.Proofs.Ythllbekoidogpaa
open Go.RowKit
set_option linter.unusedVariables false


/-- A number is drawn. -/
def DrawnI (lo hi : Int) (w : World) (e : Ending) (w' : World) : Prop := ∃ x : Int, e = .returned (.int .i64 x) ∧ lo ≤ x ∧ x ≤ hi ∧ Below w.heap.size w w'
end Go.Proofs.Ythllbekoidogpaa
