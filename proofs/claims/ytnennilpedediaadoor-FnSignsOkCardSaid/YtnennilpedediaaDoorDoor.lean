
/- A world that holds the two tables that the rows of this seat list: the witness of each law's row. -/
import Derived.Test.YtnennilpedediaaDoorCards
import Derived.Test.YtnennilpedediaaDoorTie
import Derived.Test.YtnennilpedediaaDoorFrame
import Derived.WalkKit
import Derived.ProofKit
import Derived.OpenShut
import Derived.Deep.DeepHandedRow
import Derived.Deep.DeepLaidRun
namespace Go.Proofs.YtnennilpedediaaDoor
open Go.ChangeShapes Go.WideShapes Go.ChangeAt Go.RowKit
set_option linter.unusedVariables false

/-- What a list of numbers, or of rows of numbers, lays in memory. -/
def leafOf : DataW Unit → Value
  | .lit (.int k z) => .int k z
  | _ => .tuple #[]
def leavesOf : DataW Unit → List Value
  | .agg ps => ps.flatMap fun p => match p with
    | .agg qs => qs.map leafOf
    | d => [leafOf d]
  | _ => []
def cellsOf9 (d : DataW Unit) : Array Value := (leavesOf d).toArray
def layIn (d : DataW Unit) : Obj → Obj
  | .cells _ t frozen => .cells (cellsOf9 d) t frozen
  | o => o
/-- The tables lie in the blocks of their variables. -/
noncomputable def laidWorld (os : Os) : World :=
  { World.holding Tryd.prog os ⟨#[], #[], []⟩ with heap := ((World.holding Tryd.prog os ⟨#[], #[], []⟩).heap.modify 1 (layIn Go.Pinned.utf8First)).modify 2 (layIn Rows.laid_unicode_utf8_acceptRanges) }
def laidList : List (String × DataW Unit) := Rows.fnExactSignsOkRow.laid
set_option maxRecDepth 100000 in
theorem laid_met1 (os : Os) : laidMet Tryd.prog laidList ((laidWorld os).forCall (fun _ _ => 0) ⟨#[], #[.string ⟨#[]⟩], []⟩).memory :=
  laidMet_of_run3 8 (by kernel_rfl) (by kernel_rfl) (by kernel_rfl)
set_option maxRecDepth 100000 in
theorem laid_met2 (os : Os) : laidMet Tryd.prog laidList ((laidWorld os).forCall (fun _ _ => 0) ⟨#[], #[.string ⟨#[]⟩, .string ⟨#[]⟩], []⟩).memory :=
  laidMet_of_run3 8 (by kernel_rfl) (by kernel_rfl) (by kernel_rfl)
set_option maxRecDepth 100000 in
theorem laid_metB (os : Os) : laidMet Tryd.prog laidList ((laidWorld os).forCall (fun _ _ => 0) ⟨#[], #[.slice none 0 0], []⟩).memory :=
  laidMet_of_run3 8 (by kernel_rfl) (by kernel_rfl) (by kernel_rfl)
end Go.Proofs.YtnennilpedediaaDoor
