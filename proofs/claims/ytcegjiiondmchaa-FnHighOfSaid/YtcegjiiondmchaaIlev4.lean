
/- The table of levels: the program's. -/
import Derived.Test.YtcegjiiondmchaaIlev3
import Derived.Deep.RegionHeld3
namespace Go.Proofs.Ytcegjiiondmchaa
open Go.RowKit
set_option linter.unusedVariables false


end Go.Proofs.Ytcegjiiondmchaa
