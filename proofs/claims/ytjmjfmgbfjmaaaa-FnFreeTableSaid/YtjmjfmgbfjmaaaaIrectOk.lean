
/- Whether a table is a rectangle: the program's. -/
import Derived.Test.YtjmjfmgbfjmaaaaRectP
import Derived.Test.YtjmjfmgbfjmaaaaIband
namespace Go.Proofs.Ytjmjfmgbfjmaaaa
open Go.RowKit
set_option linter.unusedVariables false

end Go.Proofs.Ytjmjfmgbfjmaaaa
