
/- Chapter 4 of the landed code: all five functions. -/
import Derived.Test.YtcegjiiondmchaaIlev4
import Derived.Test.YtcegjiiondmchaaIlev5
import Derived.Test.YtcegjiiondmchaaIrectOk
namespace Go.Proofs.Ytcegjiiondmchaa
end Go.Proofs.Ytcegjiiondmchaa
