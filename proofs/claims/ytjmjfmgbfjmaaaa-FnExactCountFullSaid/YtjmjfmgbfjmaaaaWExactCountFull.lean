/- The walk of FnExactCountFull. -/
import Derived.Test.YtjmjfmgbfjmaaaaSfree
import Derived.Test.YtjmjfmgbfjmaaaaIfree
namespace Go.Proofs.Ytjmjfmgbfjmaaaa
open Go.RowKit
set_option linter.unusedVariables false

set_option maxHeartbeats 2000000 in
theorem fnExactCountFull_walk (a0 : Int) (w : World) (h0 : (Lit.int .i64 a0).wf = true) :
    Calls Try.prog 10 #[.int .i64 a0] w fun e w' => e = .returned (.bool true) ∧ Below w.heap.size w w' := by
  have B0 := Below.refl w.heap.size w
  go_enter Try.func10, Try.ntmps10
  go_wp2_with fail
  refine (sCountFull_any a0 _).mono ?_
  rintro e w_ ⟨rfl, rfl⟩
  go_wp2_with fail
  refine (iCountFull_any a0 _).mono ?_
  rintro e w1 ⟨rfl, b1⟩
  have z1 := b1.size
  have B1 : Below w.heap.size w w1 := B0.trans (b1.mono (by omega))
  go_wp2
  go_ret
  exact ⟨rfl, B1⟩
end Go.Proofs.Ytjmjfmgbfjmaaaa
