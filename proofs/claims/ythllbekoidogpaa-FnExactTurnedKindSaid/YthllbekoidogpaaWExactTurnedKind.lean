/- The walk of FnExactTurnedKind. -/
import Derived.Test.YthllbekoidogpaaSidenT
import Derived.Test.YthllbekoidogpaaIiden
namespace Go.Proofs.Ythllbekoidogpaa
open Go.RowKit
set_option linter.unusedVariables false

set_option maxHeartbeats 2000000 in
theorem fnExactTurnedKind_walk (a0 : Int) (w : World) (h0 : (Lit.int .i64 a0).wf = true) :
    Calls Try.prog 11 #[.int .i64 a0] w fun e w' => e = .returned (.bool true) ∧ Below w.heap.size w w' := by
  have B0 := Below.refl w.heap.size w
  go_enter Try.func11, Try.ntmps11
  go_wp2_with fail
  refine (sTurnedKind_any a0 _).mono ?_
  rintro e w1 ⟨rfl, b1⟩
  have z1 := b1.size
  have B1 : Below w.heap.size w w1 := B0.trans (b1.mono (by omega))
  go_wp2_with fail
  refine (iTurnedKind_any a0 _).mono ?_
  rintro e w2 ⟨rfl, b2⟩
  have z2 := b2.size
  have B2 : Below w.heap.size w w2 := B1.trans (b2.mono (by omega))
  go_wp2
  go_ret
  exact ⟨rfl, B2⟩
end Go.Proofs.Ythllbekoidogpaa
