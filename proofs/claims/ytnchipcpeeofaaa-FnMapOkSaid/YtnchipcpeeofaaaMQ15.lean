/-  -/
import Derived.Shelf.Abstract
import Derived.Shelf.RegionOpen
import Derived.RangeFuncLeaves
import Derived.WalkKit
import Derived.OwnWalkIn
import Derived.TacticsInMore
import Derived.LoopNIn
import Derived.LoopIn
import Derived.Test.YtnchipcpeeofaaaMQ11
import Derived.Test.YtnchipcpeeofaaaMQ10
namespace Go.Proofs.Ytnchipcpeeofaaa
open Go.RowKit
set_option linter.unusedVariables false
set_option linter.unusedSimpArgs false
attribute [local go_sem] Oper.semAt_some

/-- Blocks of one's own, which no round writes. -/
def Mine (O : List Nat) (w2 : World) (Y : Nat → Prop) (V : World) : Prop := ∀ b ∈ O, V.heap[b]? = w2.heap[b]? ∧ ¬ Y b
section
variable {O : List Nat} {w2 V V' : World} {Y Y' : Nat → Prop}
theorem Mine.keep (h : Mine O w2 Y V) (hk : ∀ b ∈ O, V'.heap[b]? = V.heap[b]?) : Mine O w2 Y V' := fun b hb => ⟨(hk b hb).trans (h b hb).1, (h b hb).2⟩
theorem Mine.kept {n : Nat} (h : Mine O w2 Y V) (hO : ∀ b ∈ O, b < n) (hk : Kept n Y V V') : Mine O w2 Y V' := h.keep fun b hb => hk.same b (hO b hb) (h b hb).2
theorem Mine.lt (h : Mine O w2 Y V) {b : Nat} (hb : b ∈ O) (h2 : b < w2.heap.size) : b < V.heap.size := by
  have e := (h b hb).1
  rw [Array.getElem?_eq_getElem h2] at e
  exact (Array.getElem?_eq_some_iff.1 e).1
end
end Go.Proofs.Ytnchipcpeeofaaa
