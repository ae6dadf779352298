
/- The set and the table of a level, found by the iterator: the program's. -/
import Derived.Test.YtcegjiiondmchaaIlevR
import Derived.Test.YtcegjiiondmchaaSlset
import Derived.Test.YtcegjiiondmchaaIrectOk
namespace Go.Proofs.Ytcegjiiondmchaa
open Go.RowKit
set_option linter.unusedVariables false


attribute [local go_sem] Oper.semAt_some

/-- What levelAt answers. -/
def AtLev (w : World) (T : List (List Int)) (l : Int) (e : Ending) (w' : World) : Prop :=
  ∃ A' c', e = .returned (.tuple #[.int .i64 (levS T l), .slice A' (levP T l).length c']) ∧ Below w.heap.size w w' ∧ OMat w' w.heap.size w'.heap.size A' (levP T l)
theorem atLev_none {w w' : World} {T : List (List Int)} {l : Int} (h : levS T l = -1) (hb : Below w.heap.size w w') : AtLev w T l (.returned (.tuple #[.int .i64 (-1), .slice none 0 0])) w' := by
  refine ⟨none, 0, ?_, hb, ?_⟩
  · rw [levP_not h, h]; rfl
  · rw [levP_not h]; exact OMat.nil _ _ _ _
theorem bxBelow {W V : World} {B : Nat} {ty : TypeId} {v : Value} (h : Boxed W B ty v) (hb : Below W.heap.size W V) : Boxed V B ty v := (hb.block B h.lt).trans h
theorem bxPut {W : World} {B l : Nat} {ty : TypeId} {v : Value} (h : Boxed W B ty v) (o : Obj) (hl : B ≠ l) : Boxed (W.putObj l o) B ty v := (World.putObj_heap_other hl).trans h
theorem bxOther {W : World} {B p : Nat} {ty : TypeId} {v : Value} (h : Boxed W B ty v) (u : Value) (hp : B ≠ p) : Boxed (W.setCell ⟨p, 0, none⟩ u) B ty v := h.kept (grownBy_setCell' W p u) (fun e => hp (by simpa using e))

end Go.Proofs.Ytcegjiiondmchaa
