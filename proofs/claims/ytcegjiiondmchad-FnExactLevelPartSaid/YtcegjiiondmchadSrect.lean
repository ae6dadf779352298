
/- Rectangles, their rows and columns: the specification's. -/
import Derived.Test.YtcegjiiondmchadRectP
import Derived.Test.YtcegjiiondmchadSband
import Derived.Test.YtcegjiiondmchadMadeS
import Derived.Test.YtcegjiiondmchadPureX
import Derived.Deep.RegionHeld3
namespace Go.Proofs.Ytcegjiiondmchad
open Go.RowKit
set_option linter.unusedVariables false


/-- The table of a rectangle under way. -/
def rowE (C x k : Nat) : List Int := (List.range k).map fun y => rectM C x y
def rowsE (C N k : Nat) : List (List Int) := (List.range k).map fun x => rowE C x N
theorem rowE_succ (C x k : Nat) : rowE C x k ++ [rectM C x k] = rowE C x (k + 1) := by simp [rowE, List.range_succ]
theorem rowsE_succ (C N k : Nat) : rowsE C N k ++ [rowE C k N] = rowsE C N (k + 1) := by simp [rowsE, List.range_succ]
theorem len_rowE (C x k : Nat) : (rowE C x k).length = k := by simp [rowE]
theorem len_rowsE (C N k : Nat) : (rowsE C N k).length = k := by simp [rowsE]
theorem rect2_nil {w : World} {r c : Int} (h : canR r c = false) : NewTab2 w (rectOf r c) (canR r c) (.returned (.tuple #[.slice (some ⟨w.heap.size, 0, none⟩) 0 0, .bool false])) (w.alloc (.cells #[] 25)) := by
  rw [rectOf_not h, h]; exact ⟨_, 0, rfl, (Below.refl w.heap.size w).alloc (Nat.le_refl _) _, Mat.nil _ _ _ _⟩

end Go.Proofs.Ytcegjiiondmchad
