/-  -/
import Derived.Deep.RegionHeld3
import Derived.Maps.AppendAt
import Derived.Test.YtnchipcpeeofaaaMQ05
import Derived.Test.YtnchipcpeeofaaaMQ03
import Derived.Test.YtnchipcpeeofaaaMQ04
namespace Go.Proofs.Ytnchipcpeeofaaa
open Go.RowKit
set_option linter.unusedVariables false


/-- The places of things, below k. -/
def atL (s k : Nat) : List Int := (List.range k).map fun j => ((cnt s j : Nat) : Int)
theorem atL_succ (s k : Nat) : atL s k ++ [((cnt s k : Nat) : Int)] = atL s (k + 1) := by simp [atL, List.range_succ]
theorem ATab.keepRow {base base' : Nat} {w w1 : World} {v u : Value} {T : List (List Int)} {xs : List Int} (h : ATab base w v T) (hr : ARow base' w u xs) (hg : w.grownBy w1 v.ownBlock) : ARow base' w1 u xs := by
  obtain ⟨vs, h1, _⟩ := h
  exact World.ownsRow.kept hr hg (own_ne hr h1 (by decide))

/-- Both rows under way, in blocks of their own. -/
structure Both (base : Nat) (wr : World) (s k : Nat) (v6 v7 : Value) : Prop where
  a : ARow base wr v6 (atL s k)
  l : ARow base wr v7 (thk s k)
  ne : v6.ownBlock ≠ v7.ownBlock
theorem own_lt {base : Nat} {w : World} {v : Value} {xs : List Int} (h : ARow base w v xs) {k : Nat} (e : v.ownBlock = some k) : k < w.heap.size := (h.lt k e).2
theorem Both.at_ {base s k : Nat} {wr w1 : World} {v6 v7 v1 : Value} (h : Both base wr s k v6 v7) (h1 : ARow base w1 v1 (atL s k ++ [((cnt s k : Nat) : Int)])) (hg : wr.grownBy w1 v6.ownBlock) (ho : v1.ownBlock = v6.ownBlock ∨ v1.ownBlock = some (wr.heap.size + 1)) :
    ARow base w1 v1 (atL s (k + 1)) ∧ ARow base w1 v7 (thk s k) ∧ v1.ownBlock ≠ v7.ownBlock := by
  refine ⟨by rw [← atL_succ]; exact h1, World.ownsRow.kept h.l hg (.inr fun e => h.ne e.symm), fun e => ?_⟩
  rcases ho with ho | ho
  · exact h.ne (ho.symm.trans e)
  · have := own_lt h.l (e.symm.trans ho); omega
end Go.Proofs.Ytnchipcpeeofaaa
