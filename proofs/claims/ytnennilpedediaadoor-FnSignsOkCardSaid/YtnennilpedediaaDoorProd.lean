
/- Products of rows: the program's fold, and the specification's loop. -/
import Derived.Test.YtnennilpedediaaDoorGrp
import Derived.Test.YtnennilpedediaaDoorSgrp
import Derived.Test.YtnennilpedediaaDoorTab
namespace Go.Proofs.YtnennilpedediaaDoor
open Go.RowKit
set_option linter.unusedVariables false


/-- The product of the first k + 1 things of a row. -/
def pf (T : List (List Int)) (xs : List Int) : Nat → Int
  | 0 => el xs 0
  | k + 1 => mul T (pf T xs k) (el xs (k + 1))
theorem pf_in {T : List (List Int)} {xs : List Int} (k : IsT T) (h : ∀ j, j < xs.length → 0 ≤ el xs j ∧ el xs j < T.length) : ∀ j, j < xs.length → 0 ≤ pf T xs j ∧ pf T xs j < T.length
  | 0, hj => h 0 hj
  | j + 1, hj => by
    obtain ⟨h0, h1⟩ := pf_in k h j (by omega)
    obtain ⟨h2, h3⟩ := h (j + 1) hj
    exact k.mul h0 h1 h2 h3
/-- The product of a row, or -1. -/
def prodT (T : List (List Int)) (xs : List Int) : Int := if okT T = true ∧ xs.length ≠ 0 ∧ okRow T.length xs = true then pf T xs (xs.length - 1) else -1
theorem prodT_ok {T : List (List Int)} {xs : List Int} (h1 : okT T = true) (h2 : xs.length ≠ 0) (h3 : okRow T.length xs = true) : prodT T xs = pf T xs (xs.length - 1) := by unfold prodT; rw [if_pos ⟨h1, h2, h3⟩]
theorem prodT_not {T : List (List Int)} {xs : List Int} (h : okT T = false ∨ xs.length = 0 ∨ okRow T.length xs = false) : prodT T xs = -1 := by
  unfold prodT
  rw [if_neg]
  rintro ⟨h1, h2, h3⟩
  rcases h with h | h | h
  · rw [h1] at h; cases h
  · exact h2 h
  · rw [h3] at h; cases h

end Go.Proofs.YtnennilpedediaaDoor
