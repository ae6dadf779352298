
/- The set and the part of a level: the specification's. -/
import Derived.Test.YtcegjiiondmchaaSlev
import Derived.Test.YtcegjiiondmchaaPartS
namespace Go.Proofs.Ytcegjiiondmchaa
open Go.RowKit
set_option linter.unusedVariables false


theorem countT_lo (T : List (List Int)) : -1 ≤ countT T ∧ countT T ≤ 9 := by
  unfold countT
  cases h : bandT T
  · simp
  · have := nL_le T
    have := (band_tab h).hi
    simp only [if_true]
    omega
theorem countT_in {T : List (List Int)} {l : Int} : (decide (0 ≤ l) && decide (l ≤ countT T - 1)) = true ↔ bandT T = true ∧ 0 ≤ l ∧ l < nL T := by
  rw [Bool.and_eq_true, decide_eq_true_iff, decide_eq_true_iff]
  unfold countT
  cases h : bandT T
  · simp; omega
  · simp; omega
/-- The things of a level under way. -/
def mskL (T : List (List Int)) (v k : Nat) : Nat := msk (fun a => num (inLev T) a == v) k
theorem mskL_no {T : List (List Int)} {v k : Nat} (h : (((num (inLev T) k : Nat) : Int) == (v : Int)) = false) : mskL T v (k + 1) = mskL T v k := by
  unfold mskL
  have : ¬ num (inLev T) k = v := fun e => by rw [e] at h; simp at h
  simp [msk, this]
theorem mskL_yes {T : List (List Int)} {v k : Nat} (h : (((num (inLev T) k : Nat) : Int) == (v : Int)) = true) : mskL T v (k + 1) = mskL T v k ||| 2 ^ k := by
  unfold mskL
  rw [msk_or, if_pos]
  have : ((num (inLev T) k : Nat) : Int) = (v : Int) := by simpa using h
  simp; omega
theorem mskL_lt (T : List (List Int)) (v k : Nat) : mskL T v k < 2 ^ k := msk_lt _ _

end Go.Proofs.Ytcegjiiondmchaa
