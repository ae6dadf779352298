
/- Sets of things as numbers: bits, and which things a set has. -/
import Derived.Test.YtkemkbjjedaadaaApp
import Derived.Test.YtkemkbjjedaadaaGrp
namespace Go.Proofs.Ytkemkbjjedaadaa
open Go.RowKit
set_option linter.unusedVariables false


theorem bits_i64 {a b : Nat} (ha : a < 1024) (hb : b < 1024) : bits .and .i64 (a : Int) (b : Int) = ((a &&& b : Nat) : Int) ∧ bits .or .i64 (a : Int) (b : Int) = ((a ||| b : Nat) : Int) :=
  bits_nat .i64 10 (by decide) (fun n h0 h1 => IntWalk.i64_in _ ⟨by omega, by omega⟩) a b ha hb
theorem pow_le9 {p : Nat} (hp : p ≤ 9) : 1 ≤ 2 ^ p ∧ 2 ^ p ≤ 512 := ⟨Nat.one_le_two_pow, by have : 2 ^ p ≤ 2 ^ 9 := Nat.pow_le_pow_right (by omega) hp; omega⟩
theorem pow_int {p : Nat} (hp : p ≤ 9) : (1 : Int) ≤ (2 : Int) ^ p ∧ (2 : Int) ^ p ≤ 512 := by
  have h := pow_le9 hp
  have e : (2 : Int) ^ p = ((2 ^ p : Nat) : Int) := by simp
  rw [e]; omega
theorem and_two (s p : Nat) : s &&& 2 ^ p = if s.testBit p = true then 2 ^ p else 0 := by
  apply Nat.eq_of_testBit_eq
  intro i
  rw [Nat.testBit_and, Nat.testBit_two_pow]
  by_cases e : p = i
  · subst e
    cases h : s.testBit p <;> simp
  · have e2 : ((if s.testBit p = true then 2 ^ p else 0) : Nat).testBit i = false := by
      split
      · rw [Nat.testBit_two_pow]; simp [e]
      · simp
    rw [e2]; simp [e]
theorem and_pow {s p : Nat} (hs : s < 1024) (hp : p ≤ 9) : bits .and .i64 (s : Int) ((2 : Int) ^ p) = if s.testBit p = true then (2 : Int) ^ p else 0 := by
  have h := pow_le9 hp
  have e : (2 : Int) ^ p = ((2 ^ p : Nat) : Int) := by simp
  rw [e, (bits_i64 hs (by omega)).1, and_two]
  cases s.testBit p <;> simp
theorem or_pow {s p : Nat} (hs : s < 1024) (hp : p ≤ 9) : bits .or .i64 (s : Int) ((2 : Int) ^ p) = ((s ||| 2 ^ p : Nat) : Int) := by
  have h := pow_le9 hp
  have e : (2 : Int) ^ p = ((2 ^ p : Nat) : Int) := by simp
  rw [e, (bits_i64 hs (by omega)).2]

/-- The things of a set, below k. -/
def thk (s k : Nat) : List Int := List.map (fun p : Nat => (p : Int)) ((List.range k).filter fun p => s.testBit p)
theorem thk_succ (s k : Nat) : thk s (k + 1) = thk s k ++ (if s.testBit k = true then [(k : Int)] else []) := by
  unfold thk
  rw [List.range_succ, List.filter_append, List.map_append]
  by_cases h : s.testBit k = true <;> simp [h]
theorem len_thk (s k : Nat) : (thk s k).length ≤ k := by
  unfold thk
  rw [List.length_map]
  have := List.length_filter_le (fun p => s.testBit p) (List.range k)
  simpa using this

/-- A call that returns a new row. -/
def NewRow (w : World) (xs : List Int) (e : Ending) (w' : World) : Prop := ∃ A c, e = .returned (.slice A xs.length c) ∧ Below w.heap.size w w' ∧ Row w' w.heap.size w'.heap.size A xs ∧ xs.length ≤ c ∧ c ≤ 9223372036854775807
end Go.Proofs.Ytkemkbjjedaadaa
