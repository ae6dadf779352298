
/- Tables of pairs, whole: the program's, and the specification's. -/
import Derived.Test.YtkemkbjjedaadaaTimes
import Derived.Test.YtkemkbjjedaadaaApp
import Derived.Deep.RegionHeld3
namespace Go.Proofs.Ytkemkbjjedaadaa
open Go.RowKit
set_option linter.unusedVariables false


theorem ret2_slice {A : Option Addr} {n m c : Nat} {b : Bool} (h : n = m) : Ending.returned (.tuple #[.slice A n c, .bool b]) = .returned (.tuple #[.slice A m c, .bool b]) := by rw [h]
/-- Whether two tables have a table of pairs; and that table. -/
def canB (T U : List (List Int)) : Bool := okT T && okT U && decide (T.length * U.length ≤ 9)
def timesT (T U : List (List Int)) : List (List Int) := if canB T U = true then tabOf (T.length * U.length) (pairM T U) else []
theorem timesT_ok {T U : List (List Int)} (h : canB T U = true) : timesT T U = tabOf (T.length * U.length) (pairM T U) := by unfold timesT; rw [if_pos h]
theorem timesT_not {T U : List (List Int)} (h : canB T U = false) : timesT T U = [] := by unfold timesT; rw [if_neg (by rw [h]; exact Bool.false_ne_true)]
theorem canB_iff {T U : List (List Int)} : canB T U = true ↔ IsT T ∧ IsT U ∧ T.length * U.length ≤ 9 := by
  unfold canB
  rw [Bool.and_eq_true, Bool.and_eq_true, decide_eq_true_iff, okT_iff, okT_iff, and_assoc]
theorem small_timesT {T U : List (List Int)} : Small (timesT T U) := by
  cases h : canB T U
  · rw [timesT_not h]; exact ⟨by simp, fun i hi => absurd hi (Nat.not_lt_zero _)⟩
  · have := (canB_iff.1 h).2.2
    rw [timesT_ok h]
    refine ⟨by rw [len_tabOf]; omega, fun i hi => ?_⟩
    rw [len_tabOf] at hi
    rw [rowlen_tabOf hi]; omega
/-- A call that returns a new table and a truth. -/
def OwnTab2 (w : World) (T : List (List Int)) (b : Bool) (e : Ending) (w' : World) : Prop := ∃ A c, e = .returned (.tuple #[.slice A T.length c, .bool b]) ∧ Below w.heap.size w w' ∧ OMat w' w.heap.size w'.heap.size A T
def NewTab2 (w : World) (T : List (List Int)) (b : Bool) (e : Ending) (w' : World) : Prop := ∃ A c, e = .returned (.tuple #[.slice A T.length c, .bool b]) ∧ Below w.heap.size w w' ∧ Mat w' w.heap.size w'.heap.size A T
theorem own2_nil {w : World} {T U : List (List Int)} (h : canB T U = false) : OwnTab2 w (timesT T U) (canB T U) (.returned (.tuple #[.slice none 0 0, .bool false])) w := by
  rw [timesT_not h, h]; exact ⟨none, 0, rfl, Below.refl _ _, OMat.nil _ _ _ _⟩
theorem new2_nil {w : World} {T U : List (List Int)} (h : canB T U = false) : NewTab2 w (timesT T U) (canB T U) (.returned (.tuple #[.slice (some ⟨w.heap.size, 0, none⟩) 0 0, .bool false])) (w.alloc (.cells #[] 37)) := by
  rw [timesT_not h, h]; exact ⟨_, 0, rfl, (Below.refl w.heap.size w).alloc (Nat.le_refl _) _, Mat.nil _ _ _ _⟩

theorem three_c0 (w : World) (u v z : Value) (t1 t2 t3 : TypeId) : (((w.alloc (.cells #[u] t1)).alloc (.cells #[v] t2)).alloc (.cells #[z] t3)).cell? ⟨w.heap.size, 0, none⟩ = some u := by
  have e := heap_alloc_new w (.cells #[u] t1)
  have e1 := (Below.heap_alloc (w.alloc (.cells #[u] t1)) (.cells #[v] t2) w.heap.size (by simp)).trans e
  have e2 := (Below.heap_alloc ((w.alloc (.cells #[u] t1)).alloc (.cells #[v] t2)) (.cells #[z] t3) w.heap.size (by simp; omega)).trans e1
  rw [cell_of_row _ _ _ _ _ _ e2]; rfl
theorem three_c1 (w : World) (u v z : Value) (t1 t2 t3 : TypeId) : (((w.alloc (.cells #[u] t1)).alloc (.cells #[v] t2)).alloc (.cells #[z] t3)).cell? ⟨w.heap.size + 1, 0, none⟩ = some v := by
  have e := heap_alloc_new (w.alloc (.cells #[u] t1)) (.cells #[v] t2)
  have hs : (w.alloc (.cells #[u] t1)).heap.size = w.heap.size + 1 := by simp
  rw [hs] at e
  have e2 := (Below.heap_alloc ((w.alloc (.cells #[u] t1)).alloc (.cells #[v] t2)) (.cells #[z] t3) (w.heap.size + 1) (by simp)).trans e
  rw [cell_of_row _ _ _ _ _ _ e2]; rfl
theorem three_c2 (w : World) (u v z : Value) (t1 t2 t3 : TypeId) : (((w.alloc (.cells #[u] t1)).alloc (.cells #[v] t2)).alloc (.cells #[z] t3)).cell? ⟨w.heap.size + 2, 0, none⟩ = some z := by
  have e := heap_alloc_new ((w.alloc (.cells #[u] t1)).alloc (.cells #[v] t2)) (.cells #[z] t3)
  have hs : ((w.alloc (.cells #[u] t1)).alloc (.cells #[v] t2)).heap.size = w.heap.size + 2 := by simp
  rw [hs] at e
  rw [cell_of_row _ _ _ _ _ _ e]; rfl

theorem wrap2 {a m b : Int} (h0 : 0 ≤ a * m) (h1 : a * m ≤ 81) (b0 : 0 ≤ b) (b1 : b ≤ 9) : IntKind.i64.wrap (IntKind.i64.wrap (a * m) + b) = a * m + b := by
  have e1 : IntKind.i64.wrap (a * m) = a * m := IntWalk.i64_in _ ⟨by omega, by omega⟩
  rw [e1]
  exact IntWalk.i64_in _ ⟨by omega, by omega⟩
/-- The specification's table of pairs under way. -/
def rowP (T U : List (List Int)) (x k : Nat) : List Int := (List.range k).map fun y => pairM T U x y
def rowsP (T U : List (List Int)) (k : Nat) : List (List Int) := (List.range k).map fun x => rowP T U x (T.length * U.length)
theorem rowP_succ (T U : List (List Int)) (x k : Nat) : rowP T U x k ++ [pairM T U x k] = rowP T U x (k + 1) := by simp [rowP, List.range_succ]
theorem rowsP_succ (T U : List (List Int)) (k : Nat) : rowsP T U k ++ [rowP T U k (T.length * U.length)] = rowsP T U (k + 1) := by simp [rowsP, List.range_succ]
theorem len_rowP (T U : List (List Int)) (x k : Nat) : (rowP T U x k).length = k := by simp [rowP]
theorem len_rowsP (T U : List (List Int)) (k : Nat) : (rowsP T U k).length = k := by simp [rowsP]

end Go.Proofs.Ytkemkbjjedaadaa
