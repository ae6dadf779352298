
/- The tables that the bands' laws draw. -/
import Derived.Test.YthllbekoidogpaaDrawAll
namespace Go.Proofs.Ythllbekoidogpaa
open Go.RowKit
set_option linter.unusedVariables false

/-- A table of two things, written out. -/
theorem lit2 {W : World} {k : Nat} (a b c d : Int) (hk : W.heap.size = k) :
    Mat (((W.alloc (.cells #[.int .i64 a, .int .i64 b] 3)).alloc (.cells #[.int .i64 c, .int .i64 d] 3)).alloc (.cells #[.slice (some ⟨k, 0, none⟩) 2 2, .slice (some ⟨k + 1, 0, none⟩) 2 2] 58)) k (k + 3) (some ⟨k + 2, 0, none⟩) [[a, b], [c, d]] := fun i hi => by
  subst hk
  have e1 := heap_alloc_new W (.cells #[.int .i64 a, .int .i64 b] 3)
  have hs : (W.alloc (.cells #[.int .i64 a, .int .i64 b] 3)).heap.size = W.heap.size + 1 := by simp
  have e2 := heap_alloc_new (W.alloc (.cells #[.int .i64 a, .int .i64 b] 3)) (.cells #[.int .i64 c, .int .i64 d] 3)
  rw [hs] at e2
  have e12 := (Below.heap_alloc (W.alloc (.cells #[.int .i64 a, .int .i64 b] 3)) (.cells #[.int .i64 c, .int .i64 d] 3) W.heap.size (by omega)).trans e1
  have hs2 : ((W.alloc (.cells #[.int .i64 a, .int .i64 b] 3)).alloc (.cells #[.int .i64 c, .int .i64 d] 3)).heap.size = W.heap.size + 2 := by simp
  have e3 := heap_alloc_new ((W.alloc (.cells #[.int .i64 a, .int .i64 b] 3)).alloc (.cells #[.int .i64 c, .int .i64 d] 3)) (.cells #[.slice (some ⟨W.heap.size, 0, none⟩) 2 2, .slice (some ⟨W.heap.size + 1, 0, none⟩) 2 2] 58)
  rw [hs2] at e3
  have e13 := (Below.heap_alloc ((W.alloc (.cells #[.int .i64 a, .int .i64 b] 3)).alloc (.cells #[.int .i64 c, .int .i64 d] 3)) (.cells #[.slice (some ⟨W.heap.size, 0, none⟩) 2 2, .slice (some ⟨W.heap.size + 1, 0, none⟩) 2 2] 58) W.heap.size (by omega)).trans e12
  have e23 := (Below.heap_alloc ((W.alloc (.cells #[.int .i64 a, .int .i64 b] 3)).alloc (.cells #[.int .i64 c, .int .i64 d] 3)) (.cells #[.slice (some ⟨W.heap.size, 0, none⟩) 2 2, .slice (some ⟨W.heap.size + 1, 0, none⟩) 2 2] 58) (W.heap.size + 1) (by omega)).trans e2
  have hi2 : i < 2 := by simpa using hi
  rcases (by omega : i = 0 ∨ i = 1) with rfl | rfl
  · refine ⟨W.heap.size + 2, 0, some ⟨W.heap.size, 0, none⟩, 2, rfl, by omega, by omega, by rw [cell_of_row _ _ _ _ _ _ e3]; rfl, fun j hj => ?_⟩
    have hj2 : j < 2 := by simpa [rw_] using hj
    rcases (by omega : j = 0 ∨ j = 1) with rfl | rfl
    · exact ⟨W.heap.size, 0, rfl, by omega, by omega, by rw [cell_of_row _ _ _ _ _ _ e13]; rfl⟩
    · exact ⟨W.heap.size, 0, rfl, by omega, by omega, by rw [cell_of_row _ _ _ _ _ _ e13]; rfl⟩
  · refine ⟨W.heap.size + 2, 0, some ⟨W.heap.size + 1, 0, none⟩, 2, rfl, by omega, by omega, by rw [cell_of_row _ _ _ _ _ _ e3]; rfl, fun j hj => ?_⟩
    have hj2 : j < 2 := by simpa [rw_] using hj
    rcases (by omega : j = 0 ∨ j = 1) with rfl | rfl
    · exact ⟨W.heap.size + 1, 0, rfl, by omega, by omega, by rw [cell_of_row _ _ _ _ _ _ e23]; rfl⟩
    · exact ⟨W.heap.size + 1, 0, rfl, by omega, by omega, by rw [cell_of_row _ _ _ _ _ _ e23]; rfl⟩
theorem small2 (a b c d : Int) : Small [[a, b], [c, d]] := ⟨by simp, fun i hi => by
  have hi2 : i < 2 := by simpa using hi
  rcases (by omega : i = 0 ∨ i = 1) with rfl | rfl <;> simp [rw_]⟩
/-- A row of numbers, written out. -/
theorem row_lit {W : World} {xs : List Int} (cs : Array Value) (hc : cs = (xs.map (Value.int .i64)).toArray) : Row (W.alloc (.cells cs 3)) W.heap.size (W.heap.size + 1) (some ⟨W.heap.size, 0, none⟩) xs := fun j hj => by
  subst hc
  have e1 := heap_alloc_new W (.cells (xs.map (Value.int .i64)).toArray 3)
  exact ⟨W.heap.size, 0, rfl, Nat.le_refl _, by omega, by rw [cell_of_row _ _ _ _ _ _ e1]; simp [hj, el, List.getD]⟩
end Go.Proofs.Ythllbekoidogpaa
