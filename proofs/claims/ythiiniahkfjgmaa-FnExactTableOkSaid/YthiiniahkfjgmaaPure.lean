/- Tables as lists of rows, and what is a table: plain mathematics, no program. -/
import Derived.Test.YthiiniahkfjgmaaMem
namespace Go.Proofs.Ythiiniahkfjgmaa
set_option linter.unusedVariables false

def okRow (n : Nat) (xs : List Int) : Bool := xs.all fun x => decide (0 ≤ x) && decide (x < n)
def okT (T : List (List Int)) : Bool := decide (1 ≤ T.length) && decide (T.length ≤ 9) && T.all fun r => decide (r.length = T.length) && okRow T.length r

/-- A table of n things, told by its indices. -/
structure IsT (T : List (List Int)) : Prop where
  lo : 1 ≤ T.length
  hi : T.length ≤ 9
  len : ∀ i, i < T.length → (rw_ T i).length = T.length
  cell : ∀ i j, i < T.length → j < T.length → 0 ≤ el (rw_ T i) j ∧ el (rw_ T i) j < T.length

theorem el_eq {xs : List Int} {j : Nat} (h : j < xs.length) : el xs j = xs[j] := by simp [el, List.getD, h]
theorem rw_eq {T : List (List Int)} {j : Nat} (h : j < T.length) : rw_ T j = T[j] := by simp [rw_, List.getD, h]

theorem okRow_iff {n : Nat} {xs : List Int} : okRow n xs = true ↔ ∀ j, j < xs.length → 0 ≤ el xs j ∧ el xs j < n := by
  unfold okRow
  rw [List.all_eq_true]
  constructor
  · intro h j hj
    have := h _ (List.getElem_mem hj)
    rw [el_eq hj]
    simpa using this
  · intro h x hx
    obtain ⟨j, hj, rfl⟩ := List.getElem_of_mem hx
    have := h j hj
    rw [el_eq hj] at this
    simpa using this
theorem okRow_false {n j : Nat} {xs : List Int} (hj : j < xs.length) (h : el xs j < 0 ∨ (n : Int) ≤ el xs j) : okRow n xs = false := by
  cases e : okRow n xs with
  | false => rfl
  | true => have := okRow_iff.1 e j hj; omega
theorem okT_iff {T : List (List Int)} : okT T = true ↔ IsT T := by
  unfold okT
  rw [Bool.and_eq_true, Bool.and_eq_true, List.all_eq_true, decide_eq_true_iff, decide_eq_true_iff]
  constructor
  · rintro ⟨⟨h1, h2⟩, h⟩
    have hrow : ∀ i, i < T.length → (rw_ T i).length = T.length ∧ okRow T.length (rw_ T i) = true := fun i hi => by
      have := h _ (List.getElem_mem hi)
      rw [rw_eq hi]
      simpa using this
    exact ⟨h1, h2, fun i hi => (hrow i hi).1, fun i j hi hj => okRow_iff.1 (hrow i hi).2 j (by rw [(hrow i hi).1]; exact hj)⟩
  · rintro ⟨h1, h2, h3, h4⟩
    refine ⟨⟨h1, h2⟩, fun r hr => ?_⟩
    obtain ⟨i, hi, rfl⟩ := List.getElem_of_mem hr
    have e := h3 i hi
    have c := h4 i
    rw [rw_eq hi] at e c
    rw [Bool.and_eq_true, decide_eq_true_iff]
    exact ⟨e, okRow_iff.2 fun j hj => c j hi (by omega)⟩
theorem okT_false {T : List (List Int)} (h : ¬ IsT T) : okT T = false := by
  cases e : okT T with
  | false => rfl
  | true => exact absurd (okT_iff.1 e) h
theorem okT_size {T : List (List Int)} (h : T.length < 1 ∨ 9 < T.length) : okT T = false := okT_false fun k => by have := k.lo; have := k.hi; omega
theorem okT_len {T : List (List Int)} {i : Nat} (hi : i < T.length) (h : (rw_ T i).length ≠ T.length) : okT T = false := okT_false fun k => h (k.len i hi)
theorem okT_row {T : List (List Int)} {i : Nat} (hi : i < T.length) (h : okRow T.length (rw_ T i) = false) : okT T = false := okT_false fun k => by
  have : okRow T.length (rw_ T i) = true := okRow_iff.2 fun j hj => k.cell i j hi (by rw [← k.len i hi]; exact hj)
  rw [h] at this; cases this
theorem okT_cell {T : List (List Int)} {i j : Nat} (hi : i < T.length) (hj : j < (rw_ T i).length) (h : el (rw_ T i) j < 0 ∨ (T.length : Int) ≤ el (rw_ T i) j) : okT T = false := okT_row hi (okRow_false hj h)
end Go.Proofs.Ythiiniahkfjgmaa
