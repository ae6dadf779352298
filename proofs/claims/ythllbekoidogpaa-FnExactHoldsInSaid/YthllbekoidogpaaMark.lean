
/- Marks written into a table of the call's own, and read back. -/
import Derived.Test.YthllbekoidogpaaHelp
namespace Go.Proofs.Ythllbekoidogpaa
open Go.RowKit
set_option linter.unusedVariables false


/-- n numbers from k on. -/
def marks (n : Nat) (k : Int) : List Int := (List.range n).map fun i => k + (i : Nat)
theorem len_marks (n : Nat) (k : Int) : (marks n k).length = n := by simp [marks]
theorem el_marks {n j : Nat} {k : Int} (h : j < n) : el (marks n k) j = k + j := by simp [el, marks, List.getD, h]
/-- How many numbers the first i rows have. -/
def off (T : List (List Int)) : Nat → Nat
  | 0 => 0
  | i + 1 => off T i + (rw_ T i).length
theorem off_le {T : List (List Int)} (hS : Small T) : ∀ i, i ≤ T.length → off T i ≤ i * 1048576
  | 0, _ => Nat.zero_le _
  | i + 1, h => by
    have := off_le hS i (by omega)
    have := hS.row i (by omega)
    simp only [off]; omega
/-- The table with its first p rows marked from k on. -/
def mixT (T : List (List Int)) (k : Int) (p : Nat) : List (List Int) := (List.range T.length).map fun i => if i < p then marks (rw_ T i).length (k + off T i) else rw_ T i
theorem len_mixT (T : List (List Int)) (k : Int) (p : Nat) : (mixT T k p).length = T.length := by simp [mixT]
theorem row_mixT {T : List (List Int)} {k : Int} {p i : Nat} (h : i < T.length) : rw_ (mixT T k p) i = if i < p then marks (rw_ T i).length (k + off T i) else rw_ T i := by
  simp [mixT, rw_, List.getD, h]
theorem rowlen_mixT {T : List (List Int)} {k : Int} {p i : Nat} (h : i < T.length) : (rw_ (mixT T k p) i).length = (rw_ T i).length := by
  rw [row_mixT h]; split
  · rw [len_marks]
  · rfl
theorem mixT_zero (T : List (List Int)) (k : Int) : mixT T k 0 = T := by
  apply List.ext_getElem
  · simp [mixT]
  · intro i h1 h2
    simp [mixT, rw_, List.getD, h2]

theorem cell_set_same {w : World} {p : Addr} {u v : Value} (h : w.cell? p = some u) : (w.setCell p v).cell? p = some v := by
  have hs := World.cell?_spot h
  simp only [World.cell?, World.setCell, Array.getElem?_modify, if_true] at h ⊢
  cases e : w.heap[p.block]? with
  | none => simp [e] at h
  | some o =>
    cases o <;> simp [e, hs] at h ⊢
    rw [Array.getElem?_setIfInBounds, if_pos rfl]
    obtain ⟨hlt, _⟩ := Array.getElem?_eq_some_iff.1 h
    rw [if_pos hlt]
theorem frozen_set (w : World) (p q : Addr) (v : Value) : (w.setCell p v).frozen? q = w.frozen? q := by
  simp only [World.frozen?, World.setCell, Array.getElem?_modify]
  by_cases e : p.block = q.block
  · rw [if_pos e]
    cases w.heap[q.block]? with
    | none => rfl
    | some o => cases o <;> rfl
  · rw [if_neg e]

theorem OMat.marked {w w' : World} {lo hi : Nat} {A : Option Addr} {T : List (List Int)} {k : Int} {p : Nat} {b o : Nat} {g C : Nat → Nat} (hp : p < T.length)
    (h1 : ∀ i, i < (mixT T k p).length → A = some ⟨b, o, none⟩ ∧ lo ≤ b ∧ b < hi ∧ g i ≠ b ∧ lo ≤ g i ∧ g i < hi ∧
      w.cell? ⟨b, o + i, none⟩ = some (.slice (some ⟨g i, 0, none⟩) (rw_ (mixT T k p) i).length (C i)) ∧ Cells w (g i) (rw_ (mixT T k p) i)) (h2 : ∀ i j, i < (mixT T k p).length → j < (mixT T k p).length → i ≠ j → g i ≠ g j)
    (hs : hi ≤ w.heap.size) (hO : Only (g p) (g p + 1) w w') (hC : Cells w' (g p) (marks (rw_ T p).length (k + off T p))) : OMat w' lo hi A (mixT T k (p + 1)) := by
  rw [len_mixT] at h1 h2
  refine ⟨b, o, g, C, fun i hi' => ?_, fun i j hi' hj hne => ?_⟩
  · rw [len_mixT] at hi'
    obtain ⟨e, a1, a2, a3, a4, a5, a6, a7⟩ := h1 i hi'
    obtain ⟨_, _, _, c3, c4, c5, _, _⟩ := h1 p hp
    refine ⟨e, a1, a2, a3, a4, a5, ?_, ?_⟩
    · rw [rowlen_mixT hi'] at a6 ⊢
      exact (World.cell?_of_block (w := w) (hO.block b (by omega) (by omega))).trans a6
    · by_cases ei : i = p
      · subst ei
        rw [row_mixT hi', if_pos (by omega)]; exact hC
      · have hne := h2 i p hi' hp ei
        rw [row_mixT hi'] at a7 ⊢
        have : (if i < p + 1 then marks (rw_ T i).length (k + off T i) else rw_ T i) = if i < p then marks (rw_ T i).length (k + off T i) else rw_ T i := by
          by_cases hlt : i < p
          · rw [if_pos hlt, if_pos (by omega)]
          · rw [if_neg hlt, if_neg (by omega)]
        rw [this]
        exact a7.keep (hO.block _ (by omega) (by omega))
  · rw [len_mixT] at hi' hj
    exact h2 i j hi' hj hne

end Go.Proofs.Ythllbekoidogpaa
