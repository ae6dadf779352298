
/- The product of two things as the program reads it, and whether brackets matter. -/
import Derived.Test.YtnennilpedediaaDoorHelp
import Derived.Test.YtnennilpedediaaDoorTab
import Derived.Deep.RegionHeld3
import Derived.Deep.AppendLies
namespace Go.Proofs.YtnennilpedediaaDoor
open Go.RowKit
set_option linter.unusedVariables false


/-- A table in memory at which x and y are things: what a product reads. -/
theorem Mat.at_ {w : World} {lo hi : Nat} {A : Option Addr} {T : List (List Int)} (h : Mat w lo hi A T) (k : IsT T) {x y : Int} (hx0 : 0 ≤ x) (hx1 : x < T.length) (hy0 : 0 ≤ y) (hy1 : y < T.length) :
    ∃ b o b2 o2 c, A = some ⟨b, o, none⟩ ∧ lo ≤ b ∧ b < hi ∧ w.cell? ⟨b, o + x.toNat, none⟩ = some (.slice (some ⟨b2, o2, none⟩) T.length c) ∧ lo ≤ b2 ∧ b2 < hi ∧ w.cell? ⟨b2, o2 + y.toNat, none⟩ = some (.int .i64 (mul T x y)) := by
  obtain ⟨b, o, A', c, rfl, h1, h2, hc, hR⟩ := h x.toNat (by omega)
  have hl := k.len x.toNat (by omega)
  obtain ⟨b2, o2, rfl, h3, h4, hc2⟩ := hR y.toNat (by omega)
  rw [hl] at hc
  exact ⟨b, o, b2, o2, c, rfl, h1, h2, hc, h3, h4, hc2⟩

/-- What stays while a call that makes memory reads a table. -/
structure GS (w : World) (lo hi : Nat) (A : Option Addr) (T : List (List Int)) (w' : World) : Prop where
  mat : Mat w' lo hi A T
  hh : hi ≤ w.heap.size
  size : w.heap.size < w'.heap.size
  below : Below w.heap.size w w'
theorem GS.step {w w0 w1 : World} {lo hi : Nat} {A : Option Addr} {T : List (List Int)} (hb : Below w0.heap.size w0 w1) (h : GS w lo hi A T w0) : GS w lo hi A T w1 :=
  ⟨h.mat.below hb (by have := h.hh; have := h.size; omega), h.hh, Nat.lt_of_lt_of_le h.size hb.size, h.below.trans (hb.mono (Nat.le_of_lt h.size))⟩
theorem GS.cell {w w0 w1 : World} {lo hi : Nat} {A : Option Addr} {T : List (List Int)} (hb : Below w0.heap.size w0 w1) (h : GS w lo hi A T w0) {v : Option Value} (hc : w0.cell? ⟨w.heap.size, 0, none⟩ = v) : w1.cell? ⟨w.heap.size, 0, none⟩ = v :=
  (hb.cell (p := ⟨w.heap.size, 0, none⟩) h.size).trans hc
theorem GS.top {w w0 : World} {lo hi : Nat} {A : Option Addr} {T : List (List Int)} (h : GS w lo hi A T w0) : hi ≤ w0.heap.size := by have := h.hh; have := h.size; omega
theorem GS.drew {w w0 : World} {lo hi : Nat} {A : Option Addr} {T : List (List Int)} (h : GS w lo hi A T w0) : GS w lo hi A T w0.drew := ⟨h.mat, h.hh, h.size, h.below.drew⟩

end Go.Proofs.YtnennilpedediaaDoor
