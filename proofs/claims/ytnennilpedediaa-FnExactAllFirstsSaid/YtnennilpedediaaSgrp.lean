
/- spec.GroupedOk: whether brackets matter, asked of all threes of things counted as one number. -/
import Derived.Test.YtnennilpedediaaGrp
namespace Go.Proofs.Ytnennilpedediaa
open Go.RowKit
set_option linter.unusedVariables false


/-- What a table of things holds in memory. -/
theorem Mat.head {w : World} {lo hi : Nat} {A : Option Addr} {T : List (List Int)} (h : Mat w lo hi A T) (k : IsT T) :
    ∃ b o, A = some ⟨b, o, none⟩ ∧ lo ≤ b ∧ b < hi ∧ ∀ x : Int, 0 ≤ x → x < T.length → ∃ b2 o2 c, w.cell? ⟨b, o + x.toNat, none⟩ = some (.slice (some ⟨b2, o2, none⟩) T.length c) ∧ lo ≤ b2 ∧ b2 < hi ∧
      ∀ y : Int, 0 ≤ y → y < T.length → w.cell? ⟨b2, o2 + y.toNat, none⟩ = some (.int .i64 (mul T x y)) := by
  have h0 := k.lo
  obtain ⟨b, o, _, _, rfl, h1, h2, _⟩ := h 0 (by omega)
  refine ⟨b, o, rfl, h1, h2, fun x hx0 hx1 => ?_⟩
  obtain ⟨b', o', A', c, e, _, _, hc, hR⟩ := h x.toNat (by omega)
  obtain ⟨rfl, rfl⟩ : b = b' ∧ o = o' := by simpa using e
  have hl := k.len x.toNat (by omega)
  rw [hl] at hc
  obtain ⟨b2, o2, rfl, h3, h4, _⟩ := hR 0 (by omega)
  refine ⟨b2, o2, c, hc, h3, h4, fun y hy0 hy1 => ?_⟩
  obtain ⟨b3, o3, e3, _, _, hc3⟩ := hR y.toNat (by omega)
  obtain ⟨rfl, rfl⟩ : b2 = b3 ∧ o2 = o3 := by simpa using e3
  exact hc3

end Go.Proofs.Ytnennilpedediaa
