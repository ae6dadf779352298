
/- A table turned over: plain mathematics. -/
import Derived.Test.YtaceakfbkhkopaaTurn
namespace Go.Proofs.Ytaceakfbkhkopaa
set_option linter.unusedVariables false
theorem mul_turnT {T : List (List Int)} (h : okT T = true) {x y : Int} (hx0 : 0 ≤ x) (hx1 : x < T.length) (hy0 : 0 ≤ y) (hy1 : y < T.length) : mul (turnT T) x y = mul T y x := by
  rw [turnT_ok h]
  unfold mul
  rw [el_tabOf (by omega) (by omega), Int.toNat_of_nonneg hx0, Int.toNat_of_nonneg hy0]
theorem len_turnT {T : List (List Int)} (h : okT T = true) : (turnT T).length = T.length := by rw [turnT_ok h, len_tabOf]
theorem isT_turnT {T : List (List Int)} (h : okT T = true) : IsT (turnT T) := by
  have k := okT_iff.1 h
  refine ⟨by rw [len_turnT h]; exact k.lo, by rw [len_turnT h]; exact k.hi, fun i hi => ?_, fun i j hi hj => ?_⟩
  · rw [len_turnT h] at hi ⊢
    rw [turnT_ok h, rowlen_tabOf hi]
  · rw [len_turnT h] at hi hj ⊢
    rw [turnT_ok h, el_tabOf hi hj]
    exact k.mul (by omega) (by omega) (by omega) (by omega)
theorem turnT_turnT {T : List (List Int)} (h : okT T = true) : turnT (turnT T) = T := by
  have k := okT_iff.1 h
  have h2 : okT (turnT T) = true := okT_iff.2 (isT_turnT h)
  rw [turnT_ok h2, len_turnT h]
  apply List.ext_getElem
  · rw [len_tabOf]
  · intro i hi1 hi2
    rw [len_tabOf] at hi1
    rw [← rw_eq (by rw [len_tabOf]; exact hi1), ← rw_eq hi2, row_tabOf hi1]
    have hl := k.len i hi2
    apply List.ext_getElem
    · simp [hl]
    · intro j hj1 hj2
      have hj : j < T.length := by simpa using hj1
      rw [← el_eq hj2]
      simp only [List.getElem_map, List.getElem_range]
      rw [mul_turnT h (by omega) (by omega) (by omega) (by omega)]
      rfl
theorem small_turnT {T : List (List Int)} : Small (turnT T) := by
  cases hk : okT T
  · rw [turnT_not hk]; exact ⟨by simp, fun i hi => absurd hi (Nat.not_lt_zero _)⟩
  · exact (isT_turnT hk).small
theorem turnT_nil {T : List (List Int)} : (turnT T).length = 0 ↔ okT T = false := by
  cases h : okT T with
  | false => rw [turnT_not h]; simp
  | true => rw [len_turnT h]; have := (okT_iff.1 h).lo; exact ⟨fun hh => by omega, fun hh => by cases hh⟩
theorem isG_turnT {T : List (List Int)} (h : IsG T) : IsG (turnT T) := by
  have ho := okT_iff.2 h.tab
  refine ⟨isT_turnT ho, fun x y z hx0 hx1 hy0 hy1 hz0 hz1 => ?_⟩
  rw [len_turnT ho] at hx1 hy1 hz1
  obtain ⟨a0, a1⟩ := h.tab.mul hz0 hz1 hy0 hy1
  obtain ⟨b0, b1⟩ := h.tab.mul hy0 hy1 hx0 hx1
  rw [mul_turnT ho hy0 hy1 hz0 hz1, mul_turnT ho hx0 hx1 hy0 hy1, mul_turnT ho hx0 hx1 a0 a1, mul_turnT ho b0 b1 hz0 hz1]
  exact (h.grp z y x hz0 hz1 hy0 hy1 hx0 hx1).symm
theorem grpT_turnT {T : List (List Int)} (h : okT T = true) : grpT (turnT T) = grpT T := by
  cases e : grpT T with
  | true => exact grpT_iff.2 (isG_turnT (grpT_iff.1 e))
  | false =>
    cases e2 : grpT (turnT T) with
    | false => rfl
    | true =>
      have := isG_turnT (grpT_iff.1 e2)
      rw [turnT_turnT h, ← grpT_iff, e] at this
      cases this
end Go.Proofs.Ytaceakfbkhkopaa
