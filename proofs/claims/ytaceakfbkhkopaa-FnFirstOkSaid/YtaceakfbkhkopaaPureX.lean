
/- Tables of pairs: plain mathematics. -/
import Derived.Test.YtaceakfbkhkopaaTimes2
namespace Go.Proofs.Ytaceakfbkhkopaa
set_option linter.unusedVariables false
theorem pair_div {e f m : Int} (hm : 0 < m) (f0 : 0 ≤ f) (f1 : f < m) : (e * m + f) / m = e ∧ (e * m + f) % m = f := by
  have h : e * m + f = f + e * m := by omega
  rw [h]
  refine ⟨?_, ?_⟩
  · rw [Int.add_mul_ediv_right _ _ (by omega), Int.ediv_eq_zero_of_lt f0 f1, Int.zero_add]
  · rw [Int.add_mul_emod_self_right, Int.emod_eq_of_lt f0 f1]
/-- The product of two pairs, at integers. -/
def pairZ (T U : List (List Int)) (x y : Int) : Int := mul T (x / (U.length : Int)) (y / (U.length : Int)) * (U.length : Int) + mul U (x % (U.length : Int)) (y % (U.length : Int))
section
variable {T U : List (List Int)}
theorem in_div (h : canB T U = true) {x : Int} (x0 : 0 ≤ x) (x1 : x < ((T.length * U.length : Nat) : Int)) : (0 ≤ x / (U.length : Int) ∧ x / (U.length : Int) < T.length) ∧ 0 ≤ x % (U.length : Int) ∧ x % (U.length : Int) < U.length := by
  obtain ⟨_, k2, _⟩ := canB_iff.1 h
  have u1 := k2.lo
  have := divIn (p := x.toNat) (n := T.length) (m := U.length) u1 (by omega)
  rw [Int.toNat_of_nonneg x0] at this
  exact ⟨this, Int.emod_nonneg _ (by omega), Int.emod_lt_of_pos _ (by omega)⟩
theorem pair_in (h : canB T U = true) {e f : Int} (e0 : 0 ≤ e) (e1 : e < T.length) (f0 : 0 ≤ f) (f1 : f < U.length) : 0 ≤ e * (U.length : Int) + f ∧ e * (U.length : Int) + f < ((T.length * U.length : Nat) : Int) := by
  have hm : 0 ≤ e * (U.length : Int) := Int.mul_nonneg e0 (by omega)
  have h2 : (e + 1) * (U.length : Int) ≤ (T.length : Int) * (U.length : Int) := Int.mul_le_mul_of_nonneg_right (by omega) (by omega)
  rw [Int.add_mul, Int.one_mul] at h2
  rw [Int.natCast_mul]
  omega
theorem len_times (h : canB T U = true) : (timesT T U).length = T.length * U.length := by rw [timesT_ok h, len_tabOf]
theorem mul_times (h : canB T U = true) {x y : Int} (x0 : 0 ≤ x) (x1 : x < ((T.length * U.length : Nat) : Int)) (y0 : 0 ≤ y) (y1 : y < ((T.length * U.length : Nat) : Int)) : mul (timesT T U) x y = pairZ T U x y := by
  rw [timesT_ok h]
  unfold mul
  rw [el_tabOf (by omega) (by omega)]
  unfold pairM pairZ
  rw [Int.toNat_of_nonneg x0, Int.toNat_of_nonneg y0]
theorem pairZ_div (h : canB T U = true) {x y : Int} (x0 : 0 ≤ x) (x1 : x < ((T.length * U.length : Nat) : Int)) (y0 : 0 ≤ y) (y1 : y < ((T.length * U.length : Nat) : Int)) :
    pairZ T U x y / (U.length : Int) = mul T (x / (U.length : Int)) (y / (U.length : Int)) ∧ pairZ T U x y % (U.length : Int) = mul U (x % (U.length : Int)) (y % (U.length : Int)) ∧ 0 ≤ pairZ T U x y ∧ pairZ T U x y < ((T.length * U.length : Nat) : Int) := by
  obtain ⟨k, k2, _⟩ := canB_iff.1 h
  obtain ⟨⟨a0, a1⟩, b0, b1⟩ := in_div h x0 x1
  obtain ⟨⟨c0, c1⟩, d0, d1⟩ := in_div h y0 y1
  obtain ⟨e0, e1⟩ := k.mul a0 a1 c0 c1
  obtain ⟨f0, f1⟩ := k2.mul b0 b1 d0 d1
  have u1 := k2.lo
  obtain ⟨p1, p2⟩ := pair_div (e := mul T (x / (U.length : Int)) (y / (U.length : Int))) (m := (U.length : Int)) (by omega) f0 f1
  exact ⟨p1, p2, pair_in h e0 e1 f0 f1⟩
theorem isT_times (h : canB T U = true) : IsT (timesT T U) := by
  obtain ⟨k, k2, h9⟩ := canB_iff.1 h
  have hl := len_times h
  refine ⟨by rw [hl]; exact Nat.mul_pos k.lo k2.lo, by rw [hl]; exact h9, fun i hi => ?_, fun i j hi hj => ?_⟩
  · rw [hl] at hi ⊢
    rw [timesT_ok h, rowlen_tabOf hi]
  · rw [hl] at hi hj ⊢
    have := pairZ_div h (x := (i : Nat)) (y := (j : Nat)) (by omega) (by omega) (by omega) (by omega)
    rw [timesT_ok h, el_tabOf hi hj]
    exact this.2.2
theorem isG_times (h : canB T U = true) (g1 : IsG T) (g2 : IsG U) : IsG (timesT T U) := by
  have hl := len_times h
  refine ⟨isT_times h, fun x y z x0 x1 y0 y1 z0 z1 => ?_⟩
  rw [hl] at x1 y1 z1
  obtain ⟨⟨a0, a1⟩, b0, b1⟩ := in_div h x0 x1
  obtain ⟨⟨c0, c1⟩, d0, d1⟩ := in_div h y0 y1
  obtain ⟨⟨e0, e1⟩, f0, f1⟩ := in_div h z0 z1
  obtain ⟨p1, p2, p3, p4⟩ := pairZ_div h y0 y1 z0 z1
  obtain ⟨q1, q2, q3, q4⟩ := pairZ_div h x0 x1 y0 y1
  rw [mul_times h y0 y1 z0 z1, mul_times h x0 x1 y0 y1, mul_times h x0 x1 p3 p4, mul_times h q3 q4 z0 z1]
  show mul T _ _ * _ + mul U _ _ = mul T _ _ * _ + mul U _ _
  rw [p1, p2, q1, q2, g1.grp _ _ _ a0 a1 c0 c1 e0 e1, g2.grp _ _ _ b0 b1 d0 d1 f0 f1]
theorem isG_of_times (h : canB T U = true) (g : IsG (timesT T U)) : IsG T ∧ IsG U := by
  obtain ⟨k, k2, _⟩ := canB_iff.1 h
  have hl := len_times h
  have t1 := k.lo
  have u1 := k2.lo
  have main : ∀ a b c d e f : Int, 0 ≤ a → a < T.length → 0 ≤ b → b < U.length → 0 ≤ c → c < T.length → 0 ≤ d → d < U.length → 0 ≤ e → e < T.length → 0 ≤ f → f < U.length →
      mul T a (mul T c e) = mul T (mul T a c) e ∧ mul U b (mul U d f) = mul U (mul U b d) f := fun a b c d e f a0 a1 b0 b1 c0 c1 d0 d1 e0 e1 f0 f1 => by
    obtain ⟨x0, x1⟩ := pair_in h a0 a1 b0 b1
    obtain ⟨y0, y1⟩ := pair_in h c0 c1 d0 d1
    obtain ⟨z0, z1⟩ := pair_in h e0 e1 f0 f1
    obtain ⟨dx, mx⟩ := pair_div (e := a) (by omega : (0 : Int) < (U.length : Int)) b0 b1
    obtain ⟨dy, my⟩ := pair_div (e := c) (by omega : (0 : Int) < (U.length : Int)) d0 d1
    obtain ⟨dz, mz⟩ := pair_div (e := e) (by omega : (0 : Int) < (U.length : Int)) f0 f1
    have := g.grp _ _ _ x0 (by rw [hl]; exact x1) y0 (by rw [hl]; exact y1) z0 (by rw [hl]; exact z1)
    obtain ⟨p1, p2, p3, p4⟩ := pairZ_div h y0 y1 z0 z1
    obtain ⟨q1, q2, q3, q4⟩ := pairZ_div h x0 x1 y0 y1
    rw [mul_times h y0 y1 z0 z1, mul_times h x0 x1 y0 y1, mul_times h x0 x1 p3 p4, mul_times h q3 q4 z0 z1] at this
    obtain ⟨r1, r2, _⟩ := pairZ_div h x0 x1 p3 p4
    obtain ⟨s1, s2, _⟩ := pairZ_div h q3 q4 z0 z1
    rw [this] at r1 r2
    rw [p1, dx, dy, dz] at r1
    rw [p2, mx, my, mz] at r2
    rw [q1, dx, dy, dz] at s1
    rw [q2, mx, my, mz] at s2
    exact ⟨r1.symm.trans s1, r2.symm.trans s2⟩
  exact ⟨⟨k, fun x y z x0 x1 y0 y1 z0 z1 => (main x 0 y 0 z 0 x0 x1 (by omega) (by omega) y0 y1 (by omega) (by omega) z0 z1 (by omega) (by omega)).1⟩,
    ⟨k2, fun x y z x0 x1 y0 y1 z0 z1 => (main 0 x 0 y 0 z (by omega) (by omega) x0 x1 (by omega) (by omega) y0 y1 (by omega) (by omega) z0 z1).2⟩⟩
theorem grpT_times (h : canB T U = true) : grpT (timesT T U) = (grpT T && grpT U) := by
  cases e1 : grpT T <;> cases e2 : grpT U
  · exact grpT_false fun g => by have := grpT_iff.2 (isG_of_times h g).1; rw [e1] at this; cases this
  · exact grpT_false fun g => by have := grpT_iff.2 (isG_of_times h g).1; rw [e1] at this; cases this
  · exact grpT_false fun g => by have := grpT_iff.2 (isG_of_times h g).2; rw [e2] at this; cases this
  · exact grpT_iff.2 (isG_times h (grpT_iff.1 e1) (grpT_iff.1 e2))
theorem can_one (h : okT T = true) : canB T [[0]] = true := by
  have := (okT_iff.1 h).hi
  exact canB_iff.2 ⟨okT_iff.1 h, okT_iff.1 (by decide), by simpa using this⟩
theorem times_one (h : okT T = true) : timesT T [[0]] = T := by
  have k := okT_iff.1 h
  have hc := can_one h
  rw [timesT_ok hc]
  apply List.ext_getElem
  · rw [len_tabOf]; simp
  · intro i hi1 hi2
    rw [len_tabOf] at hi1
    rw [← rw_eq (by rw [len_tabOf]; exact hi1), ← rw_eq hi2, row_tabOf hi1]
    have hl := k.len i hi2
    apply List.ext_getElem
    · simp [hl]
    · intro j hj1 hj2
      have hj : j < T.length := by simpa using hj1
      rw [← el_eq hj2]
      simp only [List.getElem_map, List.getElem_range]
      unfold pairM mul
      simp [rw_, el]
end
end Go.Proofs.Ytaceakfbkhkopaa
