
/- What chapter 10's laws draw. -/
import Derived.Test.YthllbekoidogpaaDrawSames
import Derived.Test.YthllbekoidogpaaDrawFrees
import Derived.Test.YthllbekoidogpaaSidenT
namespace Go.Proofs.Ythllbekoidogpaa
open Go.RowKit
set_option linter.unusedVariables false
set_option linter.unusedSimpArgs false
set_option maxHeartbeats 2000000 in
theorem drawIdentityAt_any (A : Option Addr) (n c : Nat) (w : World) (h : Bytes w w.heap.size A n) (hc : n ≤ c) (hc2 : c ≤ 9223372036854775807) :
    Calls Try.prog 26 #[.slice A n c] w (DrawnI (-1) 9 w) := by
  go_enter Try.func26, Try.ntmps26
  go_wp2_with fail
  refine (open_any A n c w h hc hc2).mono ?_
  rintro e w1 ⟨A1, n1, c1, rfl, b1, s1⟩
  go_wp2_with fail
  refine (pick_st 11 s1 (by omega) (by omega) (by omega)).mono ?_
  rintro e w2 ⟨x, rfl, hx, s2, o2⟩
  have z2 := o2.size
  go_wp2
  go_ret
  exact ⟨((x : Int) - 1), rfl, by omega, by omega, b1.trans (o2.below (by first | exact s1.lo | omega | exact Nat.le_refl _) b1.size)⟩
set_option maxHeartbeats 2000000 in
theorem drawAlwaysOk_any (A : Option Addr) (n c : Nat) (w : World) (h : Bytes w w.heap.size A n) (hc : n ≤ c) (hc2 : c ≤ 9223372036854775807) :
    Calls Try.prog 44 #[.slice A n c] w (DrawnP w) := by
  go_enter Try.func44, Try.ntmps44
  go_wp2_with fail
  refine (open_any A n c w h hc hc2).mono ?_
  rintro e w1 ⟨A1, n1, c1, rfl, b1, s1⟩
  go_wp2_with fail
  refine (pair_st s1 (by omega)).mono ?_
  rintro e w2 ⟨u, v, P2, rfl, hu, hv, s2, _, _⟩
  go_wp2
  go_ret2
  exact ⟨u, v, rfl, by omega, hv, b1.trans (s2.only.below (Nat.le_refl _) b1.size)⟩
theorem id_short (n : Int) : (iuW n).length ≤ 40 ∧ (ivW n).length ≤ 40 := by
  cases h : inI n
  · rw [iuW_not h, ivW_not h]; simp
  · have hk : n.toNat < 9 := by
      unfold inI at h
      rw [Bool.and_eq_true, decide_eq_true_iff, decide_eq_true_iff] at h
      omega
    unfold iuW ivW
    rw [h]
    have h1 := (okW_iff.1 (idU_ok hk)).2.2
    have h2 := (okW_iff.1 (idV_ok hk)).2.2
    simp only [if_true]
    omega
set_option maxHeartbeats 2000000 in
theorem drawHoldsIn_any (A : Option Addr) (n c : Nat) (w : World) (h : Bytes w w.heap.size A n) (hc : n ≤ c) (hc2 : c ≤ 9223372036854775807) :
    Calls Try.prog 13 #[.slice A n c] w (DrawnA w) := by
  go_enter Try.func13, Try.ntmps13
  go_wp2_with fail
  refine (open_any A n c w h hc hc2).mono ?_
  rintro e w1 ⟨A1, n1, c1, rfl, b1, s1⟩
  go_wp2_with fail
  refine (table_st 14 s1 (by omega) (by omega) (by omega)).mono ?_
  rintro e w2 ⟨A2, c2, T, P2, rfl, m2, hS, s2, hP2, hT9⟩
  have hg := s1.lt
  go_wp2_with fail
  refine (pick_st 2 s2 (by omega) (by omega) (by omega)).mono ?_
  rintro e_ w3 ⟨x, rfl, hx, s3, o3⟩
  have m3 := m2.only o3 (by omega) (by omega)
  have z3 := o3.size
  have zz := s2.only.size
  by_cases hx0 : x = 0
  · subst hx0
    go_wp2_with fail
    refine (pick_st 9 s3 (by omega) (by omega) (by omega)).mono ?_
    rintro e_ w4 ⟨y, rfl, hy, s4, o4⟩
    have m4 := m3.only o4 (by omega) (by omega)
    have z4 := o4.size
    obtain ⟨i1, i2⟩ := id_short (y : Int)
    go_wp2_with fail
    refine (sIdentityAt_any (y : Int) _).mono ?_
    rintro e w5 ⟨rfl, b5⟩
    have m5 := m4.below b5 (by omega)
    have B4 := b1.trans (s4.only.below (Nat.le_refl _) b1.size)
    have z5 := b5.size
    go_wp2
    refine bodyPost_ret (results_tmp3 rfl _ _ _) rfl ?_
    exact ⟨A2, c2, T, _, _, rfl, B4.trans (b5.mono B4.size), m5.mono (by have := b1.size; omega) (by omega), hS, by omega, by omega⟩
  · have hx1 : ((x : Int) == 0) = false := beq_eq_false_iff_ne.2 (by omega)
    go_wp2_with fail
    refine (pair_st s3 (by omega)).mono ?_
    rintro e w4 ⟨u, v, P4, rfl, hu, hv, s4, _, o4⟩
    have m4 := m3.only o4 (by omega) (by omega)
    have z4 := o4.size
    have B4 := s4.only
    go_wp2
    refine bodyPost_ret (results_tmp3 rfl _ _ _) rfl ?_
    exact ⟨A2, c2, T, u, v, rfl, b1.trans (B4.below (Nat.le_refl _) b1.size), m4.mono (by have := b1.size; omega) (by omega), hS, by omega, hv⟩
set_option maxHeartbeats 2000000 in
theorem drawTurnedKind_any (A : Option Addr) (n c : Nat) (w : World) (h : Bytes w w.heap.size A n) (hc : n ≤ c) (hc2 : c ≤ 9223372036854775807) :
    Calls Try.prog 40 #[.slice A n c] w (DrawnI (-2000) 1100 w) := by
  go_enter Try.func40, Try.ntmps40
  go_wp2_with fail
  refine (open_any A n c w h hc hc2).mono ?_
  rintro e w1 ⟨A1, n1, c1, rfl, b1, s1⟩
  go_wp2_with fail
  refine (pick_st 256 s1 (by omega) (by omega) (by omega)).mono ?_
  rintro e_ w2 ⟨x1, rfl, h1, s2, o2⟩
  go_wp2_with fail
  refine (pick_st 2 s2 (by omega) (by omega) (by omega)).mono ?_
  rintro e_ w3 ⟨x2, rfl, h2, s3, o3⟩
  go_wp2_with fail
  refine (pick_st 20 s3 (by omega) (by omega) (by omega)).mono ?_
  rintro e_ w4 ⟨x3, rfl, h3, s4, o4⟩
  obtain ⟨q, hq⟩ : ∃ q, q = x3 / 19 := ⟨_, rfl⟩
  have q1 : ((x3 : Int) / 19) = (q : Int) := by omega
  have q2 : ((x3 : Int).tdiv 19) = (q : Int) := by rw [Int.tdiv_eq_ediv_of_nonneg (by omega)]; exact q1
  have q3 : q ≤ 1 := by omega
  clear hq
  go_wp2_with fail
  refine (pick_st 30 s4 (by omega) (by omega) (by omega)).mono ?_
  rintro e_ w5 ⟨x4, rfl, h4, s5, o5⟩
  obtain ⟨r, hr⟩ : ∃ q, q = x4 / 29 := ⟨_, rfl⟩
  have r1 : ((x4 : Int) / 29) = (r : Int) := by omega
  have r2 : ((x4 : Int).tdiv 29) = (r : Int) := by rw [Int.tdiv_eq_ediv_of_nonneg (by omega)]; exact r1
  have r3 : r ≤ 1 := by omega
  clear hr
  have B5 := b1.trans (s5.only.below (Nat.le_refl _) b1.size)
  go_wp2
  go_ret
  exact ⟨_, rfl, by omega, by omega, B5⟩
set_option maxHeartbeats 2000000 in
theorem drawKindOf_any (A : Option Addr) (n c : Nat) (w : World) (h : Bytes w w.heap.size A n) (hc : n ≤ c) (hc2 : c ≤ 9223372036854775807) :
    Calls Try.prog 30 #[.slice A n c] w (Drawn w) := by
  go_enter Try.func30, Try.ntmps30
  go_wp2_with fail
  refine (open_any A n c w h hc hc2).mono ?_
  rintro e w1 ⟨A1, n1, c1, rfl, b1, s1⟩
  go_wp2_with fail
  refine (table_st 9 s1 (by omega) (by omega) (by omega)).mono ?_
  rintro e w2 ⟨A2, c2, T, P2, rfl, hM, hS, s2, _⟩
  go_wp2
  go_ret
  exact ⟨A2, c2, T, rfl, b1.trans (s2.only.below (Nat.le_refl _) b1.size), hM.mono b1.size (Nat.le_refl _), hS⟩
end Go.Proofs.Ythllbekoidogpaa
