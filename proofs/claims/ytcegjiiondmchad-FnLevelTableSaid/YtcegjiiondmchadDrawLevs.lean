
/- What chapter 4's laws draw. -/
import Derived.Test.YtcegjiiondmchadDrawBands
import Derived.Test.YtcegjiiondmchadDrawSet
import Derived.Test.YtcegjiiondmchadSlset
namespace Go.Proofs.Ytcegjiiondmchad
open Go.RowKit
set_option linter.unusedVariables false

set_option maxHeartbeats 1000000 in
theorem drawLevelsOf_any (A : Option Addr) (n c : Nat) (w : World) (h : Bytes w w.heap.size A n) (hc : n ≤ c) (hc2 : c ≤ 9223372036854775807) :
    Calls Try.prog 13 #[.slice A n c] w (Drawn w) := by
  go_enter Try.func13, Try.ntmps13
  go_wp2_with fail
  refine (open_any A n c w h hc hc2).mono ?_
  rintro e w1 ⟨A1, n1, c1, rfl, b1, s1⟩
  go_wp2_with fail
  refine (band_any _ _ _ _ _ _ 9 _ s1.rd (by omega) (by omega) (by omega)).mono ?_
  rintro e w2 ⟨A2, c2, T, P2, rfl, hM, hS, s2, _, _⟩
  go_wp2
  go_ret
  exact ⟨A2, c2, T, rfl, b1.trans (s2.only.below (Nat.le_refl _) b1.size), hM.mono b1.size (Nat.le_refl _), hS⟩

set_option maxHeartbeats 1000000 in
theorem drawCountLevels_any (A : Option Addr) (n c : Nat) (w : World) (h : Bytes w w.heap.size A n) (hc : n ≤ c) (hc2 : c ≤ 9223372036854775807) :
    Calls Try.prog 19 #[.slice A n c] w (Drawn w) := by
  go_enter Try.func19, Try.ntmps19
  go_wp2_with fail
  refine (open_any A n c w h hc hc2).mono ?_
  rintro e w1 ⟨A1, n1, c1, rfl, b1, s1⟩
  go_wp2_with fail
  refine (band_any _ _ _ _ _ _ 9 _ s1.rd (by omega) (by omega) (by omega)).mono ?_
  rintro e w2 ⟨A2, c2, T, P2, rfl, hM, hS, s2, _, _⟩
  go_wp2
  go_ret
  exact ⟨A2, c2, T, rfl, b1.trans (s2.only.below (Nat.le_refl _) b1.size), hM.mono b1.size (Nat.le_refl _), hS⟩

set_option maxHeartbeats 1000000 in
theorem drawLevelTable_any (A : Option Addr) (n c : Nat) (w : World) (h : Bytes w w.heap.size A n) (hc : n ≤ c) (hc2 : c ≤ 9223372036854775807) :
    Calls Try.prog 24 #[.slice A n c] w (Drawn w) := by
  go_enter Try.func24, Try.ntmps24
  go_wp2_with fail
  refine (open_any A n c w h hc hc2).mono ?_
  rintro e w1 ⟨A1, n1, c1, rfl, b1, s1⟩
  go_wp2_with fail
  refine (band_any _ _ _ _ _ _ 9 _ s1.rd (by omega) (by omega) (by omega)).mono ?_
  rintro e w2 ⟨A2, c2, T, P2, rfl, hM, hS, s2, _, _⟩
  go_wp2
  go_ret
  exact ⟨A2, c2, T, rfl, b1.trans (s2.only.below (Nat.le_refl _) b1.size), hM.mono b1.size (Nat.le_refl _), hS⟩

set_option maxHeartbeats 2000000 in
theorem drawLevelSet_any (A : Option Addr) (n c : Nat) (w : World) (h : Bytes w w.heap.size A n) (hc : n ≤ c) (hc2 : c ≤ 9223372036854775807) :
    Calls Try.prog 28 #[.slice A n c] w (DrawnS w) := by
  go_enter Try.func28, Try.ntmps28
  go_wp2_with fail
  refine (open_any A n c w h hc hc2).mono ?_
  rintro e w1 ⟨A1, n1, c1, rfl, b1, s1⟩
  go_wp2_with fail
  refine (band_any _ _ _ _ _ _ 12 _ s1.rd (by omega) (by omega) (by omega)).mono ?_
  rintro e w2 ⟨A2, c2, T, P2, rfl, hM, hS, s2, _, _⟩
  have hlT := hS.len
  have B2 := b1.trans (s2.only.below (Nat.le_refl _) b1.size)
  obtain ⟨n0, n1_⟩ := countT_lo T
  go_wp2_with fail
  refine (sCountLevels_any _ _ _ _ _ _ hM (Nat.le_refl _) hS).mono ?_
  rintro e w3 ⟨rfl, b3⟩
  have s3 := s2.below b3
  have m3 := hM.below b3 (Nat.le_refl _)
  have z3 := b3.size
  have hcase : countT T = -1 ∨ 0 ≤ countT T := by omega
  rcases hcase with e | e
  · rw [e]
    go_wp2_with fail
    refine (pick_st 2 s3 (by omega) (by omega) (by omega)).mono ?_
    rintro e_ w4 ⟨k4, rfl, hk4, s4, o4⟩
    have z4 := o4.size
    have m4 := m3.only o4 (by omega) (by have := s1.lt; omega)
    go_wp2_with fail
    refine (pick_st 20 s4 (by omega) (by omega) (by omega)).mono ?_
    rintro e_ w5 ⟨k5, rfl, hk5, s5, o5⟩
    have m5 := m4.only o5 (by omega) (by have := s1.lt; omega)
    have z5 := o5.size
    obtain ⟨q1, q2, q3, q4⟩ := wrapQ (k5 : Int) 19 (by omega) (by omega) (by omega)
    have q5 : 0 ≤ (k5 : Int) / 19 := by omega
    have q6 : (k5 : Int) / 19 ≤ 1 := by omega
    have fin : DrawnS w (.returned (.tuple #[.slice A2 T.length c2, .int .i64 ((k4 : Int) - (k5 : Int) / 19)])) w5 :=
      ⟨A2, c2, T, _, rfl, b1.trans (s5.only.below (Nat.le_refl _) b1.size), m5.mono b1.size (by omega), hS⟩
    have FIN := hide fin
    clear fin
    go_wp2
    go_ret2
    exact FIN.out
  · have e2 : ¬ countT T < 0 := by omega
    go_wp2_with fail
    refine (pick_st (countT T + 2) s3 (by omega) (by omega) (by omega)).mono ?_
    rintro e_ w4 ⟨k4, rfl, hk4, s4, o4⟩
    have z4 := o4.size
    have m4 := m3.only o4 (by omega) (by have := s1.lt; omega)
    go_wp2_with fail
    refine (pick_st 20 s4 (by omega) (by omega) (by omega)).mono ?_
    rintro e_ w5 ⟨k5, rfl, hk5, s5, o5⟩
    have m5 := m4.only o5 (by omega) (by have := s1.lt; omega)
    have z5 := o5.size
    obtain ⟨q1, q2, q3, q4⟩ := wrapQ (k5 : Int) 19 (by omega) (by omega) (by omega)
    have q5 : 0 ≤ (k5 : Int) / 19 := by omega
    have q6 : (k5 : Int) / 19 ≤ 1 := by omega
    have fin : DrawnS w (.returned (.tuple #[.slice A2 T.length c2, .int .i64 ((k4 : Int) - (k5 : Int) / 19)])) w5 :=
      ⟨A2, c2, T, _, rfl, b1.trans (s5.only.below (Nat.le_refl _) b1.size), m5.mono b1.size (by omega), hS⟩
    have FIN := hide fin
    clear fin
    go_wp2
    go_ret2
    exact FIN.out

set_option maxHeartbeats 1000000 in
theorem drawLevelPart_any (A : Option Addr) (n c : Nat) (w : World) (h : Bytes w w.heap.size A n) (hc : n ≤ c) (hc2 : c ≤ 9223372036854775807) :
    Calls Try.prog 32 #[.slice A n c] w (DrawnS w) := by
  go_enter Try.func32, Try.ntmps32
  go_wp2_with fail
  refine (drawLevelSet_any A n c w h hc hc2).mono ?_
  rintro e w1 ⟨A1, c1, T, z, rfl, b1, m1, hS⟩
  go_wp2
  go_ret2
  exact ⟨A1, c1, T, z, rfl, b1, m1, hS⟩
end Go.Proofs.Ytcegjiiondmchad
