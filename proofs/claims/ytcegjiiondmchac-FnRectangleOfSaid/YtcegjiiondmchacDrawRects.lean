
/- What chapter 3's laws draw. -/
import Derived.Test.YtcegjiiondmchacDrawRect
namespace Go.Proofs.Ytcegjiiondmchac
open Go.RowKit
set_option linter.unusedVariables false

set_option maxHeartbeats 1000000 in
theorem drawRectangularOk_any (A : Option Addr) (n c : Nat) (w : World) (h : Bytes w w.heap.size A n) (hc : n ≤ c) (hc2 : c ≤ 9223372036854775807) :
    Calls Try.prog 24 #[.slice A n c] w (Drawn w) := by
  go_enter Try.func24, Try.ntmps24
  go_wp2_with fail
  refine (open_any A n c w h hc hc2).mono ?_
  rintro e w1 ⟨A1, n1, c1, rfl, b1, s1⟩
  go_wp2_with fail
  refine (rect_st 9 s1 (by omega) (by omega)).mono ?_
  rintro e w2 ⟨A2, c2, T, P2, rfl, hM, hS, s2, _⟩
  go_wp2
  go_ret
  exact ⟨A2, c2, T, rfl, b1.trans (s2.only.below (Nat.le_refl _) b1.size), hM.mono b1.size (Nat.le_refl _), hS⟩

set_option maxHeartbeats 1000000 in
theorem drawRowsOf_any (A : Option Addr) (n c : Nat) (w : World) (h : Bytes w w.heap.size A n) (hc : n ≤ c) (hc2 : c ≤ 9223372036854775807) :
    Calls Try.prog 28 #[.slice A n c] w (Drawn w) := by
  go_enter Try.func28, Try.ntmps28
  go_wp2_with fail
  refine (open_any A n c w h hc hc2).mono ?_
  rintro e w1 ⟨A1, n1, c1, rfl, b1, s1⟩
  go_wp2_with fail
  refine (rect_st 9 s1 (by omega) (by omega)).mono ?_
  rintro e w2 ⟨A2, c2, T, P2, rfl, hM, hS, s2, _⟩
  go_wp2
  go_ret
  exact ⟨A2, c2, T, rfl, b1.trans (s2.only.below (Nat.le_refl _) b1.size), hM.mono b1.size (Nat.le_refl _), hS⟩

set_option maxHeartbeats 1000000 in
theorem drawColumnsOf_any (A : Option Addr) (n c : Nat) (w : World) (h : Bytes w w.heap.size A n) (hc : n ≤ c) (hc2 : c ≤ 9223372036854775807) :
    Calls Try.prog 32 #[.slice A n c] w (Drawn w) := by
  go_enter Try.func32, Try.ntmps32
  go_wp2_with fail
  refine (open_any A n c w h hc hc2).mono ?_
  rintro e w1 ⟨A1, n1, c1, rfl, b1, s1⟩
  go_wp2_with fail
  refine (rect_st 9 s1 (by omega) (by omega)).mono ?_
  rintro e w2 ⟨A2, c2, T, P2, rfl, hM, hS, s2, _⟩
  go_wp2
  go_ret
  exact ⟨A2, c2, T, rfl, b1.trans (s2.only.below (Nat.le_refl _) b1.size), hM.mono b1.size (Nat.le_refl _), hS⟩

set_option maxHeartbeats 1000000 in
theorem drawSidesOf_any (A : Option Addr) (n c : Nat) (w : World) (h : Bytes w w.heap.size A n) (hc : n ≤ c) (hc2 : c ≤ 9223372036854775807) :
    Calls Try.prog 35 #[.slice A n c] w (Drawn w) := by
  go_enter Try.func35, Try.ntmps35
  go_wp2_with fail
  refine (open_any A n c w h hc hc2).mono ?_
  rintro e w1 ⟨A1, n1, c1, rfl, b1, s1⟩
  go_wp2_with fail
  refine (rect_st 9 s1 (by omega) (by omega)).mono ?_
  rintro e w2 ⟨A2, c2, T, P2, rfl, hM, hS, s2, _⟩
  go_wp2
  go_ret
  exact ⟨A2, c2, T, rfl, b1.trans (s2.only.below (Nat.le_refl _) b1.size), hM.mono b1.size (Nat.le_refl _), hS⟩

set_option maxHeartbeats 1000000 in
theorem drawNamedAs_any (A : Option Addr) (n c : Nat) (w : World) (h : Bytes w w.heap.size A n) (hc : n ≤ c) (hc2 : c ≤ 9223372036854775807) :
    Calls Try.prog 37 #[.slice A n c] w (Drawn w) := by
  go_enter Try.func37, Try.ntmps37
  go_wp2_with fail
  refine (open_any A n c w h hc hc2).mono ?_
  rintro e w1 ⟨A1, n1, c1, rfl, b1, s1⟩
  go_wp2_with fail
  refine (rect_st 9 s1 (by omega) (by omega)).mono ?_
  rintro e w2 ⟨A2, c2, T, P2, rfl, hM, hS, s2, _⟩
  go_wp2
  go_ret
  exact ⟨A2, c2, T, rfl, b1.trans (s2.only.below (Nat.le_refl _) b1.size), hM.mono b1.size (Nat.le_refl _), hS⟩

/-- Two drawn numbers. -/
def DrawnN (w : World) (e : Ending) (w' : World) : Prop := ∃ a b : Nat, e = .returned (.tuple #[.int .i64 (a : Nat), .int .i64 (b : Nat)]) ∧ Below w.heap.size w w' ∧ a ≤ 9 ∧ b ≤ 20
set_option maxHeartbeats 1000000 in
theorem drawRectangleOf_any (A : Option Addr) (n c : Nat) (w : World) (h : Bytes w w.heap.size A n) (hc : n ≤ c) (hc2 : c ≤ 9223372036854775807) :
    Calls Try.prog 15 #[.slice A n c] w (DrawnN w) := by
  go_enter Try.func15, Try.ntmps15
  go_wp2_with fail
  refine (open_any A n c w h hc hc2).mono ?_
  rintro e w1 ⟨A1, n1, c1, rfl, b1, s1⟩
  go_wp2_with fail
  refine (pick_st 5 s1 (by omega) (by omega) (by omega)).mono ?_
  rintro e w2 ⟨k2, rfl, hk2, s2, o2⟩
  go_wp2_with fail
  refine (pick_st 5 s2 (by omega) (by omega) (by omega)).mono ?_
  rintro e w3 ⟨k3, rfl, hk3, s3, o3⟩
  go_wp2_with fail
  refine (pick_st 20 s3 (by omega) (by omega) (by omega)).mono ?_
  rintro e w4 ⟨k4, rfl, hk4, s4, o4⟩
  obtain ⟨q1, q2, q3, q4⟩ := wrapQ (k4 : Int) 19 (by omega) (by omega) (by omega)
  have q5 : 0 ≤ (k4 : Int) / 19 := by omega
  have q6 : (k4 : Int) / 19 ≤ 1 := by omega
  have fin : DrawnN w (.returned (.tuple #[.int .i64 (k2 : Nat), .int .i64 ((k3 : Int) + (k4 : Int) / 19 * 9)])) w4 :=
    ⟨k2, k3 + k4 / 19 * 9, by simp, b1.trans (s4.only.below (Nat.le_refl _) b1.size), by omega, by omega⟩
  have FIN := hide fin
  clear fin
  go_wp2
  go_ret2
  exact FIN.out
end Go.Proofs.Ytcegjiiondmchac
